/-
  spared: the marks behind the lists are as they were.
-/
import Derived.Test.YtggkajopfbokjaaORoomy
import Derived.Test.YtggkajopfbokjaaOIntact
namespace Go.Proofs.Ytggkajopfbokjaa
open Go.RowKit
set_option linter.unusedVariables false
set_option maxRecDepth 100000

section
variable {w : World} {a : Act} {o : Oper}
theorem er_add1 (x : Operand) (ho : o.op = .binOp .add 3 x (.const (.int .i64 1)) 3) (n : Nat) (hx : a.eval x = .int .i64 (n : Int)) (hb : n ≤ 1099511627775) : (execOp a.eval o).run Try.prog w = .ok (.value (.int .i64 ((n + 1 : Nat) : Int))) w := by
  have hw : IntKind.i64.wrap ((n : Int) + 1) = (n : Int) + 1 := by
    rw [IntWalk.i64_left]
    unfold wrap64
    omega
  have hy : a.eval (.const (.int .i64 1)) = .int .i64 1 := rfl
  simp only [execOp, ho, hx, hy]; simp [go_sem, hw]
theorem er_u1W (x y : Operand) (ho : o.op = .slice 31 x none (some y) none) (g n c : Nat) (hx : a.eval x = .slice (some ⟨g, 0, none⟩) n c) (hy : a.eval y = .int .i64 ((n + 1 : Nat) : Int)) (hc : n + 1 ≤ c) : (execOp a.eval o).run Try.prog w = .ok (.value (.slice (some ⟨g, 0, none⟩) (n + 1) c)) w := by
  have h1 : (n : Int) + 1 ≤ (c : Int) := by omega
  have h2 : ¬ c = 0 := by omega
  have h4 : 0 ≤ (n : Int) + 1 := by omega
  have h5 : ((n : Int) + 1).toNat = n + 1 := by omega
  simp only [execOp, ho, Option.map_some, Option.map_none, hx, hy]; simp [go_sem, h1, h2, h4, h5]
end

set_option maxHeartbeats 16000000 in
theorem spared_yes {B hb : Nat} {ts te tb : Value} {cs : List Int} {us lvs : List Value} {mss : List (List Value)} {xss : List (List (List Int))} (w : World) (hc : cs.length ≤ 4095) (hu : us.length ≤ 4095) (hl : lvs.length ≤ 4095) (hx : ∀ xs ∈ xss, xs.length ≤ 1099511627775 ∧ ∀ x ∈ xs, x.length ≤ 1099511627775)
    (r1 : Rw w B 3 1 ts cs.length (cs.map iv) [.int .i64 (-77)]) (r2 : Rw w B 4 1 te us.length us [.bool true]) (r3 : Rw w B 40 1 tb lvs.length lvs [.slice (some ⟨hb, 0, none⟩) 1 1]) (l1 : mss.length = lvs.length) (l2 : xss.length = lvs.length)
    (ent : ∀ (i : Nat) (lv : Value) (ms : List Value) (xs : List (List Int)), lvs[i]? = some lv → mss[i]? = some ms → xss[i]? = some xs → Lr w B lv ms xs) :
    Calls Try.prog 21 #[.agg #[ts, te, tb]] w fun e w' => e = .returned (.bool true) ∧ Kept No w w' := by
  have p1 := r1
  obtain ⟨g1, c1, rfl, y1, y1', _⟩ := p1
  have p2 := r2
  obtain ⟨g2, c2, rfl, y2, y2', _⟩ := p2
  have p3 := r3
  obtain ⟨g3, c3, rfl, y3, y3', _⟩ := p3
  have m1 : w.cell? ⟨g1, cs.length, none⟩ = some (.int .i64 (-77)) := by have := r1.at_mk (by rw [List.length_map]; omega) (j := 0) rfl; rwa [Nat.mul_one, Nat.add_zero] at this
  have m2 : w.cell? ⟨g2, us.length, none⟩ = some (.bool true) := by have := r2.at_mk (by omega) (j := 0) rfl; rwa [Nat.mul_one, Nat.add_zero] at this
  have m3 : w.cell? ⟨g3, lvs.length, none⟩ = some (.slice (some ⟨hb, 0, none⟩) 1 1) := by have := r3.at_mk (by omega) (j := 0) rfl; rwa [Nat.mul_one, Nat.add_zero] at this
  have HE : Hid ((∀ i v, lvs[i]? = some v → w.cell? ⟨g3, i, none⟩ = some v) ∧ (∀ (i : Nat) (lv : Value) (ms : List Value) (xs : List (List Int)), lvs[i]? = some lv → mss[i]? = some ms → xss[i]? = some xs → Lr w B lv ms xs) ∧ mss.length = lvs.length ∧ xss.length = lvs.length ∧ (∀ xs ∈ xss, xs.length ≤ 1099511627775 ∧ ∀ x ∈ xs, x.length ≤ 1099511627775)) := ⟨fun i v hv => r3.at_xs hv, ent, l1, l2, hx⟩
  have HM := hid m3
  have B1 : Hid (Kept No w (w.alloc (.cells #[.slice (some ⟨g1, 0, none⟩) cs.length c1, .slice (some ⟨g2, 0, none⟩) us.length c2, .slice (some ⟨g3, 0, none⟩) lvs.length c3] 55)) ∧ (w.alloc (.cells #[.slice (some ⟨g1, 0, none⟩) cs.length c1, .slice (some ⟨g2, 0, none⟩) us.length c2, .slice (some ⟨g3, 0, none⟩) lvs.length c3] 55)).heap[w.heap.size]? = some (.cells #[.slice (some ⟨g1, 0, none⟩) cs.length c1, .slice (some ⟨g2, 0, none⟩) us.length c2, .slice (some ⟨g3, 0, none⟩) lvs.length c3] 55)) := ⟨(Kept.refl No w).alloc _, alloc_new w _⟩
  have BC : Hid (∀ W, Kept No (w.alloc (.cells #[.slice (some ⟨g1, 0, none⟩) cs.length c1, .slice (some ⟨g2, 0, none⟩) us.length c2, .slice (some ⟨g3, 0, none⟩) lvs.length c3] 55)) W → Kept No w W ∧ W.cell? ⟨w.heap.size, 0, none⟩ = some (.slice (some ⟨g1, 0, none⟩) cs.length c1) ∧ W.cell? ⟨w.heap.size, 1, none⟩ = some (.slice (some ⟨g2, 0, none⟩) us.length c2) ∧ W.cell? ⟨w.heap.size, 2, none⟩ = some (.slice (some ⟨g3, 0, none⟩) lvs.length c3)) := fun W k => by
    have h1 := k.at' B1.out.2 (fun e => e)
    exact ⟨B1.out.1.trans k (fun _ e => e.elim), (cell_blk h1 0).trans rfl, (cell_blk h1 1).trans rfl, (cell_blk h1 2).trans rfl⟩
  obtain ⟨kw, d0, d1, d2⟩ := BC.out _ (Kept.refl No _)
  have e1 := kw.cell m1 (fun e => e)
  have e2 := kw.cell m2 (fun e => e)
  clear r1 r2 r3 m1 m2 m3 ent l1 l2 hx kw
  go_enter Try.func21, Try.ntmps21
  go_upto_region 1 with fail
  generalize (w.alloc (.cells #[.slice (some ⟨g1, 0, none⟩) cs.length c1, .slice (some ⟨g2, 0, none⟩) us.length c2, .slice (some ⟨g3, 0, none⟩) lvs.length c3] 55)) = w1 at *
  go_region
  go_upto_region 3 with fail
  clear d0 d1 d2 e1 e2
  go_loopw [3, 4] (fun u x wr => ∃ (k : Nat), k ≤ lvs.length ∧ u = .bool true ∧ x = .int .i64 k ∧ Kept No w1 wr) (fun u x _ => lvs.length - (intOf x).toNat)
  case atStart => exact ⟨0, Nat.zero_le _, rfl, rfl, (Kept.refl No _).drew⟩
  case round =>
    obtain ⟨k, hk, rfl, rfl, kk⟩ := hrel
    have HK := hid kk
    obtain ⟨kw, d0, d1, d2⟩ := BC.out _ kk
    clear kk
    by_cases hlt : k < lvs.length
    · have hltz : (k : Int) < (lvs.length : Int) := by omega
      have g1' : lvs[k]? = some lvs[k] := List.getElem?_eq_getElem hlt
      have hl1 : k < mss.length := by rw [HE.out.2.2.1]; exact hlt
      have hl2 : k < xss.length := by rw [HE.out.2.2.2.1]; exact hlt
      have g2' : mss[k]? = some mss[k] := List.getElem?_eq_getElem hl1
      have g3' : xss[k]? = some xss[k] := List.getElem?_eq_getElem hl2
      have L := HE.out.2.1 k _ _ _ g1' g2' g3'
      have hbx := HE.out.2.2.2.2 _ (List.mem_of_getElem? g3')
      have e4 := kw.cell (HE.out.1 k _ g1') (fun e => e)
      generalize mss[k] = ms at *
      generalize xss[k] = xs at *
      obtain ⟨h, rL, hblk⟩ := L.own
      have pL := rL
      obtain ⟨g4, c4, hlv, y4, y4', _⟩ := pL
      rw [hlv] at e4 rL
      have hml : ms.length ≤ 1099511627775 := by rw [← L.len]; exact hbx.1
      have n1 : w.cell? ⟨g4, ms.length, none⟩ = some (.slice (some ⟨h, 0, none⟩) 1 1) := by have := rL.at_mk (by omega) (j := 0) rfl; rwa [Nat.mul_one, Nat.add_zero] at this
      have e5 := kw.cell n1 (fun e => e)
      have e6 := kw.cell ((cell_blk hblk 0).trans rfl) (fun e => e)
      have HL : Hid (xs.length = ms.length ∧ (∀ i v, ms[i]? = some v → w.cell? ⟨g4, i, none⟩ = some v) ∧ (∀ (j : Nat) (v : Value) (x : List Int), ms[j]? = some v → xs[j]? = some x → Rw w B 2 1 v x.length (x.map iv) [.int .i64 (-77)]) ∧ (∀ x ∈ xs, x.length ≤ 1099511627775) ∧ w.cell? ⟨g3, k, none⟩ = some (.slice (some ⟨g4, 0, none⟩) ms.length c4)) := ⟨L.len, fun i v hv => rL.at_xs hv, L.msg, hbx.2, by rw [← hlv]; exact HE.out.1 k _ g1'⟩
      clear L rL hbx g1' g2' g3' hl1 hl2 hlv n1 hblk kw d0 d1
      go_upto_region 5 with fail
      go_region
      go_upto_region 8 with fail
      clear d2 e4 e5 e6
      go_loopw [3, 6] (fun u x wi => ∃ (j : Nat), j ≤ ms.length ∧ u = .bool true ∧ x = .int .i64 j ∧ Kept No w1 wi) (fun u x _ => ms.length - (intOf x).toNat)
      case atStart => exact ⟨0, Nat.zero_le _, by simp, rfl, HK.out.drew⟩
      case round =>
        clear HK
        obtain ⟨j, hj, rfl, rfl, kk⟩ := hrel
        have HK := hid kk
        obtain ⟨kw, d0, d1, d2⟩ := BC.out _ kk
        have e4 := kw.cell HL.out.2.2.2.2 (fun e => e)
        clear kk d0 d1
        by_cases hlt3 : j < ms.length
        · have hltz3 : (j : Int) < (ms.length : Int) := by omega
          have hjx : j < xs.length := by rw [HL.out.1]; exact hlt3
          have g1' : ms[j]? = some ms[j] := List.getElem?_eq_getElem hlt3
          have g2' : xs[j]? = some xs[j] := List.getElem?_eq_getElem hjx
          have rM := HL.out.2.2.1 j _ _ g1' g2'
          have e5 := kw.cell (HL.out.2.1 j _ g1') (fun e => e)
          have hxl := HL.out.2.2.2.1 _ (List.mem_of_getElem? g2')
          generalize xs[j] = x at *
          have pM := rM
          obtain ⟨g5, c5, hlv, y5, y5', _⟩ := pM
          rw [hlv] at e5 rM
          have n1 : w.cell? ⟨g5, x.length, none⟩ = some (.int .i64 (-77)) := by have := rM.at_mk (by rw [List.length_map]; omega) (j := 0) rfl; rwa [Nat.mul_one, Nat.add_zero] at this
          have e6 := kw.cell n1 (fun e => e)
          clear rM g1' g2' hlv n1 kw
          go_upto_region 10 with fail
          obtain ⟨wz, hwz⟩ : ∃ wz, wz = wr := ⟨_, rfl⟩
          subst hwz
          have hS0 : (wz.drew.cell? ⟨w.heap.size, 2, none⟩ = some (.slice (some ⟨g3, 0, none⟩) lvs.length c3) ∧ wz.drew.cell? ⟨g3, 0 + k, none⟩ = some (.slice (some ⟨g4, 0, none⟩) ms.length c4) ∧ wz.drew.cell? ⟨g4, 0 + j, none⟩ = some (.slice (some ⟨g5, 0, none⟩) x.length c5)) := by rw [Nat.zero_add, Nat.zero_add]; exact ⟨d2, e4, e5⟩
          have HC := hid (And.intro d2 (And.intro e4 (And.intro e5 e6)))
          clear d2 e4 e5 e6
          refine wp_region_held_drew (S := fun w' => (w'.cell? ⟨w.heap.size, 2, none⟩ = some (.slice (some ⟨g3, 0, none⟩) lvs.length c3) ∧ w'.cell? ⟨g3, 0 + k, none⟩ = some (.slice (some ⟨g4, 0, none⟩) ms.length c4) ∧ w'.cell? ⟨g4, 0 + j, none⟩ = some (.slice (some ⟨g5, 0, none⟩) x.length c5))) (by kernel_rfl) hS0 (fun hS => ?_)
          refine d_take 0 88 rfl rfl (by kernel_rfl) (by kernel_rfl) (by kernel_rfl) (fun _ _ _ h => h) rfl (fun w' hw' => er_fO2 _ rfl w.heap.size rfl) hS ?_
          simp only [Act.put, List.setIfInBounds_toArray, List.set_cons_zero, List.set_cons_succ]
          refine d_take 1 89 rfl rfl (by kernel_rfl) (by kernel_rfl) (by kernel_rfl) (fun _ _ _ h => h) rfl (fun w' hw' => er_ldBB _ rfl w.heap.size 2 _ rfl hw'.1) hS ?_
          simp only [Act.put, List.setIfInBounds_toArray, List.set_cons_zero, List.set_cons_succ]
          refine d_take 2 90 rfl rfl (by kernel_rfl) (by kernel_rfl) (by kernel_rfl) (fun _ _ _ h => h) rfl (fun w' hw' => er_mv _ rfl (.int .i64 (k : Int)) rfl) hS ?_
          simp only [Act.put, List.setIfInBounds_toArray, List.set_cons_zero, List.set_cons_succ]
          refine d_take 3 91 rfl rfl (by kernel_rfl) (by kernel_rfl) (by kernel_rfl) (fun _ _ _ h => h) rfl (fun w' hw' => er_ixBB _ _ rfl g3 0 k lvs.length c3 rfl rfl hlt) hS ?_
          simp only [Act.put, List.setIfInBounds_toArray, List.set_cons_zero, List.set_cons_succ]
          refine d_take 4 92 rfl rfl (by kernel_rfl) (by kernel_rfl) (by kernel_rfl) (fun _ _ _ h => h) rfl (fun w' hw' => er_ldLL _ rfl g3 (0 + k) _ rfl hw'.2.1) hS ?_
          simp only [Act.put, List.setIfInBounds_toArray, List.set_cons_zero, List.set_cons_succ]
          refine d_take 5 93 rfl rfl (by kernel_rfl) (by kernel_rfl) (by kernel_rfl) (fun _ _ _ h => h) rfl (fun w' hw' => er_mv _ rfl (.int .i64 (j : Int)) rfl) hS ?_
          simp only [Act.put, List.setIfInBounds_toArray, List.set_cons_zero, List.set_cons_succ]
          refine d_take 6 94 rfl rfl (by kernel_rfl) (by kernel_rfl) (by kernel_rfl) (fun _ _ _ h => h) rfl (fun w' hw' => er_ixLL _ _ rfl g4 0 j ms.length c4 rfl rfl hlt3) hS ?_
          simp only [Act.put, List.setIfInBounds_toArray, List.set_cons_zero, List.set_cons_succ]
          refine d_take 7 95 rfl rfl (by kernel_rfl) (by kernel_rfl) (by kernel_rfl) (fun _ _ _ h => h) rfl (fun w' hw' => er_ldL _ rfl g4 (0 + j) _ rfl hw'.2.2) hS ?_
          simp only [Act.put, List.setIfInBounds_toArray, List.set_cons_zero, List.set_cons_succ]
          refine d_take 8 96 rfl rfl (by kernel_rfl) (by kernel_rfl) (by kernel_rfl) (fun _ _ _ h => h) rfl (fun w' hw' => er_fO2 _ rfl w.heap.size rfl) hS ?_
          simp only [Act.put, List.setIfInBounds_toArray, List.set_cons_zero, List.set_cons_succ]
          refine d_take 9 97 rfl rfl (by kernel_rfl) (by kernel_rfl) (by kernel_rfl) (fun _ _ _ h => h) rfl (fun w' hw' => er_ldBB _ rfl w.heap.size 2 _ rfl hw'.1) hS ?_
          simp only [Act.put, List.setIfInBounds_toArray, List.set_cons_zero, List.set_cons_succ]
          refine d_take 10 98 rfl rfl (by kernel_rfl) (by kernel_rfl) (by kernel_rfl) (fun _ _ _ h => h) rfl (fun w' hw' => er_mv _ rfl (.int .i64 (k : Int)) rfl) hS ?_
          simp only [Act.put, List.setIfInBounds_toArray, List.set_cons_zero, List.set_cons_succ]
          refine d_take 11 99 rfl rfl (by kernel_rfl) (by kernel_rfl) (by kernel_rfl) (fun _ _ _ h => h) rfl (fun w' hw' => er_ixBB _ _ rfl g3 0 k lvs.length c3 rfl rfl hlt) hS ?_
          simp only [Act.put, List.setIfInBounds_toArray, List.set_cons_zero, List.set_cons_succ]
          refine d_take 12 100 rfl rfl (by kernel_rfl) (by kernel_rfl) (by kernel_rfl) (fun _ _ _ h => h) rfl (fun w' hw' => er_ldLL _ rfl g3 (0 + k) _ rfl hw'.2.1) hS ?_
          simp only [Act.put, List.setIfInBounds_toArray, List.set_cons_zero, List.set_cons_succ]
          refine d_take 13 101 rfl rfl (by kernel_rfl) (by kernel_rfl) (by kernel_rfl) (fun _ _ _ h => h) rfl (fun w' hw' => er_mv _ rfl (.int .i64 (j : Int)) rfl) hS ?_
          simp only [Act.put, List.setIfInBounds_toArray, List.set_cons_zero, List.set_cons_succ]
          refine d_take 14 102 rfl rfl (by kernel_rfl) (by kernel_rfl) (by kernel_rfl) (fun _ _ _ h => h) rfl (fun w' hw' => er_ixLL _ _ rfl g4 0 j ms.length c4 rfl rfl hlt3) hS ?_
          simp only [Act.put, List.setIfInBounds_toArray, List.set_cons_zero, List.set_cons_succ]
          refine d_take 15 103 rfl rfl (by kernel_rfl) (by kernel_rfl) (by kernel_rfl) (fun _ _ _ h => h) rfl (fun w' hw' => er_ldL _ rfl g4 (0 + j) _ rfl hw'.2.2) hS ?_
          simp only [Act.put, List.setIfInBounds_toArray, List.set_cons_zero, List.set_cons_succ]
          refine d_take 16 104 rfl rfl (by kernel_rfl) (by kernel_rfl) (by kernel_rfl) (fun _ _ _ h => h) rfl (fun w' hw' => er_nW _ rfl (some ⟨g5, 0, none⟩) x.length c5 rfl) hS ?_
          simp only [Act.put, List.setIfInBounds_toArray, List.set_cons_zero, List.set_cons_succ]
          refine d_take 17 105 rfl rfl (by kernel_rfl) (by kernel_rfl) (by kernel_rfl) (fun _ _ _ h => h) rfl (fun w' hw' => er_add1 _ rfl x.length rfl hxl) hS ?_
          simp only [Act.put, List.setIfInBounds_toArray, List.set_cons_zero, List.set_cons_succ]
          refine d_take 18 106 rfl rfl (by kernel_rfl) (by kernel_rfl) (by kernel_rfl) (fun _ _ _ h => h) rfl (fun w' hw' => er_u1W _ _ rfl g5 x.length c5 rfl rfl y5) hS ?_
          simp only [Act.put, List.setIfInBounds_toArray, List.set_cons_zero, List.set_cons_succ]
          refine d_take 19 7 rfl rfl (by kernel_rfl) (by kernel_rfl) (by kernel_rfl) (fun _ _ _ h => h) rfl (fun w' hw' => er_as _ rfl (.slice (some ⟨g5, 0, none⟩) (x.length + 1) c5) rfl) hS ?_
          simp only [Act.put, List.setIfInBounds_toArray, List.set_cons_zero, List.set_cons_succ]
          refine wpAnyH_done (by kernel_rfl) ?_ _
          clear hS hS0
          obtain ⟨d2, e4, e5, e6⟩ := HC.out
          have e6 : wz.drew.cell? ⟨g5, x.length, none⟩ = some (.int .i64 (-77)) := e6
          go_wp2
          go_roundw
          case rel => exact ⟨j + 1, by omega, by simp, by go_num, HK.out.drew⟩
          case measure => simp [intOf]; omega
        · have hltz3 : ¬ (j : Int) < (ms.length : Int) := by omega
          clear kw
          go_wp2
          go_roundw
          case rel => exact ⟨k + 1, by omega, by simp, by go_num, HK.out⟩
          case measure => simp [intOf]; omega
    · have hltz : ¬ (k : Int) < (lvs.length : Int) := by omega
      have e7 := kw.cell HM.out (fun e => e)
      have HW := hid kw
      clear kw
      go_wp2
      go_ret
      exact ⟨rfl, HW.out⟩
end Go.Proofs.Ytggkajopfbokjaa
