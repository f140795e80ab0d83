/-
  sameState: two that stand the same.
-/
import Derived.Test.YthebokkogeigoaaSState
import Derived.Deep.CutBlock
namespace Go.Proofs.Ythebokkogeigoaa
open Go.RowKit
set_option linter.unusedVariables false
set_option linter.unusedSimpArgs false
set_option maxRecDepth 100000

set_option maxHeartbeats 16000000 in
theorem sameState_yes {F G : Nat → Prop} {aa ba : Option Addr} {n ac bc : Nat} {ss : Nat → Ps} (w : World) (ha : Sr w F aa n ac ss) (hb : Sr w G ba n bc ss) :
    Calls Try.prog 40 #[.slice aa n ac, .slice ba n bc] w fun r w' => r = .returned (.bool true) ∧ Kept No w w' := by
  have a1 := ha.cap
  have a2 := ha.max
  have a3 := ha.sm
  have b1 := hb.cap
  have b2 := hb.max
  have HA := hid ha
  have HB := hid hb
  clear ha hb
  go_enter Try.func40, Try.ntmps40
  go_wp2
  go_loopw [5] (fun i wr => ∃ (k : Nat), k ≤ n ∧ i = .int .i64 k ∧ Kept No w wr) (fun i _ => n - (intOf i).toNat)
  case atStart => exact ⟨0, Nat.zero_le _, rfl, Kept.refl _ _⟩
  case round =>
    obtain ⟨k, hk, rfl, kr⟩ := hrel
    by_cases hlt : k < n
    · have hltz : (k : Int) < (n : Int) := by omega
      obtain ⟨ab, ao, qa, qn, qc, da, dn, dc, rfl, _, t0, t1, t2, t3, t4, hm, hz, hdn⟩ := (HA.out.kept kr (fun _ _ e => e)).row hlt
      obtain ⟨bb, bo, ra, rn, rc, ea, en, ec, rfl, _, y0, y1, y2, y3, y4, hm', hz', hen⟩ := (HB.out.kept kr (fun _ _ e => e)).row hlt
      generalize ss k = s at *
      obtain rfl : rn = qn := by rw [← hm.len, ← hm'.len]
      obtain rfl : en = dn := by rw [← hz.len, ← hz'.len]
      have m1 := hm.cap
      have m2 := hm.max
      have m3 := hm'.cap
      have m4 := hm'.max
      have m5 := hm.sm
      have z1 := hz.cap
      have z2 := hz.max
      have z3 := hz'.cap
      have z4 := hz'.max
      have KR := hid kr
      have HM := hid (And.intro hm (And.intro hz (And.intro hm' hz')))
      have v0 := ((Kept.refl No wr).alloc (.cells #[.slice qa rn qc, .bool s.has, .int .i64 s.tk, .slice da en dc, .int .i64 s.lost] 61)).cell y0 (fun e => e)
      have v1 := ((Kept.refl No wr).alloc (.cells #[.slice qa rn qc, .bool s.has, .int .i64 s.tk, .slice da en dc, .int .i64 s.lost] 61)).cell y1 (fun e => e)
      have v2 := ((Kept.refl No wr).alloc (.cells #[.slice qa rn qc, .bool s.has, .int .i64 s.tk, .slice da en dc, .int .i64 s.lost] 61)).cell y2 (fun e => e)
      have v3 := ((Kept.refl No wr).alloc (.cells #[.slice qa rn qc, .bool s.has, .int .i64 s.tk, .slice da en dc, .int .i64 s.lost] 61)).cell y3 (fun e => e)
      have v4 := ((Kept.refl No wr).alloc (.cells #[.slice qa rn qc, .bool s.has, .int .i64 s.tk, .slice da en dc, .int .i64 s.lost] 61)).cell y4 (fun e => e)
      clear kr hm hz hm' hz' y0 y1 y2 y3 y4
      go_upto_region 8 with fail
      clear v0 v1 v2 v3 v4 t0 t1 t2 t3 t4
      have K2 : Kept No wr ((wr.alloc (.cells #[.slice qa rn qc, .bool s.has, .int .i64 s.tk, .slice da en dc, .int .i64 s.lost] 61)).alloc (.cells #[.slice ra rn rc, .bool s.has, .int .i64 s.tk, .slice ea en ec, .int .i64 s.lost] 61)) := ((Kept.refl No wr).alloc _).alloc _
      have BA : ((wr.alloc (.cells #[.slice qa rn qc, .bool s.has, .int .i64 s.tk, .slice da en dc, .int .i64 s.lost] 61)).alloc (.cells #[.slice ra rn rc, .bool s.has, .int .i64 s.tk, .slice ea en ec, .int .i64 s.lost] 61)).heap[wr.heap.size]? = some (.cells #[.slice qa rn qc, .bool s.has, .int .i64 s.tk, .slice da en dc, .int .i64 s.lost] 61) := ((Kept.refl No _).alloc _).at' (alloc_new wr _) (fun e => e)
      have BB : ((wr.alloc (.cells #[.slice qa rn qc, .bool s.has, .int .i64 s.tk, .slice da en dc, .int .i64 s.lost] 61)).alloc (.cells #[.slice ra rn rc, .bool s.has, .int .i64 s.tk, .slice ea en ec, .int .i64 s.lost] 61)).heap[wr.heap.size + 1]? = some (.cells #[.slice ra rn rc, .bool s.has, .int .i64 s.tk, .slice ea en ec, .int .i64 s.lost] 61) := by
        have := alloc_new (wr.alloc (.cells #[.slice qa rn qc, .bool s.has, .int .i64 s.tk, .slice da en dc, .int .i64 s.lost] 61)) (.cells #[.slice ra rn rc, .bool s.has, .int .i64 s.tk, .slice ea en ec, .int .i64 s.lost] 61)
        rw [World.size_alloc] at this
        exact this
      have x0 : ((wr.alloc (.cells #[.slice qa rn qc, .bool s.has, .int .i64 s.tk, .slice da en dc, .int .i64 s.lost] 61)).alloc (.cells #[.slice ra rn rc, .bool s.has, .int .i64 s.tk, .slice ea en ec, .int .i64 s.lost] 61)).cell? ⟨wr.heap.size, 0, none⟩ = some (.slice qa rn qc) := (cell_blk BA 0).trans rfl
      have y0 : ((wr.alloc (.cells #[.slice qa rn qc, .bool s.has, .int .i64 s.tk, .slice da en dc, .int .i64 s.lost] 61)).alloc (.cells #[.slice ra rn rc, .bool s.has, .int .i64 s.tk, .slice ea en ec, .int .i64 s.lost] 61)).cell? ⟨wr.heap.size + 1, 0, none⟩ = some (.slice ra rn rc) := (cell_blk BB 0).trans rfl
      have x1 : ((wr.alloc (.cells #[.slice qa rn qc, .bool s.has, .int .i64 s.tk, .slice da en dc, .int .i64 s.lost] 61)).alloc (.cells #[.slice ra rn rc, .bool s.has, .int .i64 s.tk, .slice ea en ec, .int .i64 s.lost] 61)).cell? ⟨wr.heap.size, 1, none⟩ = some (.bool s.has) := (cell_blk BA 1).trans rfl
      have y1 : ((wr.alloc (.cells #[.slice qa rn qc, .bool s.has, .int .i64 s.tk, .slice da en dc, .int .i64 s.lost] 61)).alloc (.cells #[.slice ra rn rc, .bool s.has, .int .i64 s.tk, .slice ea en ec, .int .i64 s.lost] 61)).cell? ⟨wr.heap.size + 1, 1, none⟩ = some (.bool s.has) := (cell_blk BB 1).trans rfl
      have x2 : ((wr.alloc (.cells #[.slice qa rn qc, .bool s.has, .int .i64 s.tk, .slice da en dc, .int .i64 s.lost] 61)).alloc (.cells #[.slice ra rn rc, .bool s.has, .int .i64 s.tk, .slice ea en ec, .int .i64 s.lost] 61)).cell? ⟨wr.heap.size, 2, none⟩ = some (.int .i64 s.tk) := (cell_blk BA 2).trans rfl
      have y2 : ((wr.alloc (.cells #[.slice qa rn qc, .bool s.has, .int .i64 s.tk, .slice da en dc, .int .i64 s.lost] 61)).alloc (.cells #[.slice ra rn rc, .bool s.has, .int .i64 s.tk, .slice ea en ec, .int .i64 s.lost] 61)).cell? ⟨wr.heap.size + 1, 2, none⟩ = some (.int .i64 s.tk) := (cell_blk BB 2).trans rfl
      have x3 : ((wr.alloc (.cells #[.slice qa rn qc, .bool s.has, .int .i64 s.tk, .slice da en dc, .int .i64 s.lost] 61)).alloc (.cells #[.slice ra rn rc, .bool s.has, .int .i64 s.tk, .slice ea en ec, .int .i64 s.lost] 61)).cell? ⟨wr.heap.size, 3, none⟩ = some (.slice da en dc) := (cell_blk BA 3).trans rfl
      have y3 : ((wr.alloc (.cells #[.slice qa rn qc, .bool s.has, .int .i64 s.tk, .slice da en dc, .int .i64 s.lost] 61)).alloc (.cells #[.slice ra rn rc, .bool s.has, .int .i64 s.tk, .slice ea en ec, .int .i64 s.lost] 61)).cell? ⟨wr.heap.size + 1, 3, none⟩ = some (.slice ea en ec) := (cell_blk BB 3).trans rfl
      have x4 : ((wr.alloc (.cells #[.slice qa rn qc, .bool s.has, .int .i64 s.tk, .slice da en dc, .int .i64 s.lost] 61)).alloc (.cells #[.slice ra rn rc, .bool s.has, .int .i64 s.tk, .slice ea en ec, .int .i64 s.lost] 61)).cell? ⟨wr.heap.size, 4, none⟩ = some (.int .i64 s.lost) := (cell_blk BA 4).trans rfl
      have y4 : ((wr.alloc (.cells #[.slice qa rn qc, .bool s.has, .int .i64 s.tk, .slice da en dc, .int .i64 s.lost] 61)).alloc (.cells #[.slice ra rn rc, .bool s.has, .int .i64 s.tk, .slice ea en ec, .int .i64 s.lost] 61)).cell? ⟨wr.heap.size + 1, 4, none⟩ = some (.int .i64 s.lost) := (cell_blk BB 4).trans rfl
      have sm := same_any _ (HM.out.2.1.kept K2 (fun _ _ e => e)) (HM.out.2.2.2.kept K2 (fun _ _ e => e))
      have K2' := hid K2
      clear K2 BA BB
      generalize (wr.alloc (.cells #[.slice qa rn qc, .bool s.has, .int .i64 s.tk, .slice da en dc, .int .i64 s.lost] 61)).alloc (.cells #[.slice ra rn rc, .bool s.has, .int .i64 s.tk, .slice ea en ec, .int .i64 s.lost] 61) = w2 at *
      generalize wr.heap.size + 1 = yb at *
      generalize wr.heap.size = xb at *
      go_cut [69] (fun x wd => x = .bool false ∧ Kept No w2 wd)
      case first =>
        go_wp2_with (go_at_call 12; refine sm.mono ?_; rintro r w3 ⟨rfl, k3⟩; have K3 := hid k3; clear k3 sm)
        go_meet
        exact ⟨rfl, K3.out⟩
      case rest =>
      obtain ⟨rfl, kc⟩ := hcut
      rename World => w4
      have K4 := hid kc
      clear sm kc x1 x2 x3 x4 y1 y2 y3 y4
      go_wp2
      go_loopw [8] (fun i wr => ∃ (j : Nat), j ≤ rn ∧ i = .int .i64 j ∧ Kept No w2 wr) (fun i _ => rn - (intOf i).toNat)
      case atStart => exact ⟨0, Nat.zero_le _, rfl, K4.out⟩
      case round =>
        clear K4
        rename World => w5
        obtain ⟨j, hj, rfl, k5⟩ := hrel
        have c0 := k5.cell x0 (fun e => e)
        have c1 := k5.cell y0 (fun e => e)
        by_cases hltj : j < rn
        · have hltjz : (j : Int) < (rn : Int) := by omega
          obtain ⟨pb, po, ga, gn, gc, rfl, _, g0, gz, _⟩ := HM.out.1.at' j hltj
          obtain ⟨rb, ro, fa, fn, fc, rfl, _, f0, fz, _⟩ := HM.out.2.2.1.at' j hltj
          obtain rfl : fn = gn := by rw [← gz.len, ← fz.len]
          have kw5 : Kept No wr w5 := K2'.out.trans k5 (fun _ e => .inl e)
          have g1 := kw5.cell g0 (fun e => e)
          have f1 := kw5.cell f0 (fun e => e)
          have q1 := gz.cap
          have q2 := gz.max
          have q3 := fz.cap
          have q4 := fz.max
          have SM : Hid (∀ W, Kept No w5 W → Calls Try.prog 12 #[.slice ga fn gc, .slice fa fn fc] W fun r w' => r = .returned (.bool true) ∧ Kept No W w') := fun W kW => same_any W (gz.kept (kw5.trans kW (fun _ e => .inl e)) (fun _ _ e => e)) (fz.kept (kw5.trans kW (fun _ e => .inl e)) (fun _ _ e => e))
          have K5 := hid k5
          clear gz fz kw5 g0 f0 k5
          go_upto_region 13 with fail
          go_cut [88] (fun x wd => x = .bool false ∧ Kept No w5 wd)
          case first =>
            go_region_with (go_at_call 12; refine (SM.out _ (by first | exact (Kept.refl No w5).drew | exact Kept.refl No w5)).mono ?_; rintro r w6 ⟨rfl, k6⟩; have K6 := hid k6; clear k6)
            all_goals
              go_wp2
              go_meet
              first
                | exact ⟨rfl, K6.out⟩
                | exact ⟨rfl, ((Kept.refl No w5).drew).trans K6.out (fun _ e => .inl e)⟩
          case rest =>
          obtain ⟨rfl, kc⟩ := hcut
          rename World => w7
          have K7 := hid (K5.out.trans kc (fun _ e => .inl e))
          clear kc SM c0 c1 g1 f1
          go_wp2
          refine ⟨⟨j + 1, by omega, by go_num, K7.out⟩, ?_⟩
          simp [intOf]; omega
        · have hltjz : ¬ (j : Int) < (rn : Int) := by omega
          have K5 := hid k5
          clear k5
          go_wp2
          refine ⟨⟨k + 1, by omega, by go_num, (KR.out.trans K2'.out (fun _ e => .inl e)).trans K5.out (fun _ e => .inl e)⟩, ?_⟩
          simp [intOf]; omega
    · have hltz : ¬ (k : Int) < (n : Int) := by omega
      have KR := hid kr
      clear kr
      go_wp2
      go_ret
      exact ⟨rfl, KR.out⟩
end Go.Proofs.Ythebokkogeigoaa
