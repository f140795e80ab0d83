/-
  PutList of numbers of two bytes.
-/
import Derived.Test.YtakdfpenpodplaaWrDone
import Derived.Test.YtakdfpenpodplaaRdCount
import Derived.Deep.Cut
namespace Go.Proofs.Ytakdfpenpodplaa
open Go.RowKit
set_option linter.unusedVariables false

/-- one element more -/
def plStep (s : List Nat × Int) (z : Int) : List Nat × Int := (numBs s.1 s.2 z 2, numE s.2 z 2)
theorem plStep_stuck (bs : List Nat) (e z : Int) (h : e ≠ 0) : plStep (bs, e) z = (bs, e) := by
  unfold plStep numBs numE; simp only; rw [if_pos h, if_pos h]
theorem plFold_stuck (zs : List Int) (bs : List Nat) (e : Int) (h : e ≠ 0) : zs.foldl plStep (bs, e) = (bs, e) := by
  induction zs with
  | nil => rfl
  | cons z zs ih => rw [List.foldl_cons, plStep_stuck bs e z h]; exact ih
theorem plFold_take (zs : List Int) (s : List Nat × Int) (k : Nat) (h : k < zs.length) : (zs.take (k + 1)).foldl plStep s = plStep ((zs.take k).foldl plStep s) (zs.getD k 0) := by
  rw [List.take_add_one, List.getElem?_eq_getElem h, List.foldl_append]
  simp [List.getD, h]
theorem plFold_rest (zs : List Int) (s : List Nat × Int) (k : Nat) (h : ((zs.take k).foldl plStep s).2 ≠ 0) : zs.foldl plStep s = (zs.take k).foldl plStep s := by
  have e : zs.foldl plStep s = (zs.drop k).foldl plStep ((zs.take k).foldl plStep s) := by rw [← List.foldl_append, List.take_append_drop]
  rw [e]
  generalize (zs.take k).foldl plStep s = S at h ⊢
  obtain ⟨b, f⟩ := S
  exact plFold_stuck _ _ _ h
theorem numBs_len (bs : List Nat) (e x : Int) (k : Nat) : (numBs bs e x k).length ≤ bs.length + k := by
  unfold numBs; split
  · omega
  · split
    · omega
    · rw [List.length_append, be_length]; omega
theorem plFold_len (zs : List Int) (s : List Nat × Int) (k : Nat) : ((zs.take k).foldl plStep s).1.length ≤ s.1.length + 2 * k := by
  induction k with
  | zero => simp
  | succ k ih =>
    by_cases h : k < zs.length
    · rw [plFold_take zs s k h]
      have := numBs_len ((zs.take k).foldl plStep s).1 ((zs.take k).foldl plStep s).2 (zs.getD k 0) 2
      show (numBs _ _ _ 2).length ≤ _
      omega
    · rw [List.take_of_length_le (by omega)] at ih ⊢; omega
/-- what the Writer holds behind a list -/
def pl (bs : List Nat) (e : Int) (zs : List Int) (most : Int) : List Nat × Int :=
  if e ≠ 0 then (bs, e) else if most < zs.length then (bs, 1) else zs.foldl plStep (numBs bs 0 zs.length 4, numE 0 zs.length 4)

theorem put63_any (F : Nat → Prop) (p : Nat) (bs : List Nat) (e x : Int) (w : World) (h : Wr w F p bs e) (hsz : bs.length ≤ 140737488355300) (hx : x ≤ 9223372036854775807) :
    Calls Try.prog 63 #[.pointer (some ⟨p, 0, none⟩), .int .i64 x] w fun ex w' => ex = .returned (.tuple #[]) ∧ WrDid F p (numBs bs e x 2) (numE e x 2) w w' := by
  have cc := u16_any F p bs e x w h hsz hx
  clear h
  go_enter Try.func63, Try.ntmps63
  go_wp2_with (go_at_call 49; refine cc.mono ?_; rintro ex w1 ⟨rfl, hd⟩)
  go_end0
  exact ⟨rfl, hd⟩

set_option maxHeartbeats 2000000 in
theorem putList1_63 (F G : Nat → Prop) (p : Nat) (bs : List Nat) (a : Option Addr) (n c : Nat) (zs : List Int) (most : Int) (w : World) (b1 b2 b3 b4 : Nat) (h : Wr w F p bs 0) (hZ : Zs w G a n c zs) (hGF : ∀ k, G k → ¬ F k) (hzb : ∀ z ∈ zs, z ≤ 9223372036854775807) (hsz : bs.length + 4 + 2 * n ≤ 140737488355300)
    (hn3 : ¬ F b3) (hn4 : ¬ F b4)
    (d1 : w.cell? ⟨b1, 0, none⟩ = some (.slice a n c)) (d2 : w.cell? ⟨b2, 0, none⟩ = some (.int .i64 most)) (d3 : w.cell? ⟨b3, 0, none⟩ = some (.pointer (some ⟨p, 0, none⟩))) (d4 : w.cell? ⟨b4, 0, none⟩ = some (.func (.func 63) #[] #[])) (hn1 : ¬ F b1) :
    Calls Try.prog 98 #[.pointer (some ⟨b1, 0, none⟩), .pointer (some ⟨b2, 0, none⟩), .pointer (some ⟨b3, 0, none⟩), .pointer (some ⟨b4, 0, none⟩)] w fun ex w' => ex = .returned (.int .i64 (pl bs 0 zs most).2) ∧ ∃ e1, WrDid F p (pl bs 0 zs most).1 e1 w w' := by
  have hl := hZ.len
  have HL : Hid (zs.length = n) := hl
  have HZ : Hid (Zs w G a n c zs) := hZ
  have HGF : Hid (∀ k, G k → ¬ F k) := hGF
  have HZB : Hid (∀ z ∈ zs, z ≤ 9223372036854775807) := hzb
  have HW : Hid (Wr w F p bs 0) := h
  clear hZ hGF hzb h hl
  by_cases hm : most < (n : Int)
  · have e1 : pl bs 0 zs most = (bs, 1) := by unfold pl; rw [if_neg (by simp), if_pos (by rw [HL.out]; exact hm)]
    rw [e1]
    clear e1
    go_enter Try.func98, Try.ntmps98
    go_wp2
    go_ret
    exact ⟨rfl, 0, WrDid.still HW.out (Kept.refl _ _)⟩
  · obtain ⟨s0, hs0⟩ : ∃ s0, s0 = (numBs bs 0 n 4, numE 0 n 4) := ⟨_, rfl⟩
    have e1 : pl bs 0 zs most = zs.foldl plStep s0 := by unfold pl; rw [if_neg (by simp), if_neg (by rw [HL.out]; exact hm), HL.out, hs0]
    have c47 := u32_any F p bs 0 n w HW.out (by omega) (by have := HZ.out.cap; have := HZ.out.max; omega)
    have e2 : numBs bs 0 n 4 = s0.1 := by rw [hs0]
    have e3 : numE 0 n 4 = s0.2 := by rw [hs0]
    have hs0l : s0.1.length ≤ bs.length + 4 := by rw [← e2]; exact numBs_len _ _ _ _
    rw [e1]
    rw [e2, e3] at c47
    obtain ⟨fin, hfin⟩ : ∃ fin, fin = zs.foldl plStep s0 := ⟨_, rfl⟩
    have HFIN : Hid (fin = zs.foldl plStep s0) := hfin
    rw [← hfin]
    clear e1 e2 e3 hs0 hfin
    go_enter Try.func98, Try.ntmps98
    go_upto_region 4 with (go_at_call 47; refine c47.mono ?_; rintro ex w1 ⟨rfl, hd⟩)
    obtain ⟨F1, hw1, hk1, hf1⟩ := hd
    have D1 : w1.cell? ⟨b1, 0, none⟩ = some (.slice a n c) := hk1.cell d1 hn1
    have HW1 : Hid (Wr w1 F1 p s0.1 s0.2 ∧ Went F w w1 F1) := ⟨hw1, hk1, hf1⟩
    clear hw1 hk1 hf1 c47
    go_wp2
    go_loopw [17] (fun i wr => ∃ k : Nat, k ≤ n ∧ i = .int .i64 k ∧ ∃ F', Wr wr F' p ((zs.take k).foldl plStep s0).1 ((zs.take k).foldl plStep s0).2 ∧ Went F w wr F') (fun i _ => n - (intOf i).toNat)
    case atStart => exact ⟨0, by omega, rfl, F1, HW1.out.1, HW1.out.2⟩
    case round =>
      obtain ⟨k, hk, rfl, F', hwr, hwent⟩ := hrel
      clear HW1 D1
      have d3' : wr.cell? ⟨b3, 0, none⟩ = some (.pointer (some ⟨p, 0, none⟩)) := hwent.1.cell d3 hn3
      have d4' : wr.cell? ⟨b4, 0, none⟩ = some (.func (.func 63) #[] #[]) := hwent.1.cell d4 hn4
      have c1 := hwr.c1
      have hfl := plFold_len zs s0 k
      have HWENT : Hid (Went F w wr F') := hwent
      by_cases hlt : k < n
      · obtain ⟨b, o, rfl, hGb, hc0⟩ := HZ.out.at' k hlt
        obtain ⟨z, hz⟩ : ∃ z, z = zs.getD k 0 := ⟨_, rfl⟩
        have hkz : k < zs.length := by rw [HL.out]; exact hlt
        have dz : wr.cell? ⟨b, o + k, none⟩ = some (.int .i64 z) := by rw [hz]; exact hwent.1.cell hc0 (HGF.out b hGb)
        have hzl : z ≤ 9223372036854775807 := by
          have : zs.getD k 0 = zs[k] := by simp [List.getD, hkz]
          rw [hz, this]; exact HZB.out _ (List.getElem_mem _)
        have hst := plFold_take zs s0 k hkz
        have hrest := plFold_rest zs s0 k
        rw [← hz] at hst
        obtain ⟨S, hS⟩ : ∃ S, S = (zs.take k).foldl plStep s0 := ⟨_, rfl⟩
        rw [← hS] at hst hrest c1 hwr hfl
        obtain ⟨sb, se⟩ := S
        simp only at hst hrest c1 hwr hfl
        have HST : Hid ((zs.take (k + 1)).foldl plStep s0 = plStep (sb, se) z) := hst
        clear hc0 hst hz hS hwent
        by_cases hse : se = 0
        · subst hse
          have cp := put63_any F' p sb 0 z wr hwr (by omega) hzl
          clear hrest hwr
          go_wp2_with (go_at_call 63; refine cp.mono ?_; rintro ex w2 ⟨rfl, hd2⟩)
          go_roundw
          case rel =>
            obtain ⟨F2, hw2, hwe2⟩ := hd2
            refine ⟨k + 1, by omega, by go_num, F2, ?_, HWENT.out.trans hwe2⟩
            rw [HST.out]; exact hw2
          case measure => simp [intOf]; omega
        · have hse2 : (se == 0) = false := by simpa using hse
          have hff : fin = (sb, se) := HFIN.out.trans (hrest hse)
          subst hff
          have HWR : Hid (Wr wr F' p sb se) := hwr
          clear hrest hwr hse
          go_wp2
          go_ret
          exact ⟨rfl, se, F', HWR.out, HWENT.out⟩
      · have hkn : k = n := by omega
        subst hkn
        have hff : fin = (zs.take k).foldl plStep s0 := HFIN.out.trans (by rw [List.take_of_length_le (by rw [HL.out]; omega)])
        rw [← hff] at c1 hwr
        obtain ⟨sb, se⟩ := fin
        simp only at c1 hwr ⊢
        have HWR : Hid (Wr wr F' p sb se) := hwr
        clear hwr hff hfl hwent
        go_wp2
        go_ret
        exact ⟨rfl, se, F', HWR.out, HWENT.out⟩

set_option maxHeartbeats 1000000 in
theorem putList63_any (F G : Nat → Prop) (p : Nat) (bs : List Nat) (e : Int) (a : Option Addr) (n c : Nat) (zs : List Int) (most : Int) (w : World) (h : Wr w F p bs e) (hZ : Zs w G a n c zs) (hGF : ∀ k, G k → ¬ F k) (hzb : ∀ z ∈ zs, z ≤ 9223372036854775807) (hsz : bs.length + 4 + 2 * n ≤ 140737488355300) :
    Calls Try.prog 62 #[.pointer (some ⟨p, 0, none⟩), .slice a n c, .int .i64 most, .func (.func 63) #[] #[]] w fun ex w' => ex = .returned (.tuple #[]) ∧ WrDid F p (pl bs e zs most).1 (pl bs e zs most).2 w w' := by
  have hmf : ∀ (fn : Fn) (first cap : Array Value) (w : World), (Instr.makeFunc fn first cap).run Try.prog w = .ok (.func fn first cap) w := fun _ _ _ _ => rfl
  have H : Hid (Wr w F p bs e) := h
  have hflt : ∀ k, F k → k < w.heap.size := by obtain ⟨v, hv⟩ := h; exact hv.flt
  clear h
  have kp : ∀ o1 o2 o3 o4 : Obj, Kept No w ((((w.alloc o1).alloc o2).alloc o3).alloc o4) := fun o1 o2 o3 o4 => ((((Kept.refl No w).alloc _).alloc _).alloc _).alloc _
  by_cases he : e = 0
  · subst he
    obtain ⟨W, hW⟩ : ∃ W, W = ((((w.alloc (.cells #[.pointer (some ⟨p, 0, none⟩)] 39)).alloc (.cells #[.slice a n c] 41)).alloc (.cells #[.int .i64 most] 3)).alloc (.cells #[.func (.func 63) #[] #[]] 85)) := ⟨_, rfl⟩
    have d4 : W.cell? ⟨w.heap.size + 1 + 1 + 1, 0, none⟩ = some (.func (.func 63) #[] #[]) := by rw [hW]; exact cell_new _ _ _ _ (by simp)
    have d2 : W.cell? ⟨w.heap.size + 1 + 1, 0, none⟩ = some (.int .i64 most) := by rw [hW, cell_old _ _ _ (by simp)]; exact cell_new _ _ _ _ (by simp)
    have d1 : W.cell? ⟨w.heap.size + 1, 0, none⟩ = some (.slice a n c) := by rw [hW, cell_old _ _ _ (by simp <;> omega), cell_old _ _ _ (by simp)]; exact cell_new _ _ _ _ (by simp)
    have d3 : W.cell? ⟨w.heap.size, 0, none⟩ = some (.pointer (some ⟨p, 0, none⟩)) := by rw [hW, cell_old _ _ _ (by simp <;> omega), cell_old _ _ _ (by simp <;> omega), cell_old _ _ _ (by simp)]; exact cell_new _ _ _ _ rfl
    have hkW : Kept No w W := by rw [hW]; exact kp _ _ _ _
    have hWr : Wr W F p bs 0 := H.out.kept hkW (fun _ _ h => h)
    have hZW : Zs W G a n c zs := hZ.kept hkW (fun _ _ h => h)
    have cc := gate_98 _ _ _ _ p _ (fun w' => ∃ e1, WrDid F p (pl bs 0 zs most).1 e1 W w') (pl bs 0 zs most).2 hWr.c1 (putList1_63 F G p bs a n c zs most _ _ _ _ _ hWr hZW hGF hzb hsz (fun hf => by have := hflt _ hf; omega) (fun hf => by have := hflt _ hf; omega) d1 d2 d3 d4 (fun hf => by have := hflt _ hf; omega)) (fun _ ⟨_, h⟩ => h.cells)
    rw [hW] at cc
    have HK : Hid (Kept No w ((((w.alloc (.cells #[.pointer (some ⟨p, 0, none⟩)] 39)).alloc (.cells #[.slice a n c] 41)).alloc (.cells #[.int .i64 most] 3)).alloc (.cells #[.func (.func 63) #[] #[]] 85))) := kp _ _ _ _
    clear d1 d2 d3 d4 hWr hW hZW hkW hflt kp hGF hzb hZ
    go_enter Try.func62, Try.ntmps62
    go_wp2_with (go_at_call 64; refine cc.mono ?_; rintro ex w1 ⟨rfl, w2, ⟨e1, hd⟩, rfl⟩)
    go_end0
    exact ⟨rfl, (hd.put1 _).ahead HK.out⟩
  · have he2 : (e == 0) = false := by simpa using he
    rw [show pl bs e zs most = (bs, e) from if_pos he]
    have c1 : ∀ o1 o2 o3 o4 : Obj, ((((w.alloc o1).alloc o2).alloc o3).alloc o4).cell? ⟨p, 1, none⟩ = some (.int .i64 e) := fun o1 o2 o3 o4 => (H.out.kept (kp o1 o2 o3 o4) (fun _ _ h => h)).c1
    have KP : Hid (∀ o1 o2 o3 o4 : Obj, Kept No w ((((w.alloc o1).alloc o2).alloc o3).alloc o4)) := kp
    clear hZ hGF hzb hflt kp
    go_enter Try.func62, Try.ntmps62
    go_wp2_with (go_at_call 64; refine (gate_no _ p e _ (c1 _ _ _ _) he2).mono ?_; rintro ex w1 ⟨rfl, rfl⟩)
    go_end0
    exact ⟨rfl, WrDid.still H.out (KP.out _ _ _ _)⟩

end Go.Proofs.Ytakdfpenpodplaa
