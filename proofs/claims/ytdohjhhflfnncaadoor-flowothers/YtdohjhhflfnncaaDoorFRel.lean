/-
  relationsOf.
-/
import Derived.Test.YtdohjhhflfnncaaDoorFRch
namespace Go.Proofs.YtdohjhhflfnncaaDoor
open Go.RowKit
set_option linter.unusedVariables false
set_option maxRecDepth 100000

/-- block g holds these numbers -/
def Zr (w : World) (g : Nat) (zs : List Int) : Prop := w.heap[g]? = some (.cells (zs.map iv).toArray 3)
theorem Zr.cell {w : World} {g : Nat} {zs : List Int} (h : Zr w g zs) {j : Nat} (hj : j < zs.length) : w.cell? ⟨g, j, none⟩ = some (.int .i64 (zs.getD j 0)) := by
  rw [cell_blk h]
  simp [List.getD, hj, iv]
theorem Zr.fz {w : World} {g : Nat} {zs : List Int} (h : Zr w g zs) (j : Nat) : w.frozen? ⟨g, j, none⟩ = false := fz_blk h j
theorem Zr.set {w : World} {g : Nat} {zs : List Int} (h : Zr w g zs) (k : Nat) (z : Int) : Zr (w.setCell ⟨g, k, none⟩ (.int .i64 z)) g (zs.set k z) := by
  unfold Zr
  rw [set_blk h]
  simp [List.map_set, iv]
theorem Zr.kept {w w' : World} {F : Nat → Prop} {g : Nat} {zs : List Int} (h : Zr w g zs) (k : Kept F w w') (hF : ¬ F g) : Zr w' g zs := k.at' h hF
theorem Zr.lt {w : World} {g : Nat} {zs : List Int} (h : Zr w g zs) : g < w.heap.size := heap_lt h
theorem Zr.new (w : World) (n : Nat) : Zr (w.alloc (.cells (List.replicate n (.int .i64 0)).toArray 3)) w.heap.size (List.replicate n 0) := by
  unfold Zr
  rw [alloc_new]
  simp [iv]

def rl1 (R : List Bool) (n j : Nat) : List Int := (List.range n).map fun k => if k < j ∧ isT R k = true then 1 else 0
theorem rl1_len (R : List Bool) (n j : Nat) : (rl1 R n j).length = n := by simp [rl1]
theorem rl1_zero (R : List Bool) (n : Nat) : rl1 R n 0 = List.replicate n 0 := by
  unfold rl1
  apply List.ext_getElem?
  intro k
  by_cases hk : k < n
  · simp [hk]
  · simp [show n ≤ k by omega]
theorem rl1_succ {R : List Bool} {n j : Nat} (hj : j < n) : rl1 R n (j + 1) = if isT R j then (rl1 R n j).set j 1 else rl1 R n j := by
  cases hb : isT R j with
  | true =>
    simp only [if_true]
    apply List.ext_getElem?
    intro k
    rw [List.getElem?_set]
    by_cases e : j = k
    · subst e; simp [rl1, hj, hb]
    · by_cases hk : k < n
      · by_cases h2 : k < j
        · simp [rl1, hk, e, h2, show k < j + 1 by omega]
        · simp [rl1, hk, e, h2, show ¬ k < j + 1 by omega]
      · simp [rl1, e, show n ≤ k by omega]
  | false =>
    simp only [Bool.false_eq_true, if_false]
    unfold rl1
    apply List.map_congr_left
    intro k _
    by_cases e : k = j
    · subst e; simp [hb]
    · by_cases h2 : k < j
      · simp [h2, show k < j + 1 by omega]
      · simp [h2, show ¬ k < j + 1 by omega]
def rl3 (z : List Int) (xs : List Nat) : List Int := xs.foldl (fun z t => z.set t 3) z
theorem rl3_len (xs : List Nat) : ∀ z, (rl3 z xs).length = z.length := by
  induction xs with
  | nil => intro z; rfl
  | cons x xs ih => intro z; show (rl3 (z.set x 3) xs).length = _; rw [ih]; simp
theorem rl3_app (z : List Int) (xs : List Nat) (x : Nat) : rl3 z (xs ++ [x]) = (rl3 z xs).set x 3 := by simp [rl3]
/-- what the place i is to each one -/
def relL (W : List (List Nat)) (i : Nat) : List Int := rl3 ((rl1 (rch W i) W.length W.length).set i 2) (ways W i)
theorem relL_len (W : List (List Nat)) (i : Nat) : (relL W i).length = W.length := by unfold relL; rw [rl3_len]; simp [rl1_len]

set_option maxHeartbeats 8000000 in
theorem relations_any {F : Nat → Prop} {a : Option Addr} {n c : Nat} {W : List (List Nat)} {i : Nat} (w : World) (h : Ls 1 elW w F a n c W) (hW : Wok W) (hn : n ≤ 1000000) (hi : i < n) :
    Calls Tryd.prog 20 #[.slice a n c, .int .i64 (i : Int)] w fun e w' => ∃ g, e = .returned (.slice (some ⟨g, 0, none⟩) n n) ∧ w.heap.size ≤ g ∧ Zr w' g (relL W i) ∧ Kept No w w' := by
  have hl := h.len
  have hcap := h.cap
  have hmax := h.max
  have hmk := mk_ints w n hn
  have hz0 := Zr.new w n
  have k1 : Kept No w (w.alloc (.cells (List.replicate n (.int .i64 0)).toArray 3)) := (Kept.refl No w).alloc _
  generalize w.alloc (.cells (List.replicate n (.int .i64 0)).toArray 3) = w1 at *
  have cR := reached_any (i := i) w1 (h.kept k1 (fun _ _ h => h) (elW_kept k1 (fun _ _ h => h))) hW hn hi
  obtain ⟨xs, hxs⟩ : ∃ xs, W[i]? = some xs := ⟨_, List.getElem?_eq_getElem (by omega)⟩
  obtain ⟨wb, wo, v, rfl, hwF, hwc0, ⟨xa, xm, xc, hv, hX⟩⟩ := h.one hxs
  injection hv with hv _
  subst hv
  have hway : ways W i = xs := by unfold ways; rw [hxs]; rfl
  have hxl : ∀ x ∈ xs, x < n := fun x hx => by have := hW i x (by rw [hway]; exact hx); omega
  obtain ⟨R, hR⟩ : ∃ R, R = rch W i := ⟨_, rfl⟩
  have hRl : R.length = n := by rw [hR, rch_len]; exact hl
  have hrel : relL W i = rl3 ((rl1 R n n).set i 2) xs := by unfold relL; rw [← hR, hway, hl]
  rw [hrel]
  rw [← hR] at cR
  have hxm := hX.len
  have hxc := hX.cap
  have hxx := hX.max
  obtain ⟨g, hg⟩ : ∃ g, w.heap.size = g := ⟨_, rfl⟩
  rw [hg] at hmk hz0
  have HH : Hid (Zr w1 g (List.replicate n 0) ∧ Kept No w w1 ∧ w.heap.size = g ∧ R.length = n ∧ (∀ x ∈ xs, x < n) ∧ Ls 1 elN w F xa xm xc xs ∧ xs.length = xm ∧ w.cell? ⟨wb, wo + i, none⟩ = some (.slice xa xm xc)) := ⟨hz0, k1, hg, hRl, hxl, hX, hxm, hwc0⟩
  clear h hW hz0 k1 hxs hwc0 hX hway hxl hR hRl hrel hg hxm
  have hiz : (i : Int) < (n : Int) := by omega
  go_enter Tryd.func20, Tryd.ntmps20
  go_wp2_with (go_at_call 12; refine cR.mono ?_; rintro e w2 ⟨q, rfl, hq1, hq2, k2⟩; have H2 : Hid (Zr w2 g (rl1 R n 0) ∧ Kept No w w2 ∧ Br w2 q R ∧ q ≠ g) := ⟨by rw [rl1_zero]; exact HH.out.1.kept k2 (fun h => h), HH.out.2.1.trans k2 (fun _ h => .inl h), hq2, by have := HH.out.1.lt; omega⟩; clear hq1 hq2 k2 cR)
  go_loopw [17] (fun y wr => ∃ j : Nat, y = .int .i64 j ∧ j ≤ n ∧ Zr wr g (rl1 R n j) ∧ Kept No w wr ∧ Br wr q R) (fun y _ => n - (intOf y).toNat)
  case atStart => exact ⟨0, rfl, Nat.zero_le _, H2.out.1, H2.out.2.1, H2.out.2.2.1⟩
  case round =>
    obtain ⟨j, rfl, hj, hz, hk, hb⟩ := hrel
    by_cases hlt : j < n
    · have hjz : (j : Int) < (n : Int) := by omega
      have cj := hb.cell (j := j) (by rw [HH.out.2.2.2.1]; exact hlt)
      have zj := hz.cell (j := j) (by rw [rl1_len]; exact hlt)
      have fj := hz.fz j
      have hsu := rl1_succ (R := R) hlt
      cases hbt : isT R j with
      | true =>
        rw [hbt] at cj hsu
        have k3 : Kept (fun k => k = g) wr (wr.setCell ⟨g, j, none⟩ (.int .i64 1)) := (Kept.refl (fun k => k = g) wr).setCell (p := ⟨g, j, none⟩) (.inl rfl) _
        have HR : Hid (Zr (wr.setCell ⟨g, j, none⟩ (.int .i64 1)) g (rl1 R n (j + 1)) ∧ Kept No w (wr.setCell ⟨g, j, none⟩ (.int .i64 1)) ∧ Br (wr.setCell ⟨g, j, none⟩ (.int .i64 1)) q R) := ⟨by rw [hsu]; exact hz.set j 1, hk.trans k3 (fun k e => .inr (by have := HH.out.2.2.1; omega)), hb.kept k3 H2.out.2.2.2⟩
        clear hz hk hb k3 hsu hbt
        go_wp2
        go_roundw
        case rel => exact ⟨j + 1, by go_num, by omega, HR.out.1, HR.out.2.1, HR.out.2.2⟩
        case measure => simp [intOf]; omega
      | false =>
        rw [hbt] at cj hsu
        have HR : Hid (Zr wr g (rl1 R n (j + 1)) ∧ Kept No w wr ∧ Br wr q R) := ⟨by rw [hsu]; exact hz, hk, hb⟩
        clear hz hk hb hsu hbt
        go_wp2
        go_roundw
        case rel => exact ⟨j + 1, by go_num, by omega, HR.out.1, HR.out.2.1, HR.out.2.2⟩
        case measure => simp [intOf]; omega
    · have hje : j = n := by omega
      have hjz : ¬ (j : Int) < (n : Int) := by omega
      rw [hje] at hz
      have zi := hz.cell (j := i) (by rw [rl1_len]; exact hi)
      have fi := hz.fz i
      have k3 : Kept (fun k => k = g) wr (wr.setCell ⟨g, i, none⟩ (.int .i64 2)) := (Kept.refl (fun k => k = g) wr).setCell (p := ⟨g, i, none⟩) (.inl rfl) _
      have kw3 : Kept No w (wr.setCell ⟨g, i, none⟩ (.int .i64 2)) := hk.trans k3 (fun k e => .inr (by have := HH.out.2.2.1; omega))
      have hwc := kw3.cell HH.out.2.2.2.2.2.2.2 (fun h => h)
      have HR : Hid (Zr (wr.setCell ⟨g, i, none⟩ (.int .i64 2)) g ((rl1 R n n).set i 2) ∧ Kept No w (wr.setCell ⟨g, i, none⟩ (.int .i64 2))) := ⟨hz.set i 2, kw3⟩
      clear hz hk hb k3 kw3 hje
      go_upto_region 9 with fail
      generalize wr.setCell ⟨g, i, none⟩ (.int .i64 2) = w5 at *
      clear zi fi
      go_wp2
      clear hwc
      go_loopw [35] (fun y wr => ∃ j : Nat, y = .int .i64 j ∧ j ≤ xm ∧ Zr wr g (rl3 ((rl1 R n n).set i 2) (xs.take j)) ∧ Kept No w wr) (fun y _ => xm - (intOf y).toNat)
      case atStart => exact ⟨0, rfl, Nat.zero_le _, HR.out.1, HR.out.2⟩
      case round =>
        obtain ⟨k, rfl, hkm, hz, hk⟩ := hrel
        by_cases hkl : k < xm
        · have hkz : (k : Int) < (xm : Int) := by omega
          obtain ⟨x, hxk⟩ : ∃ x, xs[k]? = some x := ⟨_, List.getElem?_eq_getElem (by rw [HH.out.2.2.2.2.2.2.1]; exact hkl)⟩
          have hxn := HH.out.2.2.2.2.1 x (List.mem_of_getElem? hxk)
          obtain ⟨xb, xo, v1, rfl, _, hxc0, hv1⟩ := HH.out.2.2.2.2.2.1.one hxk
          injection hv1 with hv1 _
          subst hv1
          have hxcl := hk.cell hxc0 (fun h => h)
          unfold nv at hxcl
          have zx := hz.cell (j := x) (by rw [rl3_len]; simp [rl1_len]; exact hxn)
          have fx := hz.fz x
          have hxz : (x : Int) < (n : Int) := by omega
          have k3 : Kept (fun k => k = g) wr (wr.setCell ⟨g, x, none⟩ (.int .i64 3)) := (Kept.refl (fun k => k = g) wr).setCell (p := ⟨g, x, none⟩) (.inl rfl) _
          have HF : Hid (Zr (wr.setCell ⟨g, x, none⟩ (.int .i64 3)) g (rl3 ((rl1 R n n).set i 2) (xs.take (k + 1))) ∧ Kept No w (wr.setCell ⟨g, x, none⟩ (.int .i64 3))) := ⟨by rw [take_succ_get' hxk, rl3_app]; exact hz.set x 3, hk.trans k3 (fun k e => .inr (by have := HH.out.2.2.1; omega))⟩
          clear hz hk k3 hxc0 hxk
          go_wp2
          go_roundw
          case rel => exact ⟨k + 1, by go_num, by omega, HF.out.1, HF.out.2⟩
          case measure => simp [intOf]; omega
        · have hkz : ¬ (k : Int) < (xm : Int) := by omega
          rw [List.take_of_length_le (by rw [HH.out.2.2.2.2.2.2.1]; omega)] at hz
          have HF : Hid (Zr wr g (rl3 ((rl1 R n n).set i 2) xs) ∧ Kept No w wr) := ⟨hz, hk⟩
          clear hz hk
          go_wp2
          go_ret
          exact ⟨g, rfl, by have := HH.out.2.2.1; omega, HF.out.1, HF.out.2⟩
end Go.Proofs.YtdohjhhflfnncaaDoor
