/-
  chain: three partitions in a row.
-/
import Derived.Test.YtdohjhhflfnncaaDoorFRd
namespace Go.Proofs.YtdohjhhflfnncaaDoor
open Go.RowKit
set_option linter.unusedVariables false
set_option maxRecDepth 100000

def PS : List Po := [⟨1, 1, true, 1, 1, 0⟩, ⟨2, 1, false, 1, 1, 0⟩, ⟨2, 1, true, 1, 1, 0⟩, ⟨3, 1, false, 1, 1, 0⟩]
def LS : List Ch := [⟨1, 1, [2], 0, 5⟩, ⟨1, 3, [4], 0, 5⟩]
theorem Tryd.infoPn : (Tryd.prog.info? 37).map (fun i => (i.size, i.bytes, i.zero.isSome)) = some (21, 264, true) := by kernel_rfl
theorem mk_parts (w : World) : ∃ cs, (Instr.makeSlice 22 (.int .i64 3) (.int .i64 3)).run Tryd.prog w = .ok (.slice (some ⟨w.heap.size, 0, none⟩) 3 3) (w.alloc (.cells cs 37)) := by
  obtain ⟨i, hi, he⟩ := Option.map_eq_some_iff.1 Tryd.infoPn
  simp only [Prod.mk.injEq] at he
  obtain ⟨h1, h2, h3⟩ := he
  obtain ⟨z, hz⟩ := Option.isSome_iff_exists.1 h3
  have hr := run_make (P := Tryd.prog) w 22 37 i z Tryd.underlying22 hi hz .i64 .i64 3 3 (by omega) (Int.le_refl _) (by rw [h2]; omega) (by omega)
  exact ⟨_, hr⟩
theorem edg_chain : edg 3 PS LS = [(0, 1), (1, 2)] := by
  have e1 : partsL PS [2] = [2] := by
    unfold partsL toL sortL
    rw [if_neg (by decide)]
    rw [show ([2] : List Int).map (partV PS) = [2] by decide]
    simp [Lib.compact]
    rfl
  have e2 : partsL PS [4] = [3] := by
    unfold partsL toL sortL
    rw [if_neg (by decide)]
    rw [show ([4] : List Int).map (partV PS) = [3] by decide]
    simp [Lib.compact]
    rfl
  show edC 3 PS ⟨1, 1, [2], 0, 5⟩ ++ (edC 3 PS ⟨1, 3, [4], 0, 5⟩ ++ []) = _
  unfold edC
  simp only [e1, e2]
  decide
theorem chain_rd {w : World} {F : Nat → Prop} {p q1 q2 r : Nat} (hp : F p) (hq1 : F q1) (hq2 : F q2) (hr : F r) (h0 : w.heap[p]? = some (.cells #[.int .i64 1, .int .i64 1, .bool true, .int .i64 1, .int .i64 1, .int .i64 0, .int .i64 2, .int .i64 1, .bool false, .int .i64 1, .int .i64 1, .int .i64 0, .int .i64 2, .int .i64 1, .bool true, .int .i64 1, .int .i64 1, .int .i64 0, .int .i64 3, .int .i64 1, .bool false, .int .i64 1, .int .i64 1, .int .i64 0] 61))
    (h1 : w.heap[q1]? = some (.cells #[.int .i64 2] 3)) (h2 : w.heap[q2]? = some (.cells #[.int .i64 4] 3)) (h3 : w.heap[r]? = some (.cells #[.int .i64 1, .int .i64 1, .slice (some ⟨q1, 0, none⟩) 1 1, .int .i64 0, .int .i64 5, .int .i64 1, .int .i64 3, .slice (some ⟨q2, 0, none⟩) 1 1, .int .i64 0, .int .i64 5] 50)) :
    Rd w F (some ⟨p, 0, none⟩) 4 4 (some ⟨r, 0, none⟩) 2 2 3 PS LS := by
  have six : ∀ z : Int, 0 ≤ z → z ≤ 5 → I6 z := fun z a b => by unfold I6; omega
  have one1 : ∀ (q : Nat) (z : Int), F q → 0 ≤ z → z ≤ 5 → w.heap[q]? = some (.cells #[.int .i64 z] 3) → Ls 1 elI w F (some ⟨q, 0, none⟩) 1 1 [z] := fun q z hF a b h => by
    refine ⟨rfl, Nat.le_refl _, by omega, (fun e => (by cases e)), fun i x hx => ?_⟩
    have hi : i = 0 := by have := (List.getElem?_eq_some_iff.1 hx).1; simp at this; exact this
    subst hi
    simp at hx
    subst hx
    refine ⟨q, 0, [.int .i64 z], rfl, hF, rfl, fun j v hv => ?_, rfl, six z a b⟩
    have hj : j = 0 := by have := (List.getElem?_eq_some_iff.1 hv).1; simp at this; exact this
    subst hj
    simp at hv
    subst hv
    rw [cell_blk h]
    rfl
  refine ⟨⟨rfl, Nat.le_refl _, by omega, (fun e => (by cases e)), fun i x hx => ?_⟩, ⟨rfl, Nat.le_refl _, by omega, (fun e => (by cases e)), fun i x hx => ?_⟩, ?_, by omega, by rw [edg_chain]; decide⟩
  · have hi : i < 4 := by have := (List.getElem?_eq_some_iff.1 hx).1; simpa [PS] using this
    have key : ∀ (cs : List Value), cs.length = 6 → (∀ j v, cs[j]? = some v → w.cell? ⟨p, 0 + i * 6 + j, none⟩ = some v) → elPo w F cs x → ∃ b o cs, (some ⟨p, 0, none⟩ : Option Addr) = some ⟨b, o, none⟩ ∧ F b ∧ cs.length = 6 ∧ w.rangeAt b (o + i * 6) cs ∧ elPo w F cs x := fun cs a b c => ⟨p, 0, cs, rfl, hp, a, b, c⟩
    rcases (show i = 0 ∨ i = 1 ∨ i = 2 ∨ i = 3 by omega) with rfl | rfl | rfl | rfl
    · simp [PS] at hx; subst hx
      refine key [.int .i64 1, .int .i64 1, .bool true, .int .i64 1, .int .i64 1, .int .i64 0] rfl (fun j v hv => ?_) ⟨rfl, six _ (by decide) (by decide), six _ (by decide) (by decide), trivial, six _ (by decide) (by decide), six _ (by decide) (by decide), six _ (by decide) (by decide)⟩
      rw [cell_blk h0]
      match j, hv with
      | 0, hv => exact hv
      | 1, hv => exact hv
      | 2, hv => exact hv
      | 3, hv => exact hv
      | 4, hv => exact hv
      | 5, hv => exact hv
      | j + 6, hv => simp at hv
    · simp [PS] at hx; subst hx
      refine key [.int .i64 2, .int .i64 1, .bool false, .int .i64 1, .int .i64 1, .int .i64 0] rfl (fun j v hv => ?_) ⟨rfl, six _ (by decide) (by decide), six _ (by decide) (by decide), trivial, six _ (by decide) (by decide), six _ (by decide) (by decide), six _ (by decide) (by decide)⟩
      rw [cell_blk h0]
      match j, hv with
      | 0, hv => exact hv
      | 1, hv => exact hv
      | 2, hv => exact hv
      | 3, hv => exact hv
      | 4, hv => exact hv
      | 5, hv => exact hv
      | j + 6, hv => simp at hv
    · simp [PS] at hx; subst hx
      refine key [.int .i64 2, .int .i64 1, .bool true, .int .i64 1, .int .i64 1, .int .i64 0] rfl (fun j v hv => ?_) ⟨rfl, six _ (by decide) (by decide), six _ (by decide) (by decide), trivial, six _ (by decide) (by decide), six _ (by decide) (by decide), six _ (by decide) (by decide)⟩
      rw [cell_blk h0]
      match j, hv with
      | 0, hv => exact hv
      | 1, hv => exact hv
      | 2, hv => exact hv
      | 3, hv => exact hv
      | 4, hv => exact hv
      | 5, hv => exact hv
      | j + 6, hv => simp at hv
    · simp [PS] at hx; subst hx
      refine key [.int .i64 3, .int .i64 1, .bool false, .int .i64 1, .int .i64 1, .int .i64 0] rfl (fun j v hv => ?_) ⟨rfl, six _ (by decide) (by decide), six _ (by decide) (by decide), trivial, six _ (by decide) (by decide), six _ (by decide) (by decide), six _ (by decide) (by decide)⟩
      rw [cell_blk h0]
      match j, hv with
      | 0, hv => exact hv
      | 1, hv => exact hv
      | 2, hv => exact hv
      | 3, hv => exact hv
      | 4, hv => exact hv
      | 5, hv => exact hv
      | j + 6, hv => simp at hv
  · have hi : i < 2 := by have := (List.getElem?_eq_some_iff.1 hx).1; simpa [LS] using this
    rcases (show i = 0 ∨ i = 1 by omega) with rfl | rfl
    · simp [LS] at hx; subst hx
      refine ⟨r, 0, [.int .i64 1, .int .i64 1, .slice (some ⟨q1, 0, none⟩) 1 1, .int .i64 0, .int .i64 5], rfl, hr, rfl, fun j v hv => ?_, ⟨⟨_, _, _, rfl, one1 q1 2 hq1 (by omega) (by omega) h1⟩, six _ (by decide) (by decide), six _ (by decide) (by decide), (fun y hy => by simp at hy; subst hy; exact six _ (by decide) (by decide)), six _ (by decide) (by decide), six _ (by decide) (by decide)⟩⟩
      rw [cell_blk h3]
      match j, hv with
      | 0, hv => exact hv
      | 1, hv => exact hv
      | 2, hv => exact hv
      | 3, hv => exact hv
      | 4, hv => exact hv
      | j + 5, hv => simp at hv
    · simp [LS] at hx; subst hx
      refine ⟨r, 0, [.int .i64 1, .int .i64 3, .slice (some ⟨q2, 0, none⟩) 1 1, .int .i64 0, .int .i64 5], rfl, hr, rfl, fun j v hv => ?_, ⟨⟨_, _, _, rfl, one1 q2 4 hq2 (by omega) (by omega) h2⟩, six _ (by decide) (by decide), six _ (by decide) (by decide), (fun y hy => by simp at hy; subst hy; exact six _ (by decide) (by decide)), six _ (by decide) (by decide), six _ (by decide) (by decide)⟩⟩
      rw [cell_blk h3]
      match j, hv with
      | 0, hv => exact hv
      | 1, hv => exact hv
      | 2, hv => exact hv
      | 3, hv => exact hv
      | 4, hv => exact hv
      | j + 5, hv => simp at hv
  · intro x hx
    simp [LS] at hx
    rcases hx with rfl | rfl <;> simp
set_option maxHeartbeats 4000000 in
theorem chain_any (w : World) : Calls Tryd.prog 8 #[] w fun e w' => ∃ a0 a1 a2, e = .returned (.agg #[.slice a0 3 3, .slice a1 4 4, .slice a2 2 2]) ∧ Rd w' (fun k => w.heap.size < k) a1 4 4 a2 2 2 3 PS LS ∧ Kept No w w' := by
  go_enter Tryd.func8, Tryd.ntmps8
  go_upto_region 3 with fail
  have n0 := alloc_new w (.cells #[.slice none 0 0, .slice none 0 0, .slice none 0 0] 26)
  have q0 : Kept No w (w.alloc (.cells #[.slice none 0 0, .slice none 0 0, .slice none 0 0] 26)) := (Kept.refl No w).alloc _
  have s0 : (w.alloc (.cells #[.slice none 0 0, .slice none 0 0, .slice none 0 0] 26)).heap.size = w.heap.size + 1 := by simp
  generalize w.alloc (.cells #[.slice none 0 0, .slice none 0 0, .slice none 0 0] 26) = wa at *
  have n1 := alloc_new wa (.cells #[.int .i64 1, .int .i64 1, .bool true, .int .i64 1, .int .i64 1, .int .i64 0, .int .i64 2, .int .i64 1, .bool false, .int .i64 1, .int .i64 1, .int .i64 0, .int .i64 2, .int .i64 1, .bool true, .int .i64 1, .int .i64 1, .int .i64 0, .int .i64 3, .int .i64 1, .bool false, .int .i64 1, .int .i64 1, .int .i64 0] 61)
  have q1 : Kept No wa (wa.alloc (.cells #[.int .i64 1, .int .i64 1, .bool true, .int .i64 1, .int .i64 1, .int .i64 0, .int .i64 2, .int .i64 1, .bool false, .int .i64 1, .int .i64 1, .int .i64 0, .int .i64 2, .int .i64 1, .bool true, .int .i64 1, .int .i64 1, .int .i64 0, .int .i64 3, .int .i64 1, .bool false, .int .i64 1, .int .i64 1, .int .i64 0] 61)) := (Kept.refl No wa).alloc _
  have s1 : (wa.alloc (.cells #[.int .i64 1, .int .i64 1, .bool true, .int .i64 1, .int .i64 1, .int .i64 0, .int .i64 2, .int .i64 1, .bool false, .int .i64 1, .int .i64 1, .int .i64 0, .int .i64 2, .int .i64 1, .bool true, .int .i64 1, .int .i64 1, .int .i64 0, .int .i64 3, .int .i64 1, .bool false, .int .i64 1, .int .i64 1, .int .i64 0] 61)).heap.size = wa.heap.size + 1 := by simp
  generalize wa.alloc (.cells #[.int .i64 1, .int .i64 1, .bool true, .int .i64 1, .int .i64 1, .int .i64 0, .int .i64 2, .int .i64 1, .bool false, .int .i64 1, .int .i64 1, .int .i64 0, .int .i64 2, .int .i64 1, .bool true, .int .i64 1, .int .i64 1, .int .i64 0, .int .i64 3, .int .i64 1, .bool false, .int .i64 1, .int .i64 1, .int .i64 0] 61) = wb at *
  have n2 := alloc_new wb (.cells #[.int .i64 2] 3)
  have q2 : Kept No wb (wb.alloc (.cells #[.int .i64 2] 3)) := (Kept.refl No wb).alloc _
  have s2 : (wb.alloc (.cells #[.int .i64 2] 3)).heap.size = wb.heap.size + 1 := by simp
  generalize wb.alloc (.cells #[.int .i64 2] 3) = wc at *
  have n3 := alloc_new wc (.cells #[.int .i64 4] 3)
  have q3 : Kept No wc (wc.alloc (.cells #[.int .i64 4] 3)) := (Kept.refl No wc).alloc _
  have s3 : (wc.alloc (.cells #[.int .i64 4] 3)).heap.size = wc.heap.size + 1 := by simp
  generalize wc.alloc (.cells #[.int .i64 4] 3) = wd at *
  have n4 := alloc_new wd (.cells #[.int .i64 1, .int .i64 1, .slice (some ⟨w.heap.size + 1 + 1, 0, none⟩) 1 1, .int .i64 0, .int .i64 5, .int .i64 1, .int .i64 3, .slice (some ⟨w.heap.size + 1 + 1 + 1, 0, none⟩) 1 1, .int .i64 0, .int .i64 5] 50)
  have q4 : Kept No wd (wd.alloc (.cells #[.int .i64 1, .int .i64 1, .slice (some ⟨w.heap.size + 1 + 1, 0, none⟩) 1 1, .int .i64 0, .int .i64 5, .int .i64 1, .int .i64 3, .slice (some ⟨w.heap.size + 1 + 1 + 1, 0, none⟩) 1 1, .int .i64 0, .int .i64 5] 50)) := (Kept.refl No wd).alloc _
  have s4 : (wd.alloc (.cells #[.int .i64 1, .int .i64 1, .slice (some ⟨w.heap.size + 1 + 1, 0, none⟩) 1 1, .int .i64 0, .int .i64 5, .int .i64 1, .int .i64 3, .slice (some ⟨w.heap.size + 1 + 1 + 1, 0, none⟩) 1 1, .int .i64 0, .int .i64 5] 50)).heap.size = wd.heap.size + 1 := by simp
  generalize wd.alloc (.cells #[.int .i64 1, .int .i64 1, .slice (some ⟨w.heap.size + 1 + 1, 0, none⟩) 1 1, .int .i64 0, .int .i64 5, .int .i64 1, .int .i64 3, .slice (some ⟨w.heap.size + 1 + 1 + 1, 0, none⟩) 1 1, .int .i64 0, .int .i64 5] 50) = w5 at *
  rw [s0] at n1 s1
  rw [s1] at n2 s2
  rw [s2] at n3 s3
  rw [s3] at n4
  have q34 := q3.trans q4 (fun _ h => .inl h)
  have q24 := q2.trans q34 (fun _ h => .inl h)
  have q14 := q1.trans q24 (fun _ h => .inl h)
  have k5 := q0.trans q14 (fun _ h => .inl h)
  have bz := q14.at' n0 (fun h => h)
  have b0 := q24.at' n1 (fun h => h)
  have b1 := q34.at' n2 (fun h => h)
  have b2 := q4.at' n3 (fun h => h)
  have b3 := n4
  clear n0 n1 n2 n3 n4 q0 q1 q2 q3 q4 q14 q24 q34 s0 s1 s2 s3 s4
  obtain ⟨cs, hmk⟩ := mk_parts w5
  have ka : Kept No w5 (w5.alloc (.cells cs 37)) := (Kept.refl No w5).alloc _
  have bz6 := ka.at' bz (fun h => h)
  have HB : Hid (Rd w5 (fun k => w.heap.size < k) (some ⟨w.heap.size + 1, 0, none⟩) 4 4 (some ⟨w.heap.size + 1 + 1 + 1 + 1, 0, none⟩) 2 2 3 PS LS ∧ Kept No w w5 ∧ Kept No w5 (w5.alloc (.cells cs 37)) ∧ (w5.alloc (.cells cs 37)).heap[w.heap.size]? = some (.cells #[.slice none 0 0, .slice none 0 0, .slice none 0 0] 26)) := ⟨chain_rd (by omega) (by omega) (by omega) (by omega) b0 b1 b2 b3, k5, ka, bz6⟩
  obtain ⟨e0, e1, e2⟩ := three bz6
  have g0 := fz_blk bz6 0
  have g1 := fz_blk bz6 1
  have g2 := fz_blk bz6 2
  clear b0 b1 b2 b3 bz bz6 k5 ka
  generalize w5.alloc (.cells cs 37) = w6 at *
  go_wp2
  refine bodyPost_ret (results_cell_row rfl _ _ w.heap.size 26 #[.slice (some ⟨w5.heap.size, 0, none⟩) 3 3, .slice (some ⟨w.heap.size + 1, 0, none⟩) 4 4, .slice (some ⟨w.heap.size + 1 + 1 + 1 + 1, 0, none⟩) 2 2] (0, 0) _ rfl (by rw [set_blk (set_blk (set_blk HB.out.2.2.2 0 _) 1 _) 2 _]; rfl) Tryd.underlying26 rfl (by kernel_rfl)) rfl ?_
  have kk : ∀ u0 u1 u2, Kept (fun k => k = w.heap.size) w6 (((w6.setCell ⟨w.heap.size, 0, none⟩ u0).setCell ⟨w.heap.size, 1, none⟩ u1).setCell ⟨w.heap.size, 2, none⟩ u2) := fun u0 u1 u2 => (((Kept.refl (fun k => k = w.heap.size) w6).setCell (p := ⟨w.heap.size, 0, none⟩) (.inl rfl) _).setCell (p := ⟨w.heap.size, 1, none⟩) (.inl rfl) _).setCell (p := ⟨w.heap.size, 2, none⟩) (.inl rfl) _
  exact ⟨_, _, _, rfl, (HB.out.1.kept HB.out.2.2.1 (fun _ _ h => h)).kept (kk _ _ _) (fun b hb e => by omega), (HB.out.2.1.trans HB.out.2.2.1 (fun _ h => .inl h)).trans (kk _ _ _) (fun k e => .inr (by omega))⟩
end Go.Proofs.YtdohjhhflfnncaaDoor
