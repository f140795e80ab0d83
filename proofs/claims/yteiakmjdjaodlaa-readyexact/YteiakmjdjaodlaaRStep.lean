/-
  'step'.
-/
import Derived.Test.YteiakmjdjaodlaaRListed
namespace Go.Proofs.Yteiakmjdjaodlaa
open Go.Shelf Go.RowKit Go.Lib Go.Sort
set_option linter.unusedVariables false
set_option maxRecDepth 100000

/-- behind a call: the line, the document's line, and that nothing else was written -/
structure Sx (W : World) (F : Nat → Prop) (v0 : Value) (b mo nx : Nat) (S T : List En) (v : Value) (w : World) : Prop where
  kept : Kept F W w
  ln : ∃ F', Ln w F' b mo nx S ∧ (∀ k, F' k → (F k ∨ W.heap.size + 3 ≤ k) ∧ k < w.heap.size) ∧ ∀ g, v.ownBlock = some g → ¬ F' g
  row : w.ownsRow 0 77 3 v T.length (rcL T)
  nv : v.ownBlock ≠ some (W.heap.size + 2)
  vf : ∀ g, v.ownBlock = some g → v0.ownBlock = some g ∨ W.heap.size ≤ g
namespace Sx
variable {W w w' : World} {F : Nat → Prop} {b mo nx : Nat} {S T : List En} {v v0 : Value}
theorem below (h : Sx W F v0 b mo nx S T v w) (k : Below w.heap.size w w') : Sx W F v0 b mo nx S T v w' := by
  obtain ⟨F', h1, h2, h3⟩ := h.ln
  have kk := Kept.of_below (F := No) k
  exact ⟨h.kept.trans kk (fun j hj => hj.elim), ⟨F', h1.below k, fun j hj => ⟨(h2 j hj).1, Nat.lt_of_lt_of_le (h2 j hj).2 k.size⟩, h3⟩, kk.owns h.row (fun _ _ h => h), h.nv, h.vf⟩
theorem set (h : Sx W F v0 b mo nx S T v w) (hF : ∀ k, F k → k < W.heap.size) (x y z : Value) : Sx W F v0 b mo nx S T v (((w.setCell ⟨W.heap.size + 2, 0, none⟩ x).setCell ⟨W.heap.size + 2, 1, none⟩ y).setCell ⟨W.heap.size + 2, 2, none⟩ z) := by
  obtain ⟨F', h1, h2, h3⟩ := h.ln
  have kq := set3_keptF (q := W.heap.size + 2) w x y z
  refine ⟨h.kept.trans kq (fun j e => .inr (by omega)), ⟨F', h1.kept kq (fun j hj e => ?_), fun j hj => ⟨(h2 j hj).1, Nat.lt_of_lt_of_le (h2 j hj).2 kq.size⟩, h3⟩, kq.owns h.row (fun g hg e => h.nv (e ▸ hg)), h.nv, h.vf⟩
  rcases (h2 j hj).1 with e2 | e2
  · have := hF j e2; omega
  · omega
/-- the line was turned -/
theorem turn {F1 F2 : Nat → Prop} {nx2 : Nat} {S2 : List En} (h : Sx W F v0 b mo nx S T v w) (hF1 : ∀ k, F1 k → (F k ∨ W.heap.size + 3 ≤ k) ∧ k < w.heap.size) (hv1 : ∀ g, v.ownBlock = some g → ¬ F1 g) (hsz : W.heap.size + 3 ≤ w.heap.size) (hL2 : Ln w' F2 b mo nx2 S2) (hK2 : Kept F1 w w') (hF2 : ∀ k, F2 k → F1 k ∨ w.heap.size ≤ k) : Sx W F v0 b mo nx2 S2 T v w' := by
  refine ⟨h.kept.trans hK2 (fun k hk => ?_), ⟨_, hL2.bound, fun k hk => ⟨?_, hk.2⟩, fun g hg hk => ?_⟩, hK2.owns h.row hv1, h.nv, h.vf⟩
  · rcases (hF1 k hk).1 with e | e
    · exact .inl e
    · exact .inr (by omega)
  · rcases hF2 k hk.1 with e | e
    · exact (hF1 k e).1
    · exact .inr (by omega)
  · rcases hF2 g hk.1 with e | e
    · exact hv1 g hg e
    · have := (h.row.lt g hg).2; omega
/-- the document's line was turned -/
theorem fresh {T' : List En} {v' : Value} (h : Sx W F v0 b mo nx S T v w) (k : Below w.heap.size w w') (hr : w'.ownsRow 0 77 3 v' T'.length (rcL T')) (hf : ∀ g, v'.ownBlock = some g → v.ownBlock = some g ∨ w.heap.size ≤ g) (hsz : W.heap.size + 3 ≤ w.heap.size := by assumption) : Sx W F v0 b mo nx S T' v' w' := by
  have h0 := h.below k
  obtain ⟨F', h1, h2, h3⟩ := h.ln
  refine ⟨h0.kept, ⟨F', h1.below k, fun j hj => ⟨(h2 j hj).1, Nat.lt_of_lt_of_le (h2 j hj).2 k.size⟩, fun g hg hk => ?_⟩, hr, fun e => ?_, fun g hg => ?_⟩
  · rcases hf g hg with e | e
    · exact h3 g e hk
    · have := (h2 g hk).2; omega
  · rcases hf _ e with e2 | e2
    · exact h.nv e2
    · omega
  · rcases hf g hg with e | e
    · exact h.vf g e
    · exact .inr (by omega)
end Sx
/-- the three boxes -/
structure Bx (w : World) (q : Nat) (A O Z : Array Value) : Prop where
  a : w.heap[q]? = some (.cells A 42)
  o : w.heap[q + 1]? = some (.cells O 28)
  z : w.heap[q + 2]? = some (.cells Z 42)
theorem Bx.kept {w w' : World} {q : Nat} {A O Z : Array Value} {F : Nat → Prop} (h : Bx w q A O Z) (k : Kept F w w') (hF : ∀ j, F j → j < q) : Bx w' q A O Z :=
  ⟨k.at' h.a (fun e => by have := hF _ e; omega), k.at' h.o (fun e => by have := hF _ e; omega), k.at' h.z (fun e => by have := hF _ e; omega)⟩
theorem Bx.below {w w' : World} {q : Nat} {A O Z : Array Value} (h : Bx w q A O Z) (k : Below w.heap.size w w') : Bx w' q A O Z := h.kept (Kept.of_below (F := No) k) (fun j hj => hj.elim)
theorem bx_new (W : World) (A O Z : Array Value) : Bx (((W.alloc (.cells A 42)).alloc (.cells O 28)).alloc (.cells Z 42)) W.heap.size A O Z := by
  obtain ⟨h1, h2⟩ := heap_two W (.cells A 42) (.cells O 28)
  have h3 := heap_last ((W.alloc (.cells A 42)).alloc (.cells O 28)) (.cells Z 42)
  rw [World.size_alloc, World.size_alloc] at h3
  exact ⟨(Below.heap_alloc _ _ _ (heap_lt h1)).trans h1, (Below.heap_alloc _ _ _ (heap_lt h2)).trans h2, h3⟩

section
variable {W : World} {F : Nat → Prop} {b mo nx : Nat} {v : Value} {T S : List En} {n : Nat}
set_option maxHeartbeats 8000000 in
theorem step_any (hL : Ln W F b mo nx S) (hF : ∀ k, F k → k < W.heap.size) (hv : W.ownsRow 0 77 3 v n (rcL T)) (hp : T.Perm S) (hvF : ∀ g, v.ownBlock = some g → ¬ F g) (hnx : nx < 9223372036854775807) (k i p : Int) (h6 : I6 k ∧ I6 i ∧ I6 p) :
    Calls Try.prog 17 #[.pointer (some ⟨b, 0, none⟩), rv mo v nx, .agg #[.int .i64 k, .int .i64 i, .int .i64 p]] W fun ex w' => ∃ v' nx' S' T', ex = .returned (.tuple #[rv mo v' nx', .bool true]) ∧ nx' ≤ nx + 1 ∧ T'.Perm S' ∧ Sx W F v b mo nx' S' T' v' w' := by
  obtain ⟨hl, a, c, rfl, hc1, hc2, -⟩ := owns_ref hv
  have hSn : S.length = n := by rw [← hp.length_eq]; exact hl
  have hfew : n ≤ 65536 := by have := hL.2.1.few; have := hL.1; omega
  have hB1 : Below W.heap.size W (((W.alloc (.cells #[.int .i64 mo, .slice a n c, .int .i64 nx] 42)).alloc (.cells #[.int .i64 k, .int .i64 i, .int .i64 p] 28)).alloc (.cells #[.int .i64 0, .slice none 0 0, .int .i64 0] 42)) := (((Below.refl _ W).alloc (Nat.le_refl _) _).alloc (by simp) _).alloc (by simp; omega) _
  have HS1 : Hid (Sx W F (.slice a n c) b mo nx S T (.slice a n c) (((W.alloc (.cells #[.int .i64 mo, .slice a n c, .int .i64 nx] 42)).alloc (.cells #[.int .i64 k, .int .i64 i, .int .i64 p] 28)).alloc (.cells #[.int .i64 0, .slice none 0 0, .int .i64 0] 42))) := ⟨Kept.of_below hB1, ⟨F, hL.below hB1, fun j hj => ⟨.inl hj, Nat.lt_of_lt_of_le (hF j hj) hB1.size⟩, hvF⟩, by rw [hl]; exact (Kept.of_below (F := No) hB1).owns hv (fun _ _ h => h), (fun e => by have := (hv.lt _ e).2; omega), fun g hg => .inl hg⟩
  have HS1P : Hid (T.Perm S) := hp
  have HX1 : Hid (Bx (((W.alloc (.cells #[.int .i64 mo, .slice a n c, .int .i64 nx] 42)).alloc (.cells #[.int .i64 k, .int .i64 i, .int .i64 p] 28)).alloc (.cells #[.int .i64 0, .slice none 0 0, .int .i64 0] 42)) W.heap.size #[.int .i64 mo, .slice a n c, .int .i64 nx] #[.int .i64 k, .int .i64 i, .int .i64 p] #[.int .i64 0, .slice none 0 0, .int .i64 0]) := bx_new _ _ _ _
  have HF : Hid (∀ k, F k → k < W.heap.size) := hF
  have HOK : Hid (Okl mo nx S ∧ mo ≤ 65535) := ⟨hL.2.1, hL.1⟩
  have HTN : Hid (T.length = n) := hl
  have H6 : Hid (I6 k ∧ I6 i ∧ I6 p) := h6
  have HSZ : Hid ((((W.alloc (.cells #[.int .i64 mo, .slice a n c, .int .i64 nx] 42)).alloc (.cells #[.int .i64 k, .int .i64 i, .int .i64 p] 28)).alloc (.cells #[.int .i64 0, .slice none 0 0, .int .i64 0] 42)).heap.size = W.heap.size + 3) := (show _ = _ by simp)
  unfold rv
  clear hL hF hv hp hvF hl hB1 h6 hSn
  go_enter Try.func17, Try.ntmps17
  go_upto_region 1 with fail
  generalize ((W.alloc (.cells #[.int .i64 mo, .slice a n c, .int .i64 nx] 42)).alloc (.cells #[.int .i64 k, .int .i64 i, .int .i64 p] 28)).alloc (.cells #[.int .i64 0, .slice none 0 0, .int .i64 0] 42) = w1 at *
  have o0 := cell_of_row (k := 0) (v := .int .i64 k) HX1.out.o rfl
  have o1 := cell_of_row (k := 1) (v := .int .i64 i) HX1.out.o rfl
  have o2 := cell_of_row (k := 2) (v := .int .i64 p) HX1.out.o rfl
  by_cases hk1 : k = 1
  · subst hk1
    by_cases hgood : 1 ≤ i ∧ i ≤ mo
    · skip
      obtain ⟨F1, hL1, hF1, hvF1⟩ := HS1.out.ln
      have HF1 : Hid (∀ k, F1 k → (F k ∨ W.heap.size + 3 ≤ k) ∧ k < w1.heap.size) := hF1
      have HVF1 : Hid (∀ g, (Value.slice a n c).ownBlock = some g → ¬ F1 g) := hvF1
      have HF1q : Hid (∀ j, F1 j → j < W.heap.size) := (fun j hj => by
        rcases (hF1 j hj).1 with e | e
        · exact HF.out j e
        · have := (hF1 j hj).2; have := HSZ.out; omega)
      have cP := put_yes hL1 i p hgood.1 hgood.2 H6.out.2.2 hnx
      clear hL1 hF1 hvF1
      go_upto_region 4 with (go_at_call 8; refine cP.mono ?_; rintro ex w2 ⟨rfl, F2, hL2, hK2, hF2⟩)
      have HS2 : Hid (Sx W F (.slice a n c) b mo (nx + 1) (insE ⟨i, p, nx⟩ (outE i S)) T (.slice a n c) w2) := HS1.out.turn HF1.out HVF1.out (Nat.le_of_eq HSZ.out.symm) hL2 hK2 hF2
      have HX2 : Hid (Bx w2 W.heap.size #[.int .i64 mo, .slice a n c, .int .i64 nx] #[.int .i64 1, .int .i64 i, .int .i64 p] #[.int .i64 0, .slice none 0 0, .int .i64 0]) := HX1.out.kept hK2 HF1q.out
      have HW2 : Hid (W.heap.size + 3 ≤ w2.heap.size) := (show _ ≤ _ by have := hK2.size; have := HSZ.out; omega)
      have cR := rput_yes (N := mo) (t := nx) i p hgood.1 hgood.2 hnx HS2.out.row (by rw [HTN.out]; omega)
      unfold rv at cR
      have z0 := cell_of_row (k := 0) (v := .int .i64 mo) HX2.out.a rfl
      have z1 := cell_of_row (k := 1) (v := .slice a n c) HX2.out.a rfl
      have z2 := cell_of_row (k := 2) (v := .int .i64 nx) HX2.out.a rfl
      have z3 := cell_of_row (k := 1) (v := .int .i64 i) HX2.out.o rfl
      have z4 := cell_of_row (k := 2) (v := .int .i64 p) HX2.out.o rfl
      clear hL2 hK2 hF2 o0 o1 o2 cP
      go_upto_region 5 with (go_at_call 27; refine cR.mono ?_; rintro ex w3 ⟨u, rfl, own3', hb3⟩; have hfr3 : ∀ g, u.ownBlock = some g → (Value.slice a n c).ownBlock = some g ∨ w2.heap.size ≤ g := (fun g hg => .inr (own3'.lt g hg).1); have own3 := owns_base own3' (Nat.zero_le _); clear own3' cR; obtain ⟨a3, n3, c3, hu3⟩ : ∃ a n c, u = .slice a n c := (by
          obtain ⟨_, a, c, e, _⟩ := owns_ref own3
          exact ⟨a, _, c, e⟩); subst hu3)
      clear z0 z1 z2 z3 z4
      have HS3 : Hid (Sx W F (.slice a n c) b mo (nx + 1) (insE (⟨i, p, nx⟩ : En) (outE i S)) (outE i T ++ [(⟨i, p, nx⟩ : En)]) (.slice a3 n3 c3) (w3.alloc (.cells #[.int .i64 mo, .slice a3 n3 c3, .int .i64 ((nx : Int) + 1)] 42))) := (HS2.out.fresh hb3 own3 hfr3 HW2.out).below ((Below.refl _ w3).alloc (Nat.le_refl _) _)
      have HX3 : Hid (Bx (w3.alloc (.cells #[.int .i64 mo, .slice a3 n3 c3, .int .i64 ((nx : Int) + 1)] 42)) W.heap.size #[.int .i64 mo, .slice a n c, .int .i64 nx] #[.int .i64 1, .int .i64 i, .int .i64 p] #[.int .i64 0, .slice none 0 0, .int .i64 0]) := (HX2.out.below hb3).below ((Below.refl _ w3).alloc (Nat.le_refl _) _)
      have y := heap_last w3 (.cells #[.int .i64 mo, .slice a3 n3 c3, .int .i64 ((nx : Int) + 1)] 42)
      have y0 := cell_of_row (k := 0) (v := .int .i64 mo) y rfl
      have y1 := cell_of_row (k := 1) (v := .slice a3 n3 c3) y rfl
      have y2 := cell_of_row (k := 2) (v := .int .i64 ((nx : Int) + 1)) y rfl
      clear y hb3 own3 hfr3
      generalize w3.alloc (.cells #[.int .i64 mo, .slice a3 n3 c3, .int .i64 ((nx : Int) + 1)] 42) = w4 at *
      have p0 := cell_of_row (k := 0) (v := .int .i64 0) HX3.out.z rfl
      have p1 := cell_of_row (k := 1) (v := .slice none 0 0) HX3.out.z rfl
      have p2 := cell_of_row (k := 2) (v := .int .i64 0) HX3.out.z rfl
      have pf := fz_row HX3.out.z
      go_wp2
      have hld := ld42 (set3' HX3.out.z (.int .i64 mo) (.slice a3 n3 c3) (.int .i64 ((nx : Int) + 1)))
      refine bodyPost_ret (v := .tuple #[.agg #[.int .i64 mo, .slice a3 n3 c3, .int .i64 ((nx : Int) + 1)], .bool true]) ?_ rfl ⟨_, nx + 1, insE (⟨i, p, nx⟩ : En) (outE i S), outE i T ++ [(⟨i, p, nx⟩ : En)], rfl, Nat.le_refl _, perm_put HS1P.out i _, HS3.out.set HF.out _ _ _⟩
      rw [results_cell_tmp rfl]
      simp [asAddr, Result.andThen, hld]
    · obtain ⟨F1, hL1, -⟩ := HS1.out.ln
      have cP := put_no hL1 i p (by omega)
      have cR := rput_no (N := mo) (t := nx) i p (by omega) HS1.out.row
      unfold rv at cR
      clear hL1
      have z0 := cell_of_row (k := 0) (v := .int .i64 mo) HX1.out.a rfl
      have z1 := cell_of_row (k := 1) (v := .slice a n c) HX1.out.a rfl
      have z2 := cell_of_row (k := 2) (v := .int .i64 nx) HX1.out.a rfl
      have z3 := cell_of_row (k := 1) (v := .int .i64 i) HX1.out.o rfl
      have z4 := cell_of_row (k := 2) (v := .int .i64 p) HX1.out.o rfl
      go_upto_region 4 with (go_at_call 8; refine cP.mono ?_; rintro ex w2 ⟨rfl, hw2⟩; obtain rfl := hw2.symm)
      go_upto_region 5 with (go_at_call 27; refine cR.mono ?_; rintro ex w3 ⟨rfl, hb3⟩)
      have HS3 : Hid (Sx W F (.slice a n c) b mo nx S T (.slice a n c) (w3.alloc (.cells #[.int .i64 mo, .slice a n c, .int .i64 nx] 42))) := (HS1.out.below hb3).below ((Below.refl _ w3).alloc (Nat.le_refl _) _)
      have HX3 : Hid (Bx (w3.alloc (.cells #[.int .i64 mo, .slice a n c, .int .i64 nx] 42)) W.heap.size #[.int .i64 mo, .slice a n c, .int .i64 nx] #[.int .i64 1, .int .i64 i, .int .i64 p] #[.int .i64 0, .slice none 0 0, .int .i64 0]) := (HX1.out.below hb3).below ((Below.refl _ w3).alloc (Nat.le_refl _) _)
      have y := heap_last w3 (.cells #[.int .i64 mo, .slice a n c, .int .i64 nx] 42)
      have y0 := cell_of_row (k := 0) (v := .int .i64 mo) y rfl
      have y1 := cell_of_row (k := 1) (v := .slice a n c) y rfl
      have y2 := cell_of_row (k := 2) (v := .int .i64 nx) y rfl
      clear y hb3 z0 z1 z2 z3 z4 cR cP
      generalize w3.alloc (.cells #[.int .i64 mo, .slice a n c, .int .i64 nx] 42) = w4 at *
      have p0 := cell_of_row (k := 0) (v := .int .i64 0) HX3.out.z rfl
      have p1 := cell_of_row (k := 1) (v := .slice none 0 0) HX3.out.z rfl
      have p2 := cell_of_row (k := 2) (v := .int .i64 0) HX3.out.z rfl
      have pf := fz_row HX3.out.z
      go_wp2
      have hld := ld42 (set3' HX3.out.z (.int .i64 mo) (.slice a n c) (.int .i64 nx))
      refine bodyPost_ret (v := .tuple #[.agg #[.int .i64 mo, .slice a n c, .int .i64 nx], .bool true]) ?_ rfl ⟨_, nx, S, T, rfl, Nat.le_succ _, HS1P.out, HS3.out.set HF.out _ _ _⟩
      rw [results_cell_tmp rfl]
      simp [asAddr, Result.andThen, hld]
  by_cases hk2 : k = 2
  · subst hk2
    obtain ⟨F1, hL1, hF1, hvF1⟩ := HS1.out.ln
    have HF1 : Hid (∀ k, F1 k → (F k ∨ W.heap.size + 3 ≤ k) ∧ k < w1.heap.size) := hF1
    have HVF1 : Hid (∀ g, (Value.slice a n c).ownBlock = some g → ¬ F1 g) := hvF1
    have HF1q : Hid (∀ j, F1 j → j < W.heap.size) := (fun j hj => by
      rcases (hF1 j hj).1 with e | e
      · exact HF.out j e
      · have := (hF1 j hj).2; have := HSZ.out; omega)
    have cP := remove_any hL1 i H6.out.2.1
    obtain ⟨rr, hrr⟩ : ∃ rr, hasE i S = rr := ⟨_, rfl⟩
    rw [hrr] at cP
    have HRR : Hid (hasE i T = rr) := (show _ = _ by rw [perm_has HS1P.out i]; exact hrr)
    clear hL1 hF1 hvF1 hrr
    go_upto_region 8 with (go_at_call 9; refine cP.mono ?_; rintro ex w2 ⟨rfl, hL2, hK2⟩)
    have hF2 : ∀ k, F1 k → F1 k ∨ w1.heap.size ≤ k := fun k hk => .inl hk
    have HS2 : Hid (Sx W F (.slice a n c) b mo (nx) (outE i S) T (.slice a n c) w2) := HS1.out.turn HF1.out HVF1.out (Nat.le_of_eq HSZ.out.symm) hL2 hK2 hF2
    have HX2 : Hid (Bx w2 W.heap.size #[.int .i64 mo, .slice a n c, .int .i64 nx] #[.int .i64 2, .int .i64 i, .int .i64 p] #[.int .i64 0, .slice none 0 0, .int .i64 0]) := HX1.out.kept hK2 HF1q.out
    have HW2 : Hid (W.heap.size + 3 ≤ w2.heap.size) := (show _ ≤ _ by have := hK2.size; have := HSZ.out; omega)
    have cR := rremove_any (N := mo) (t := nx) i HS2.out.row (by rw [HTN.out]; omega)
    unfold rv at cR
    rw [HRR.out] at cR
    have z0 := cell_of_row (k := 0) (v := .int .i64 mo) HX2.out.a rfl
    have z1 := cell_of_row (k := 1) (v := .slice a n c) HX2.out.a rfl
    have z2 := cell_of_row (k := 2) (v := .int .i64 nx) HX2.out.a rfl
    have z3 := cell_of_row (k := 1) (v := .int .i64 i) HX2.out.o rfl
    have z4 := cell_of_row (k := 2) (v := .int .i64 p) HX2.out.o rfl
    clear hL2 hK2 hF2 o0 o1 o2 cP
    go_upto_region 9 with (go_at_call 28; refine cR.mono ?_; rintro ex w3 ⟨u, rfl, own3', hb3⟩; have hfr3 : ∀ g, u.ownBlock = some g → (Value.slice a n c).ownBlock = some g ∨ w2.heap.size ≤ g := (fun g hg => .inr (own3'.lt g hg).1); have own3 := owns_base own3' (Nat.zero_le _); clear own3' cR; obtain ⟨a3, n3, c3, hu3⟩ : ∃ a n c, u = .slice a n c := (by
        obtain ⟨_, a, c, e, _⟩ := owns_ref own3
        exact ⟨a, _, c, e⟩); subst hu3)
    clear z0 z1 z2 z3 z4
    have HS3 : Hid (Sx W F (.slice a n c) b mo (nx) (outE i S) (outE i T) (.slice a3 n3 c3) (w3.alloc (.cells #[.int .i64 mo, .slice a3 n3 c3, .int .i64 (nx : Int)] 42))) := (HS2.out.fresh hb3 own3 hfr3 HW2.out).below ((Below.refl _ w3).alloc (Nat.le_refl _) _)
    have HX3 : Hid (Bx (w3.alloc (.cells #[.int .i64 mo, .slice a3 n3 c3, .int .i64 (nx : Int)] 42)) W.heap.size #[.int .i64 mo, .slice a n c, .int .i64 nx] #[.int .i64 2, .int .i64 i, .int .i64 p] #[.int .i64 0, .slice none 0 0, .int .i64 0]) := (HX2.out.below hb3).below ((Below.refl _ w3).alloc (Nat.le_refl _) _)
    have y := heap_last w3 (.cells #[.int .i64 mo, .slice a3 n3 c3, .int .i64 (nx : Int)] 42)
    have y0 := cell_of_row (k := 0) (v := .int .i64 mo) y rfl
    have y1 := cell_of_row (k := 1) (v := .slice a3 n3 c3) y rfl
    have y2 := cell_of_row (k := 2) (v := .int .i64 (nx : Int)) y rfl
    clear y hb3 own3 hfr3
    generalize w3.alloc (.cells #[.int .i64 mo, .slice a3 n3 c3, .int .i64 (nx : Int)] 42) = w4 at *
    have p0 := cell_of_row (k := 0) (v := .int .i64 0) HX3.out.z rfl
    have p1 := cell_of_row (k := 1) (v := .slice none 0 0) HX3.out.z rfl
    have p2 := cell_of_row (k := 2) (v := .int .i64 0) HX3.out.z rfl
    have pf := fz_row HX3.out.z
    go_wp2
    have hld := ld42 (set3' HX3.out.z (.int .i64 mo) (.slice a3 n3 c3) (.int .i64 (nx : Int)))
    refine bodyPost_ret (v := .tuple #[.agg #[.int .i64 mo, .slice a3 n3 c3, .int .i64 (nx : Int)], .bool true]) ?_ rfl ⟨_, nx, outE i S, outE i T, rfl, Nat.le_succ _, perm_out HS1P.out i, HS3.out.set HF.out _ _ _⟩
    rw [results_cell_tmp rfl]
    simp [asAddr, Result.andThen, hld]
  by_cases hk3 : k = 3
  · subst hk3
    obtain ⟨F1, hL1, -⟩ := HS1.out.ln
    have cP := first_any hL1
    obtain ⟨hI, hhI⟩ : ∃ hI, headI S = hI := ⟨_, rfl⟩
    obtain ⟨bb, hbb⟩ : ∃ bb, S.head?.isSome = bb := ⟨_, rfl⟩
    rw [hhI, hbb] at cP
    have HHB : Hid (headI S = hI ∧ S.head?.isSome = bb) := ⟨hhI, hbb⟩
    clear hL1 hhI hbb
    go_upto_region 12 with (go_at_call 10; refine cP.mono ?_; rintro ex w2 ⟨rfl, hb2⟩)
    have HS2 : Hid (Sx W F (.slice a n c) b mo nx S T (.slice a n c) w2) := HS1.out.below hb2
    have HX2 : Hid (Bx w2 W.heap.size #[.int .i64 mo, .slice a n c, .int .i64 nx] #[.int .i64 3, .int .i64 i, .int .i64 p] #[.int .i64 0, .slice none 0 0, .int .i64 0]) := HX1.out.below hb2
    have cR := rfirst_any (N := mo) (t := nx) HS2.out.row HS1P.out HOK.out.1
    unfold rv at cR
    rw [HHB.out.1, HHB.out.2] at cR
    have z0 := cell_of_row (k := 0) (v := .int .i64 mo) HX2.out.a rfl
    have z1 := cell_of_row (k := 1) (v := .slice a n c) HX2.out.a rfl
    have z2 := cell_of_row (k := 2) (v := .int .i64 nx) HX2.out.a rfl
    have z3 := cell_of_row (k := 1) (v := .int .i64 i) HX2.out.o rfl
    have z4 := cell_of_row (k := 2) (v := .int .i64 p) HX2.out.o rfl
    clear hb2 o0 o1 o2 cP
    go_upto_region 13 with (go_at_call 29; refine cR.mono ?_; rintro ex w3 ⟨rfl, hb3⟩)
    have HS3 : Hid (Sx W F (.slice a n c) b mo nx S T (.slice a n c) w3) := HS2.out.below hb3
    have HX3 : Hid (Bx w3 W.heap.size #[.int .i64 mo, .slice a n c, .int .i64 nx] #[.int .i64 3, .int .i64 i, .int .i64 p] #[.int .i64 0, .slice none 0 0, .int .i64 0]) := HX2.out.below hb3
    clear hb3 z0 z1 z2 z3 z4 cR
    have z0 := cell_of_row (k := 0) (v := .int .i64 mo) HX3.out.a rfl
    have z1 := cell_of_row (k := 1) (v := .slice a n c) HX3.out.a rfl
    have z2 := cell_of_row (k := 2) (v := .int .i64 nx) HX3.out.a rfl
    have z3 := cell_of_row (k := 1) (v := .int .i64 i) HX3.out.o rfl
    have z4 := cell_of_row (k := 2) (v := .int .i64 p) HX3.out.o rfl
    have p0 := cell_of_row (k := 0) (v := .int .i64 0) HX3.out.z rfl
    have p1 := cell_of_row (k := 1) (v := .slice none 0 0) HX3.out.z rfl
    have p2 := cell_of_row (k := 2) (v := .int .i64 0) HX3.out.z rfl
    have pf := fz_row HX3.out.z
    go_wp2
    have hld := ld42 (set3' HX3.out.z (.int .i64 mo) (.slice a n c) (.int .i64 nx))
    refine bodyPost_ret (v := .tuple #[.agg #[.int .i64 mo, .slice a n c, .int .i64 nx], .bool true]) ?_ rfl ⟨_, nx, S, T, rfl, Nat.le_succ _, HS1P.out, HS3.out.set HF.out _ _ _⟩
    rw [results_cell_tmp rfl]
    simp [asAddr, Result.andThen, hld]
  by_cases hk4 : k = 4
  · subst hk4
    obtain ⟨F1, hL1, hF1, hvF1⟩ := HS1.out.ln
    have HF1 : Hid (∀ k, F1 k → (F k ∨ W.heap.size + 3 ≤ k) ∧ k < w1.heap.size) := hF1
    have HVF1 : Hid (∀ g, (Value.slice a n c).ownBlock = some g → ¬ F1 g) := hvF1
    have HF1q : Hid (∀ j, F1 j → j < W.heap.size) := (fun j hj => by
      rcases (hF1 j hj).1 with e | e
      · exact HF.out j e
      · have := (hF1 j hj).2; have := HSZ.out; omega)
    have cP := take_any hL1
    obtain ⟨hI, hhI⟩ : ∃ hI, headI S = hI := ⟨_, rfl⟩
    obtain ⟨bb, hbb⟩ : ∃ bb, S.head?.isSome = bb := ⟨_, rfl⟩
    rw [hhI, hbb] at cP
    have HHB : Hid (headI S = hI ∧ S.head?.isSome = bb) := ⟨hhI, hbb⟩
    have HPT : Hid ((outE hI T).Perm S.tail) := (by
      have h1 := perm_out HS1P.out hI
      have h2 : outE hI S = S.tail := by
        rw [← hhI]
        cases hS : S with
        | nil => rfl
        | cons x r => exact out_head (by rw [← hS]; exact HOK.out.1)
      rw [h2] at h1
      exact h1)
    clear hL1 hF1 hvF1 hhI hbb
    go_upto_region 16 with (go_at_call 11; refine cP.mono ?_; rintro ex w2 ⟨rfl, hL2, hK2⟩)
    have hF2 : ∀ k, F1 k → F1 k ∨ w1.heap.size ≤ k := fun k hk => .inl hk
    have HS2 : Hid (Sx W F (.slice a n c) b mo (nx) (S.tail) T (.slice a n c) w2) := HS1.out.turn HF1.out HVF1.out (Nat.le_of_eq HSZ.out.symm) hL2 hK2 hF2
    have HX2 : Hid (Bx w2 W.heap.size #[.int .i64 mo, .slice a n c, .int .i64 nx] #[.int .i64 4, .int .i64 i, .int .i64 p] #[.int .i64 0, .slice none 0 0, .int .i64 0]) := HX1.out.kept hK2 HF1q.out
    have HW2 : Hid (W.heap.size + 3 ≤ w2.heap.size) := (show _ ≤ _ by have := hK2.size; have := HSZ.out; omega)
    have cR := rtake_any (N := mo) (t := nx) HS2.out.row (by rw [HTN.out]; omega) HS1P.out HOK.out.1
    unfold rv at cR
    rw [HHB.out.1, HHB.out.2] at cR
    have z0 := cell_of_row (k := 0) (v := .int .i64 mo) HX2.out.a rfl
    have z1 := cell_of_row (k := 1) (v := .slice a n c) HX2.out.a rfl
    have z2 := cell_of_row (k := 2) (v := .int .i64 nx) HX2.out.a rfl
    have z3 := cell_of_row (k := 1) (v := .int .i64 i) HX2.out.o rfl
    have z4 := cell_of_row (k := 2) (v := .int .i64 p) HX2.out.o rfl
    clear hL2 hK2 hF2 o0 o1 o2 cP
    go_upto_region 17 with (go_at_call 30; refine cR.mono ?_; rintro ex w3 ⟨u, rfl, own3, hfr3, hb3⟩; clear cR; obtain ⟨a3, n3, c3, hu3⟩ : ∃ a n c, u = .slice a n c := (by
        obtain ⟨_, a, c, e, _⟩ := owns_ref own3
        exact ⟨a, _, c, e⟩); subst hu3)
    clear z0 z1 z2 z3 z4
    have HS3 : Hid (Sx W F (.slice a n c) b mo (nx) (S.tail) (outE hI T) (.slice a3 n3 c3) (w3.alloc (.cells #[.int .i64 mo, .slice a3 n3 c3, .int .i64 (nx : Int)] 42))) := (HS2.out.fresh hb3 own3 hfr3 HW2.out).below ((Below.refl _ w3).alloc (Nat.le_refl _) _)
    have HX3 : Hid (Bx (w3.alloc (.cells #[.int .i64 mo, .slice a3 n3 c3, .int .i64 (nx : Int)] 42)) W.heap.size #[.int .i64 mo, .slice a n c, .int .i64 nx] #[.int .i64 4, .int .i64 i, .int .i64 p] #[.int .i64 0, .slice none 0 0, .int .i64 0]) := (HX2.out.below hb3).below ((Below.refl _ w3).alloc (Nat.le_refl _) _)
    have y := heap_last w3 (.cells #[.int .i64 mo, .slice a3 n3 c3, .int .i64 (nx : Int)] 42)
    have y0 := cell_of_row (k := 0) (v := .int .i64 mo) y rfl
    have y1 := cell_of_row (k := 1) (v := .slice a3 n3 c3) y rfl
    have y2 := cell_of_row (k := 2) (v := .int .i64 (nx : Int)) y rfl
    clear y hb3 own3 hfr3
    generalize w3.alloc (.cells #[.int .i64 mo, .slice a3 n3 c3, .int .i64 (nx : Int)] 42) = w4 at *
    have p0 := cell_of_row (k := 0) (v := .int .i64 0) HX3.out.z rfl
    have p1 := cell_of_row (k := 1) (v := .slice none 0 0) HX3.out.z rfl
    have p2 := cell_of_row (k := 2) (v := .int .i64 0) HX3.out.z rfl
    have pf := fz_row HX3.out.z
    go_wp2
    have hld := ld42 (set3' HX3.out.z (.int .i64 mo) (.slice a3 n3 c3) (.int .i64 (nx : Int)))
    refine bodyPost_ret (v := .tuple #[.agg #[.int .i64 mo, .slice a3 n3 c3, .int .i64 (nx : Int)], .bool true]) ?_ rfl ⟨_, nx, S.tail, outE hI T, rfl, Nat.le_succ _, HPT.out, HS3.out.set HF.out _ _ _⟩
    rw [results_cell_tmp rfl]
    simp [asAddr, Result.andThen, hld]
  by_cases hk6 : k = 6
  · subst hk6
    obtain ⟨F1, hL1, -⟩ := HS1.out.ln
    have cP := priority_any hL1 i H6.out.2.1
    have HFE : Hid (findE i T = findE i S) := perm_find HS1P.out HOK.out.1 i
    have HPE : Hid (prioE i T = prioE i S) := (show _ = _ by unfold prioE; rw [HFE.out])
    obtain ⟨hI, hhI⟩ : ∃ hI, prioE i S = hI := ⟨_, rfl⟩
    obtain ⟨bb, hbb⟩ : ∃ bb, (findE i S).isSome = bb := ⟨_, rfl⟩
    rw [hhI, hbb] at cP
    have HHB : Hid (prioE i T = hI ∧ (findE i T).isSome = bb) := ⟨by rw [HPE.out]; exact hhI, by rw [HFE.out]; exact hbb⟩
    clear hL1 hhI hbb
    go_upto_region 22 with (go_at_call 14; refine cP.mono ?_; rintro ex w2 ⟨rfl, hb2⟩)
    have HS2 : Hid (Sx W F (.slice a n c) b mo nx S T (.slice a n c) w2) := HS1.out.below hb2
    have HX2 : Hid (Bx w2 W.heap.size #[.int .i64 mo, .slice a n c, .int .i64 nx] #[.int .i64 6, .int .i64 i, .int .i64 p] #[.int .i64 0, .slice none 0 0, .int .i64 0]) := HX1.out.below hb2
    have cR := rprio_any (N := mo) (t := nx) i HS2.out.row
    unfold rv at cR
    rw [HHB.out.1, HHB.out.2] at cR
    have z0 := cell_of_row (k := 0) (v := .int .i64 mo) HX2.out.a rfl
    have z1 := cell_of_row (k := 1) (v := .slice a n c) HX2.out.a rfl
    have z2 := cell_of_row (k := 2) (v := .int .i64 nx) HX2.out.a rfl
    have z3 := cell_of_row (k := 1) (v := .int .i64 i) HX2.out.o rfl
    have z4 := cell_of_row (k := 2) (v := .int .i64 p) HX2.out.o rfl
    clear hb2 o0 o1 o2 cP
    go_upto_region 23 with (go_at_call 31; refine cR.mono ?_; rintro ex w3 ⟨rfl, hb3⟩)
    have HS3 : Hid (Sx W F (.slice a n c) b mo nx S T (.slice a n c) w3) := HS2.out.below hb3
    have HX3 : Hid (Bx w3 W.heap.size #[.int .i64 mo, .slice a n c, .int .i64 nx] #[.int .i64 6, .int .i64 i, .int .i64 p] #[.int .i64 0, .slice none 0 0, .int .i64 0]) := HX2.out.below hb3
    clear hb3 z0 z1 z2 z3 z4 cR
    have z0 := cell_of_row (k := 0) (v := .int .i64 mo) HX3.out.a rfl
    have z1 := cell_of_row (k := 1) (v := .slice a n c) HX3.out.a rfl
    have z2 := cell_of_row (k := 2) (v := .int .i64 nx) HX3.out.a rfl
    have z3 := cell_of_row (k := 1) (v := .int .i64 i) HX3.out.o rfl
    have z4 := cell_of_row (k := 2) (v := .int .i64 p) HX3.out.o rfl
    have p0 := cell_of_row (k := 0) (v := .int .i64 0) HX3.out.z rfl
    have p1 := cell_of_row (k := 1) (v := .slice none 0 0) HX3.out.z rfl
    have p2 := cell_of_row (k := 2) (v := .int .i64 0) HX3.out.z rfl
    have pf := fz_row HX3.out.z
    go_wp2
    have hld := ld42 (set3' HX3.out.z (.int .i64 mo) (.slice a n c) (.int .i64 nx))
    refine bodyPost_ret (v := .tuple #[.agg #[.int .i64 mo, .slice a n c, .int .i64 nx], .bool true]) ?_ rfl ⟨_, nx, S, T, rfl, Nat.le_succ _, HS1P.out, HS3.out.set HF.out _ _ _⟩
    rw [results_cell_tmp rfl]
    simp [asAddr, Result.andThen, hld]
  by_cases hk5 : k = 5
  · subst hk5
    obtain ⟨F1, hL1, hF1, -⟩ := HS1.out.ln
    have cX : Calls Try.prog 18 #[.pointer (some ⟨b, 0, none⟩), .agg #[.int .i64 mo, .slice a n c, .int .i64 nx]] w1.drew fun ex w' => ex = .returned (.bool true) ∧ Below w1.drew.heap.size w1.drew w' := (by
      have hb : Below w1.heap.size w1 w1.drew := ⟨rfl, rfl, rfl, Nat.le_refl _, fun _ _ => rfl⟩
      have hr := (HS1.out.below hb).row
      rw [HTN.out] at hr
      exact listed_any (N := mo) (t := nx) (hL1.below hb) (fun k hk => (hF1 k hk).2) hr HS1P.out)
    clear hL1 hF1
    have HSD : Hid (∀ w2, Below w1.drew.heap.size w1.drew w2 → Sx W F (.slice a n c) b mo nx S T (.slice a n c) w2 ∧ Bx w2 W.heap.size #[.int .i64 mo, .slice a n c, .int .i64 nx] #[.int .i64 5, .int .i64 i, .int .i64 p] #[.int .i64 0, .slice none 0 0, .int .i64 0]) := (fun w2 hb2 => by
      have hb : Below w1.heap.size w1 w1.drew := ⟨rfl, rfl, rfl, Nat.le_refl _, fun _ _ => rfl⟩
      exact ⟨(HS1.out.below hb).below hb2, (HX1.out.below hb).below hb2⟩)
    go_upto_region 19 with fail
    have hb0 : Below w1.drew.heap.size w1.drew w1.drew := Below.refl _ _
    have z0 := cell_of_row (k := 0) (v := .int .i64 mo) (HSD.out _ hb0).2.a rfl
    have z1 := cell_of_row (k := 1) (v := .slice a n c) (HSD.out _ hb0).2.a rfl
    have z2 := cell_of_row (k := 2) (v := .int .i64 nx) (HSD.out _ hb0).2.a rfl
    clear hb0 o0 o1 o2
    go_region_with (go_at_call 18; refine cX.mono ?_; rintro ex w2 ⟨rfl, hb2⟩; have HS2 : Hid (Sx W F (.slice a n c) b mo nx S T (.slice a n c) w2) := (HSD.out w2 hb2).1; have HX2 : Hid (Bx w2 W.heap.size #[.int .i64 mo, .slice a n c, .int .i64 nx] #[.int .i64 5, .int .i64 i, .int .i64 p] #[.int .i64 0, .slice none 0 0, .int .i64 0]) := (HSD.out w2 hb2).2; have x0 := cell_of_row (k := 0) (v := .int .i64 mo) HX2.out.a rfl; have x1 := cell_of_row (k := 1) (v := .slice a n c) HX2.out.a rfl; have x2 := cell_of_row (k := 2) (v := .int .i64 nx) HX2.out.a rfl; have p0 := cell_of_row (k := 0) (v := .int .i64 0) HX2.out.z rfl; have p1 := cell_of_row (k := 1) (v := .slice none 0 0) HX2.out.z rfl; have p2 := cell_of_row (k := 2) (v := .int .i64 0) HX2.out.z rfl; have pf := fz_row HX2.out.z)
    all_goals
      go_wp2
      have hld := ld42 (set3' HX2.out.z (.int .i64 mo) (.slice a n c) (.int .i64 nx))
      refine bodyPost_ret (v := .tuple #[.agg #[.int .i64 mo, .slice a n c, .int .i64 nx], .bool true]) ?_ rfl ⟨_, nx, S, T, rfl, Nat.le_succ _, HS1P.out, HS2.out.set HF.out _ _ _⟩
      rw [results_cell_tmp rfl]
      simp only [Act.put, List.setIfInBounds_toArray]
      simp [asAddr, Result.andThen, hld]
  have z0 := cell_of_row (k := 0) (v := .int .i64 mo) HX1.out.a rfl
  have z1 := cell_of_row (k := 1) (v := .slice a n c) HX1.out.a rfl
  have z2 := cell_of_row (k := 2) (v := .int .i64 nx) HX1.out.a rfl
  have z3 := cell_of_row (k := 1) (v := .int .i64 i) HX1.out.o rfl
  have z4 := cell_of_row (k := 2) (v := .int .i64 p) HX1.out.o rfl
  have p0 := cell_of_row (k := 0) (v := .int .i64 0) HX1.out.z rfl
  have p1 := cell_of_row (k := 1) (v := .slice none 0 0) HX1.out.z rfl
  have p2 := cell_of_row (k := 2) (v := .int .i64 0) HX1.out.z rfl
  have pf := fz_row HX1.out.z
  go_wp2
  have hld := ld42 (set3' HX1.out.z (.int .i64 mo) (.slice a n c) (.int .i64 nx))
  refine bodyPost_ret (v := .tuple #[.agg #[.int .i64 mo, .slice a n c, .int .i64 nx], .bool true]) ?_ rfl ⟨_, nx, S, T, rfl, Nat.le_succ _, HS1P.out, HS1.out.set HF.out _ _ _⟩
  rw [results_cell_tmp rfl]
  simp [asAddr, Result.andThen, hld]
end
end Go.Proofs.Yteiakmjdjaodlaa
