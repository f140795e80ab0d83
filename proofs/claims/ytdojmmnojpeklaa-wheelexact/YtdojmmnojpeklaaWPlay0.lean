/-
  'play': what it keeps.
-/
import Derived.Test.YtdojmmnojpeklaaWAsk
namespace Go.Proofs.Ytdojmmnojpeklaa
open Go.RowKit
set_option linter.unusedVariables false
set_option maxRecDepth 100000

theorem results_c4 {fn : Func} {p u x y : Tmp} {ty : TypeId} (h : fn.results = #[.cell p ty, .tmp u, .tmp x, .tmp y]) (tmps : Array Value) (P : Program) (w : World) :
    (results fn tmps).run P w =
      ((asAddr (tmps.getD p undef)).run P w).andThen fun a w₁ => ((loadVar ty a).run P w₁).andThen fun v w₂ => .ok (.tuple #[v, tmps.getD u undef, tmps.getD x undef, tmps.getD y undef]) w₂ := by
  simp only [results, h]
  simp [Sem.run_bind, Result.andThen]
theorem set3' {w : World} {q : Nat} {a b c : Value} {e : TypeId} (h : w.heap[q]? = some (.cells #[a, b, c] e)) (x y z : Value) : (((w.setCell ⟨q, 0, none⟩ x).setCell ⟨q, 1, none⟩ y).setCell ⟨q, 2, none⟩ z).heap[q]? = some (.cells #[x, y, z] e) := by
  rw [heap_setCell_eq (heap_setCell_eq (heap_setCell_eq h _) _) _]
  rfl
theorem set12' {w : World} {q : Nat} {a b c : Value} {e : TypeId} (h : w.heap[q]? = some (.cells #[a, b, c] e)) (y z : Value) : ((w.setCell ⟨q, 1, none⟩ y).setCell ⟨q, 2, none⟩ z).heap[q]? = some (.cells #[a, y, z] e) := by
  rw [heap_setCell_eq (heap_setCell_eq h _) _]
  rfl
theorem ld51 {w : World} {q : Nat} {a b c : Value} (h : w.heap[q]? = some (.cells #[a, b, c] 51)) : (loadVar 51 ⟨q, 0, none⟩).run Try.prog w = .ok (.agg #[a, b, c]) w :=
  run_loadVar_row (P := Try.prog) w q 51 51 _ (0, 0) _ h Try.underlying51 rfl (by kernel_rfl)
theorem set3_keptF {q : Nat} (w : World) (x y z : Value) : Kept (fun k => k = q) w (((w.setCell ⟨q, 0, none⟩ x).setCell ⟨q, 1, none⟩ y).setCell ⟨q, 2, none⟩ z) :=
  Kept.setCell (F := fun k => k = q) (p := ⟨q, 2, none⟩) (Kept.setCell (F := fun k => k = q) (p := ⟨q, 1, none⟩) (Kept.setCell (F := fun k => k = q) (p := ⟨q, 0, none⟩) (Kept.refl _ w) (.inl rfl) _) (.inl rfl) _) (.inl rfl) _
theorem set12_keptF {q : Nat} (w : World) (y z : Value) : Kept (fun k => k = q) w ((w.setCell ⟨q, 1, none⟩ y).setCell ⟨q, 2, none⟩ z) :=
  Kept.setCell (F := fun k => k = q) (p := ⟨q, 2, none⟩) (Kept.setCell (F := fun k => k = q) (p := ⟨q, 1, none⟩) (Kept.refl _ w) (.inl rfl) _) (.inl rfl) _

/-- a wheel, the document's wheel, what was told and what was to be told, amid one call -/
structure Py (W : World) (F : Nat → Prop) (v0 : Value) (b n : Nat) (L M : List Fi) (v : Value) (T U : List Fi) (l k : Value) (w : World) : Prop where
  kept : Kept F W w
  wh : ∃ F', Wh w F' b n L ∧ (∀ j, F' j → (F j ∨ W.heap.size + 3 ≤ j) ∧ j < w.heap.size) ∧ ∀ g, (v.ownBlock = some g ∨ l.ownBlock = some g ∨ k.ownBlock = some g) → ¬ F' g
  row : w.ownsRow 0 32 2 v M.length (fcL M)
  rl : w.ownsRow (W.heap.size + 3) 32 2 l T.length (fcL T)
  rk : w.ownsRow (W.heap.size + 3) 32 2 k U.length (fcL U)
  nv : ∀ g, v.ownBlock = some g → (v0.ownBlock = some g ∧ g < W.heap.size) ∨ W.heap.size + 3 ≤ g
  lv : ∀ g, l.ownBlock = some g → v.ownBlock ≠ some g
  kv : ∀ g, k.ownBlock = some g → v.ownBlock ≠ some g
  lk : ∀ g, l.ownBlock = some g → k.ownBlock ≠ some g
namespace Py
variable {W w w' : World} {F : Nat → Prop} {b n : Nat} {L M T U : List Fi} {v v0 l k : Value}
/-- the boxes alone were written -/
theorem own {G : Nat → Prop} (h : Py W F v0 b n L M v T U l k w) (hF : ∀ k, F k → k < W.heap.size) (kk : Kept G w w') (hG : ∀ j, G j → W.heap.size ≤ j ∧ j < W.heap.size + 3) : Py W F v0 b n L M v T U l k w' := by
  obtain ⟨F', h1, h2, h3⟩ := h.wh
  refine ⟨h.kept.trans kk (fun j hj => .inr (hG j hj).1), ⟨F', h1.kept kk (fun j hj e => ?_), fun j hj => ⟨(h2 j hj).1, Nat.lt_of_lt_of_le (h2 j hj).2 kk.size⟩, h3⟩, kk.owns h.row (fun g hg e => ?_), kk.owns h.rl (fun g hg e => ?_), kk.owns h.rk (fun g hg e => ?_), h.nv, h.lv, h.kv, h.lk⟩
  · have := hG j e
    rcases (h2 j hj).1 with e2 | e2
    · have := hF j e2; omega
    · omega
  · have := hG g e
    rcases h.nv g hg with e2 | e2
    · omega
    · omega
  · have := hG g e; have := (h.rl.lt g hg).1; omega
  · have := hG g e; have := (h.rk.lt g hg).1; omega
theorem below (h : Py W F v0 b n L M v T U l k w) (hF : ∀ k, F k → k < W.heap.size) (kk : Below w.heap.size w w') : Py W F v0 b n L M v T U l k w' := h.own hF (Kept.of_below (F := No) kk) (fun j hj => hj.elim)
/-- the wheel was turned, and told something -/
theorem turn {F1 F2 : Nat → Prop} {n2 : Nat} {L2 T2 : List Fi} {l2 : Value} (h : Py W F v0 b n L M v [] U (.slice none 0 0) k w) (hF1 : ∀ j, F1 j → (F j ∨ W.heap.size + 3 ≤ j) ∧ j < w.heap.size) (hv1 : ∀ g, (v.ownBlock = some g ∨ (Value.slice none 0 0).ownBlock = some g ∨ k.ownBlock = some g) → ¬ F1 g) (hsz : W.heap.size + 3 ≤ w.heap.size) (hL2 : Wh w' F2 b n2 L2) (hK2 : Kept F1 w w') (hF2 : ∀ j, F2 j → F1 j ∨ w.heap.size ≤ j) (hl : w'.ownsRow w.heap.size 32 2 l2 T2.length (fcL T2)) (hlF : ∀ g, l2.ownBlock = some g → ¬ F2 g) : Py W F v0 b n2 L2 M v T2 U l2 k w' := by
  refine ⟨h.kept.trans hK2 (fun j hj => ?_), ⟨_, hL2.bound, fun j hj => ⟨?_, hj.2⟩, fun g hg hj => ?_⟩, hK2.owns h.row (fun g hg => hv1 g (.inl hg)), owns_base hl hsz, hK2.owns h.rk (fun g hg => hv1 g (.inr (.inr hg))), h.nv, fun g hg e => ?_, h.kv, fun g hg e => ?_⟩
  · rcases (hF1 j hj).1 with e | e
    · exact .inl e
    · exact .inr (by omega)
  · rcases hF2 j hj.1 with e | e
    · exact (hF1 j e).1
    · exact .inr (by omega)
  · rcases hg with hg | hg | hg
    · rcases hF2 g hj.1 with e | e
      · exact hv1 g (.inl hg) e
      · have := (h.row.lt g hg).2; omega
    · exact hlF g hg hj.1
    · rcases hF2 g hj.1 with e | e
      · exact hv1 g (.inr (.inr hg)) e
      · have := (h.rk.lt g hg).2; omega
  · have := (hl.lt g hg).1; have := (h.row.lt g e).2; omega
  · have := (hl.lt g hg).1; have := (h.rk.lt g e).2; omega
/-- the document's wheel was turned, and told something -/
theorem fresh {M' U' : List Fi} {v' k' : Value} (h : Py W F v0 b n L M v T [] l (.slice none 0 0) w) (hF : ∀ k, F k → k < W.heap.size) (kk : Below w.heap.size w w') (hr : w'.ownsRow 0 32 2 v' M'.length (fcL M')) (hf : ∀ g, v'.ownBlock = some g → v.ownBlock = some g ∨ w.heap.size ≤ g) (hk : w'.ownsRow w.heap.size 32 2 k' U'.length (fcL U')) (hkv : ∀ g, k'.ownBlock = some g → v'.ownBlock ≠ some g) (hsz : W.heap.size + 3 ≤ w.heap.size) : Py W F v0 b n L M' v' T U' l k' w' := by
  have h0 := h.below hF kk
  obtain ⟨F', h1, h2, h3⟩ := h.wh
  refine ⟨h0.kept, ⟨F', h1.below kk, fun j hj => ⟨(h2 j hj).1, Nat.lt_of_lt_of_le (h2 j hj).2 kk.size⟩, fun g hg hj => ?_⟩, hr, h0.rl, owns_base hk hsz, fun g hg => ?_, fun g hg e => ?_, hkv, fun g hg e => ?_⟩
  · rcases hg with hg | hg | hg
    · rcases hf g hg with e | e
      · exact h3 g (.inl e) hj
      · have := (h2 g hj).2; omega
    · exact h3 g (.inr (.inl hg)) hj
    · have := (hk.lt g hg).1; have := (h2 g hj).2; omega
  · rcases hf g hg with e | e
    · exact h.nv g e
    · exact .inr (by omega)
  · rcases hf g e with e2 | e2
    · exact h.lv g hg e2
    · have := (h.rl.lt g hg).2; omega
  · have := (hk.lt g e).1; have := (h.rl.lt g hg).2; omega
end Py
/-- the three boxes -/
structure By (w : World) (q : Nat) (A O Z : Array Value) : Prop where
  a : w.heap[q]? = some (.cells A 51)
  o : w.heap[q + 1]? = some (.cells O 54)
  z : w.heap[q + 2]? = some (.cells Z 51)
theorem By.kept {w w' : World} {q : Nat} {A O Z : Array Value} {F : Nat → Prop} (h : By w q A O Z) (k : Kept F w w') (hF : ∀ j, F j → j < q) : By w' q A O Z :=
  ⟨k.at' h.a (fun e => by have := hF _ e; omega), k.at' h.o (fun e => by have := hF _ e; omega), k.at' h.z (fun e => by have := hF _ e; omega)⟩
theorem By.below {w w' : World} {q : Nat} {A O Z : Array Value} (h : By w q A O Z) (k : Below w.heap.size w w') : By w' q A O Z := h.kept (Kept.of_below (F := No) k) (fun j hj => hj.elim)
theorem By.set {w : World} {q : Nat} {a b c : Value} {O Z : Array Value} (h : By w q #[a, b, c] O Z) (y z : Value) : By ((w.setCell ⟨q, 1, none⟩ y).setCell ⟨q, 2, none⟩ z) q #[a, y, z] O Z :=
  ⟨set12' h.a y z, (set12_keptF w y z).at' h.o (by omega), (set12_keptF w y z).at' h.z (by omega)⟩
theorem by_new (W : World) (A O Z : Array Value) : By (((W.alloc (.cells A 51)).alloc (.cells O 54)).alloc (.cells Z 51)) W.heap.size A O Z := by
  obtain ⟨h1, h2⟩ := heap_two W (.cells A 51) (.cells O 54)
  have h3 := heap_last ((W.alloc (.cells A 51)).alloc (.cells O 54)) (.cells Z 51)
  rw [World.size_alloc, World.size_alloc] at h3
  exact ⟨(Below.heap_alloc _ _ _ (heap_lt h1)).trans h1, (Below.heap_alloc _ _ _ (heap_lt h2)).trans h2, h3⟩
theorem py_new {W : World} {F : Nat → Prop} {b n m : Nat} {L : List Fi} {v : Value} (hW : Wh W F b n L) (hF : ∀ k, F k → k < W.heap.size) (hv : W.ownsRow 0 32 2 v m (fcL L)) (hvF : ∀ g, v.ownBlock = some g → ¬ F g) (A O Z : Array Value) : Py W F v b n L L v [] [] (.slice none 0 0) (.slice none 0 0) (((W.alloc (.cells A 51)).alloc (.cells O 54)).alloc (.cells Z 51)) := by
  have hB1 : Below W.heap.size W (((W.alloc (.cells A 51)).alloc (.cells O 54)).alloc (.cells Z 51)) := (((Below.refl _ W).alloc (Nat.le_refl _) _).alloc (by simp) _).alloc (by simp; omega) _
  have hl := owns_len2 hv
  refine ⟨Kept.of_below hB1, ⟨F, hW.below hB1, fun j hj => ⟨.inl hj, Nat.lt_of_lt_of_le (hF j hj) hB1.size⟩, fun g hg => ?_⟩, by rw [hl]; exact (Kept.of_below (F := No) hB1).owns hv (fun _ _ h => h), World.ownsRow_nil _ _ _ _, World.ownsRow_nil _ _ _ _, fun g hg => .inl ⟨hg, (hv.lt g hg).2⟩, (fun g e => by cases e), (fun g e => by cases e), (fun g e => by cases e)⟩
  rcases hg with hg | hg | hg
  · exact hvF g hg
  · cases hg
  · cases hg
theorem Wh.few' {w : World} {F : Nat → Prop} {b n : Nat} {L : List Fi} (h : Wh w F b n L) : L.length ≤ 65536 := by
  obtain ⟨hn, mb, c, M, S, V, h1, h2, h3, h4⟩ := h
  have := (h3.bound h2).2
  rw [h3.cnt] at this
  exact this
/-- what 'play' answers -/
def Pans (W : World) (F : Nat → Prop) (v : Value) (b : Nat) (ex : Ending) (w' : World) : Prop :=
  ∃ n' L' v' T l k, ex = .returned (.tuple #[pv b n' v', l, k, .bool true]) ∧ Py W F v b n' L' L' v' T T l k w' ∧ (∀ y, y ∈ T → I6 y.t ∧ I6 y.i) ∧ T.length ≤ 65536
theorem rarm_any {W : World} {N n : Nat} {v : Value} {L : List Fi} (f : Fi) (hv : W.ownsRow 0 32 2 v n (fcL L)) (hn : n ≤ 1000000) : Calls Try.prog 29 #[mv N v, .int .i64 f.i, .int .i64 f.t] W fun ex w' => ∃ u, ex = .returned (.tuple #[mv N u, .int .i64 (if Ok N f then 0 else 2)]) ∧ w'.ownsRow 0 32 2 u (armF N L f).length (fcL (armF N L f)) ∧ (∀ g, u.ownBlock = some g → v.ownBlock = some g ∨ W.heap.size ≤ g) ∧ Below W.heap.size W w' := by
  unfold armF
  by_cases e : Ok N f
  · rw [if_pos e, if_pos e]
    refine (rarm_yes f e hv hn).mono ?_
    rintro ex w' ⟨u, rfl, h1, h2⟩
    exact ⟨u, rfl, owns_base h1 (Nat.zero_le _), fun g hg => .inr (h1.lt g hg).1, h2⟩
  · rw [if_neg e, if_neg e]
    refine (rarm_no f e hv).mono ?_
    rintro ex w' ⟨rfl, h2⟩
    have hl := owns_len2 hv
    exact ⟨v, rfl, by rw [hl]; exact (Kept.of_below (F := No) h2).owns hv (fun _ _ h => h), fun g hg => .inl hg, h2⟩
end Go.Proofs.Ytdojmmnojpeklaa
