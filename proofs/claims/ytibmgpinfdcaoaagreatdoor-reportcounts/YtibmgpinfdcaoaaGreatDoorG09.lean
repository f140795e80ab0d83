/-
  One text: ZCel, ZSo.
-/
import Derived.Test.YtibmgpinfdcaoaaGreatDoorG08
import Derived.RangeFuncRecord
namespace Go.Proofs.YtibmgpinfdcaoaaGreatDoor
open Go.RowKit Plain
set_option linter.unusedVariables false
set_option linter.unusedSimpArgs false
set_option maxRecDepth 100000

/-- block g holds m numbers, none of them frozen -/
structure Cw (w : World) (g m : Nat) (f : Nat → Int) : Prop where
  at' : ∀ i, i < m → w.cell? ⟨g, i, none⟩ = some (.int .i64 (f i))
  fz : ∀ i, w.frozen? ⟨g, i, none⟩ = false
  blk : g < w.heap.size
theorem Cw.kept {w w' : World} {G : Nat → Prop} {g m : Nat} {f : Nat → Int} (h : Cw w g m f) (k : Kept G w w') (hg : ¬ G g) : Cw w' g m f :=
  ⟨fun i hi => k.cell (h.at' i hi) hg, fun i => by
    have := h.fz i
    simp only [World.frozen?, k.block g h.blk hg] at this ⊢
    exact this, Nat.lt_of_lt_of_le h.blk k.size⟩
theorem Cw.keep {w w' : World} {g m : Nat} {f : Nat → Int} (h : Cw w g m f) (k : Kept No w w') : Cw w' g m f := h.kept k (fun h => h)
def upI (f : Nat → Int) (k : Nat) (v : Int) : Nat → Int := fun i => if i = k then v else f i
theorem upI_same (f : Nat → Int) (k : Nat) (v : Int) : upI f k v k = v := if_pos rfl
theorem upI_oth (f : Nat → Int) {k i : Nat} (v : Int) (h : i ≠ k) : upI f k v i = f i := if_neg h
theorem cell_setc {w : World} {g i j : Nat} {v u : Value} (h : w.cell? ⟨g, i, none⟩ = some u) : (w.setCell ⟨g, j, none⟩ v).cell? ⟨g, i, none⟩ = some (if i = j then v else u) := by
  by_cases e : i = j
  · subst e
    rw [if_pos rfl]
    exact World.cell?_setCell_same' _ _ _ (by rw [h]; rfl)
  · rw [if_neg e]
    have hne : (⟨g, j, none⟩ : Addr) ≠ ⟨g, i, none⟩ := fun h' => e (by injection h' with _ h1 _; exact h1.symm)
    rw [World.cell?_setCell_other _ _ _ _ hne]
    exact h
theorem frozen_setc {w : World} {g : Nat} {p : Addr} {v : Value} (h : ∀ i, w.frozen? ⟨g, i, none⟩ = false) : ∀ i, (w.setCell p v).frozen? ⟨g, i, none⟩ = false := fun i => by
  rw [World.frozen?_setCell]; exact h i
theorem Cw.set {w : World} {g m : Nat} {f : Nat → Int} (h : Cw w g m f) (k : Nat) (v : Int) : Cw (w.setCell ⟨g, k, none⟩ (.int .i64 v)) g m (upI f k v) :=
  ⟨fun i hi => by
    rw [cell_setc (h.at' i hi)]
    by_cases e : i = k
    · rw [if_pos e, upI, if_pos e]
    · rw [if_neg e, upI, if_neg e], frozen_setc h.fz, by have := h.blk; simpa using this⟩
theorem Cw.congr' {w : World} {g m : Nat} {f f' : Nat → Int} (h : Cw w g m f) (e : ∀ j, j < m → f j = f' j) : Cw w g m f' := ⟨fun i hi => by rw [← e i hi]; exact h.at' i hi, h.fz, h.blk⟩
theorem kept_set {w : World} {g k : Nat} {v : Value} : Kept (fun b => b = g) w (w.setCell ⟨g, k, none⟩ v) := Kept.setCell (Kept.refl (fun b => b = g) w) (p := ⟨g, k, none⟩) (Or.inl rfl) _
theorem make_row (w : World) (n : Nat) (hn : n ≤ 1000) : ∃ w1, (Instr.makeSlice 25 (.int .i64 n) (.int .i64 n)).run Tryz.prog w = .ok (.slice (some ⟨w.heap.size, 0, none⟩) n n) w1 ∧ Cw w1 w.heap.size n (fun _ => 0) ∧ Kept No w w1 ∧ w1.heap.size = w.heap.size + 1 := by
  obtain ⟨i0, hi, hz0, hz1, hz2⟩ := info_parts Tryz.infoI
  have hr := run_make (P := Tryz.prog) w 25 3 i0 _ Tryz.underlying25 hi hz0 .i64 .i64 n n (by omega) (Int.le_refl _) (by rw [hz2]; omega) (by omega)
  simp only [Int.toNat_natCast] at hr
  rw [hz1, Nat.mul_one] at hr
  refine ⟨_, hr, ⟨fun i hi => ?_, fun i => ?_, by simp⟩, (Kept.refl No w).alloc _, by simp⟩
  · have hb := World.alloc_heap_new w (.cells (madeCells (Value.int .i64 0).cells n) 3)
    have e : (madeCells (Value.int .i64 0).cells n)[i]? = some (.int .i64 0) := by
      rw [show (Value.int .i64 0).cells = #[Value.int .i64 0] from rfl, ← Array.getElem?_toList, toList_madeCells_one, List.getElem?_replicate, if_pos hi]
    simp only [World.cell?]
    rw [hb]
    simpa using e
  · have hb := World.alloc_heap_new w (.cells (madeCells (Value.int .i64 0).cells n) 3)
    simp only [World.frozen?]
    rw [hb]
    rfl
end Go.Proofs.YtibmgpinfdcaoaaGreatDoor

namespace Go.Proofs.YtibmgpinfdcaoaaGreatDoor
set_option linter.unusedVariables false

/-- the sum of the first n -/
def sm (f : Nat → Int) : Nat → Int
  | 0 => 0
  | n + 1 => sm f n + f n
theorem sm_congr {f g : Nat → Int} : ∀ n, (∀ i, i < n → f i = g i) → sm f n = sm g n
  | 0, _ => rfl
  | n + 1, h => by rw [sm, sm, sm_congr n (fun i hi => h i (by omega)), h n (by omega)]
theorem sm_upd (f : Nat → Int) (k : Nat) (v : Int) : ∀ n, sm (fun i => if i = k then v else f i) n = sm f n + (if k < n then v - f k else 0)
  | 0 => by simp [sm]
  | n + 1 => by
    rw [sm, sm, sm_upd f k v n]
    by_cases h : n = k
    · subst h
      rw [if_pos rfl, if_neg (Nat.lt_irrefl _), if_pos (Nat.lt_succ_self _)]; omega
    · rw [if_neg h]
      by_cases h2 : k < n
      · rw [if_pos h2, if_pos (by omega)]; omega
      · rw [if_neg h2, if_neg (by omega)]; omega
structure Pm (a b : Nat) (D D' : Nat → Nat) : Prop where
  oth : ∀ t, (t < a ∨ b ≤ t) → D' t = D t
  mem : ∀ t, a ≤ t → t < b → ∃ s, a ≤ s ∧ s < b ∧ D' t = D s
  inj : (∀ s t, a ≤ s → s < b → a ≤ t → t < b → D s = D t → s = t) → ∀ s t, a ≤ s → s < b → a ≤ t → t < b → D' s = D' t → s = t
  sum : ∀ (f : Nat → Int) n, b ≤ n → sm (fun t => f (D' t)) n = sm (fun t => f (D t)) n
theorem Pm.refl (a b : Nat) (D : Nat → Nat) : Pm a b D D := ⟨fun _ _ => rfl, fun t h1 h2 => ⟨t, h1, h2, rfl⟩, fun h => h, fun _ _ _ => rfl⟩
theorem Pm.trans {a b : Nat} {D D' D'' : Nat → Nat} (h : Pm a b D D') (k : Pm a b D' D'') : Pm a b D D'' :=
  ⟨fun t ht => (k.oth t ht).trans (h.oth t ht), fun t h1 h2 => by
    obtain ⟨s, s1, s2, e⟩ := k.mem t h1 h2
    obtain ⟨r, r1, r2, e2⟩ := h.mem s s1 s2
    exact ⟨r, r1, r2, e.trans e2⟩, fun hi => k.inj (h.inj hi), fun f n hn => (k.sum f n hn).trans (h.sum f n hn)⟩
/-- in a greater stretch -/
theorem Pm.wide {a b a' b' : Nat} {D D' : Nat → Nat} (h : Pm a b D D') (h1 : a' ≤ a) (h2 : b ≤ b') : Pm a' b' D D' := by
  refine ⟨fun t ht => h.oth t (by omega), fun t t1 t2 => ?_, fun hi s t s1 s2 t1 t2 e => ?_, fun f n hn => h.sum f n (by omega)⟩
  · by_cases hc : a ≤ t ∧ t < b
    · obtain ⟨s, s1, s2, e⟩ := h.mem t hc.1 hc.2
      exact ⟨s, by omega, by omega, e⟩
    · exact ⟨t, t1, t2, h.oth t (by omega)⟩
  · by_cases hs : a ≤ s ∧ s < b
    · by_cases ht : a ≤ t ∧ t < b
      · exact h.inj (fun s t s1 s2 t1 t2 e => hi s t (by omega) (by omega) (by omega) (by omega) e) s t hs.1 hs.2 ht.1 ht.2 e
      · obtain ⟨r, r1, r2, e2⟩ := h.mem s hs.1 hs.2
        rw [e2, h.oth t (by omega)] at e
        have := hi r t (by omega) (by omega) t1 t2 e
        omega
    · by_cases ht : a ≤ t ∧ t < b
      · obtain ⟨r, r1, r2, e2⟩ := h.mem t ht.1 ht.2
        rw [e2, h.oth s (by omega)] at e
        have := hi s r s1 s2 (by omega) (by omega) e
        omega
      · rw [h.oth s (by omega), h.oth t (by omega)] at e
        exact hi s t s1 s2 t1 t2 e
def swD (D : Nat → Nat) (i j : Nat) : Nat → Nat := fun t => if t = i then D j else if t = j then D i else D t
theorem Pm.swap {a b i j : Nat} {D : Nat → Nat} (i1 : a ≤ i) (i2 : i < b) (j1 : a ≤ j) (j2 : j < b) : Pm a b D (swD D i j) := by
  refine ⟨fun t ht => ?_, fun t t1 t2 => ?_, fun hi s t s1 s2 t1 t2 e => ?_, fun f n hn => ?_⟩
  rotate_left 3
  · have e1 : (fun t => f (swD D i j t)) = fun t => if t = i then f (D j) else (fun t => if t = j then f (D i) else f (D t)) t := by
      funext t
      unfold swD
      by_cases h1 : t = i
      · rw [if_pos h1, if_pos h1]
      · rw [if_neg h1, if_neg h1]
        dsimp only
        by_cases h2 : t = j
        · rw [if_pos h2, if_pos h2]
        · rw [if_neg h2, if_neg h2]
    rw [e1, sm_upd, sm_upd, if_pos (by omega), if_pos (by omega)]
    by_cases h : i = j
    · subst h; rw [if_pos rfl]; omega
    · rw [if_neg h]; omega
  · unfold swD; rw [if_neg (by omega), if_neg (by omega)]
  · unfold swD
    by_cases h1 : t = i
    · rw [if_pos h1]; exact ⟨j, j1, j2, rfl⟩
    · rw [if_neg h1]
      by_cases h2 : t = j
      · rw [if_pos h2]; exact ⟨i, i1, i2, rfl⟩
      · rw [if_neg h2]; exact ⟨t, t1, t2, rfl⟩
  · have hx : ∀ x y, a ≤ x → x < b → a ≤ y → y < b → D x = D y → x = y := hi
    unfold swD at e
    by_cases h1 : s = i
    · rw [if_pos h1] at e
      by_cases h3 : t = i
      · omega
      · rw [if_neg h3] at e
        by_cases h4 : t = j
        · rw [if_pos h4] at e; have := hx j i j1 j2 i1 i2 e; omega
        · rw [if_neg h4] at e; have := hx j t j1 j2 t1 t2 e; omega
    · rw [if_neg h1] at e
      by_cases h2 : s = j
      · rw [if_pos h2] at e
        by_cases h3 : t = i
        · rw [if_pos h3] at e; have := hx i j i1 i2 j1 j2 e; omega
        · rw [if_neg h3] at e
          by_cases h4 : t = j
          · omega
          · rw [if_neg h4] at e; have := hx i t i1 i2 t1 t2 e; omega
      · rw [if_neg h2] at e
        by_cases h3 : t = i
        · rw [if_pos h3] at e; have := hx s j s1 s2 j1 j2 e; omega
        · rw [if_neg h3] at e
          by_cases h4 : t = j
          · rw [if_pos h4] at e; have := hx s i s1 s2 i1 i2 e; omega
          · rw [if_neg h4] at e; exact hx s t s1 s2 t1 t2 e
/-- the greater remainder first; of equal ones the lesser place -/
def ltK (K : Nat → Int) (x y : Nat) : Prop := K y < K x ∨ (K x = K y ∧ x < y)
theorem ltK.trans {K : Nat → Int} {x y z : Nat} (h : ltK K x y) (k : ltK K y z) : ltK K x z := by
  unfold ltK at *
  omega
theorem ltK.irr {K : Nat → Int} {x : Nat} (h : ltK K x x) : False := by unfold ltK at h; omega
/-- a stretch in order -/
def So (K : Nat → Int) (a b : Nat) (D : Nat → Nat) : Prop := ∀ s t, a ≤ s → s < t → t < b → ltK K (D s) (D t)
/-- a stretch of rising places -/
def Up (a b : Nat) (D : Nat → Nat) : Prop := ∀ s t, a ≤ s → s < t → t < b → D s < D t

/-- the inner loop of an insertion: the one that is set in stands at j -/
structure Ins1 (K : Nat → Int) (a i j : Nat) (D D' : Nat → Nat) : Prop where
  ja : a ≤ j
  ji : j ≤ i
  pm : Pm a (i + 1) D D'
  so : ∀ s t, a ≤ s → s < t → t ≤ i → s ≠ j → t ≠ j → ltK K (D' s) (D' t)
  up : ∀ t, j < t → t ≤ i → ltK K (D' j) (D' t)
  lt : ∀ t, a ≤ t → t ≤ i → t ≠ j → D' t < D' j
theorem Ins1.start {K : Nat → Int} {a i : Nat} {D : Nat → Nat} (h : So K a i D) (hl : ∀ t, a ≤ t → t < i → D t < D i) (hi : a ≤ i) : Ins1 K a i i D D :=
  ⟨hi, Nat.le_refl _, Pm.refl _ _ _, fun s t s1 st t1 hs ht => h s t s1 st (by omega), fun t h1 h2 => by omega, fun t h1 h2 h3 => hl t h1 (by omega)⟩
theorem Ins1.step {K : Nat → Int} {a i j : Nat} {D D' : Nat → Nat} (h : Ins1 K a i (j + 1) D D') (hj : a ≤ j) (hk : K (D' j) < K (D' (j + 1))) : Ins1 K a i j D (swD D' (j + 1) j) := by
  have hji := h.ji
  have e0 : swD D' (j + 1) j j = D' (j + 1) := by unfold swD; rw [if_neg (by omega), if_pos rfl]
  have e1 : swD D' (j + 1) j (j + 1) = D' j := by unfold swD; rw [if_pos rfl]
  have e2 : ∀ t, t ≠ j → t ≠ j + 1 → swD D' (j + 1) j t = D' t := fun t h1 h2 => by unfold swD; rw [if_neg h2, if_neg h1]
  refine ⟨hj, by omega, h.pm.trans (Pm.swap (by omega) (by omega) (by omega) (by omega)), fun s t s1 st t1 hs ht => ?_, fun t h1 h2 => ?_, fun t h1 h2 h3 => ?_⟩
  · by_cases q1 : s = j + 1
    · subst q1
      rw [e1, e2 t (by omega) (by omega)]
      exact h.so j t hj (by omega) t1 (by omega) (by omega)
    · rw [e2 s hs q1]
      by_cases q2 : t = j + 1
      · subst q2
        rw [e1]
        exact h.so s j s1 (by omega) (by omega) (by omega) (by omega)
      · rw [e2 t ht q2]
        exact h.so s t s1 st t1 (by omega) (by omega)
  · rw [e0]
    by_cases q : t = j + 1
    · subst q; rw [e1]; exact .inl hk
    · rw [e2 t (by omega) q]; exact h.up t (by omega) h2
  · rw [e0]
    by_cases q : t = j + 1
    · subst q; rw [e1]; exact h.lt j hj (by omega) (by omega)
    · rw [e2 t h3 q]; exact h.lt t h1 h2 (by omega)
theorem Ins1.done {K : Nat → Int} {a i j : Nat} {D D' : Nat → Nat} (h : Ins1 K a i j D D') (hk : j = a ∨ (a < j ∧ ¬ K (D' (j - 1)) < K (D' j))) : So K a (i + 1) D' := by
  intro s t s1 st t1
  have hji := h.ji
  have hja := h.ja
  by_cases q1 : s = j
  · subst q1; exact h.up t st (by omega)
  · by_cases q2 : t = j
    · subst q2
      rcases hk with hk | ⟨hk1, hk2⟩
      · omega
      · have hl := h.lt (t - 1) (by omega) (by omega) (by omega)
        have hb : ltK K (D' (t - 1)) (D' t) := by unfold ltK; omega
        by_cases q3 : s = t - 1
        · rw [q3]; exact hb
        · exact (h.so s (t - 1) s1 (by omega) (by omega) (by omega) (by omega)).trans hb
    · exact h.so s t s1 st (by omega) q1 q2
end Go.Proofs.YtibmgpinfdcaoaaGreatDoor
