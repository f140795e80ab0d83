/-
  One text: KHl, KHe, KHd.
-/
import Derived.Test.YtibmgpinfdcaoaaGreatDoorHKPd
import Derived.Test.YtibmgpinfdcaoaaGreatDoorHKLt
namespace Go.Proofs.YtibmgpinfdcaoaaGreatDoor
open Go.RowKit Plain
set_option linter.unusedVariables false
set_option linter.unusedSimpArgs false
set_option maxRecDepth 100000

/-- numbers in a block of their own, if there are any -/
def Rv (w : World) (lo : Nat) (a : Option Addr) (n : Nat) (f : Nat → Int) : Prop :=
  0 < n → ∃ g, a = some ⟨g, 0, none⟩ ∧ lo ≤ g ∧ g < w.heap.size ∧ (∀ i, i < n → w.cell? ⟨g, i, none⟩ = some (.int .i64 (f i))) ∧ ∀ k, w.frozen? ⟨g, k, none⟩ = false
theorem Rv.of {w : World} {lo : Nat} {a : Option Addr} {n : Nat} {f : Nat → Int} (h : Rw9 w lo a n f) : Rv w lo a n f := fun hn => by
  rcases h.sh with ⟨_, h0⟩ | h1
  · omega
  · exact h1
theorem Rv.kept {w w' : World} {lo : Nat} {a : Option Addr} {n : Nat} {f : Nat → Int} {G : Nat → Prop} (h : Rv w lo a n f) (k : Kept G w w') (hd : 0 < n → ∀ b, Bk9 a b → ¬ G b) : Rv w' lo a n f := fun hn => by
  obtain ⟨g, e, h1, h2, h3, h4⟩ := h hn
  have hg := hd hn g e
  refine ⟨g, e, h1, Nat.lt_of_lt_of_le h2 k.size, fun i hi => k.cell (h3 i hi) hg, fun j => ?_⟩
  have eb := k.block g h2 hg
  have := h4 j
  simp only [World.frozen?] at this ⊢
  rw [eb]; exact this
theorem Rv.keep {w w' : World} {lo : Nat} {a : Option Addr} {n : Nat} {f : Nat → Int} (h : Rv w lo a n f) (k : Kept No w w') : Rv w' lo a n f := h.kept k (fun _ _ _ h => h)
theorem Rv.low {w : World} {lo lo' : Nat} {a : Option Addr} {n : Nat} {f : Nat → Int} (h : Rv w lo a n f) (hl : lo' ≤ lo) : Rv w lo' a n f := fun hn => by
  obtain ⟨g, e, h1, r⟩ := h hn
  exact ⟨g, e, by omega, r⟩
theorem Rv.nm {w : World} {lo c : Nat} {a : Option Addr} {n : Nat} {f : Nat → Int} (h : Rv w lo a n f) (hc : n ≤ c) (hm : c ≤ 9223372036854775807) : Nm w (fun _ => True) a n c f :=
  ⟨hc, hm, fun i hi => by obtain ⟨g, e, h1, h2, h3, _⟩ := h (by omega); exact ⟨g, e, trivial, h3 i hi⟩⟩

/-- m lists of numbers, apart: S tells where each lies and its room -/
structure Sb (w : World) (B hi m : Nat) (S : Nat → Option Addr × Nat) (nn : Nat → Nat) (ff : Nat → Nat → Int) : Prop where
  rv : ∀ i, i < m → Rv w B (S i).1 (nn i) (ff i)
  dis : ∀ i j, i < m → j < m → i ≠ j → 0 < nn i → ∀ b, Bk9 (S i).1 b → 0 < nn j → ¬ Bk9 (S j).1 b
  cap : ∀ i, i < m → nn i ≤ (S i).2 ∧ (S i).2 ≤ 9223372036854775807
  up : ∀ i, i < m → 0 < nn i → ∀ b, Bk9 (S i).1 b → b < hi
theorem Sb.keep {w w' : World} {B hi m : Nat} {S : Nat → Option Addr × Nat} {nn : Nat → Nat} {ff : Nat → Nat → Int} (h : Sb w B hi m S nn ff) (k : Kept No w w') : Sb w' B hi m S nn ff := ⟨fun i hi => (h.rv i hi).keep k, h.dis, h.cap, h.up⟩
theorem Sb.kept {w w' : World} {B hi m : Nat} {S : Nat → Option Addr × Nat} {nn : Nat → Nat} {ff : Nat → Nat → Int} {G : Nat → Prop} (h : Sb w B hi m S nn ff) (k : Kept G w w') (hd : ∀ i, i < m → 0 < nn i → ∀ b, Bk9 (S i).1 b → ¬ G b) : Sb w' B hi m S nn ff :=
  ⟨fun i hi => (h.rv i hi).kept k (hd i hi), h.dis, h.cap, h.up⟩
theorem Sb.ext {w : World} {B hi m : Nat} {S : Nat → Option Addr × Nat} {nn : Nat → Nat} {ff gg : Nat → Nat → Int} (h : Sb w B hi m S nn ff) (he : ∀ i, i < m → ∀ q, q < nn i → ff i q = gg i q) : Sb w B hi m S nn gg :=
  ⟨fun i hi hn => by obtain ⟨g', e', h1, h2, h3, h4⟩ := h.rv i hi hn; exact ⟨g', e', h1, h2, fun q hq => by rw [h3 q hq, he i hi q hq], h4⟩, h.dis, h.cap, h.up⟩
theorem sb_none (w : World) (B hi : Nat) (S : Nat → Option Addr × Nat) (nn : Nat → Nat) (ff : Nat → Nat → Int) : Sb w B hi 0 S nn ff :=
  ⟨fun i hi => by omega, fun i j hi => by omega, fun i hi => by omega, fun i hi => by omega⟩
def upS (S : Nat → Option Addr × Nat) (m : Nat) (p : Option Addr × Nat) : Nat → Option Addr × Nat := fun i => if i = m then p else S i
theorem upS_same (S : Nat → Option Addr × Nat) (m : Nat) (p : Option Addr × Nat) : upS S m p m = p := if_pos rfl
theorem upS_oth (S : Nat → Option Addr × Nat) {m i : Nat} (p : Option Addr × Nat) (h : i ≠ m) : upS S m p i = S i := if_neg h
/-- one list more, above all that are there -/
theorem Sb.add {w : World} {B hi hi2 m c : Nat} {S : Nat → Option Addr × Nat} {nn : Nat → Nat} {ff : Nat → Nat → Int} {a : Option Addr} {n : Nat} {f : Nat → Int} (h : Sb w B hi m S nn ff) (hB : B ≤ hi) (h2 : hi ≤ hi2) (r : Rv w hi a n f) (hn : nn m = n) (hf : ff m = f) (hc : n ≤ c ∧ c ≤ 9223372036854775807) (hu : ∀ b, Bk9 a b → b < hi2) : Sb w B hi2 (m + 1) (upS S m (a, c)) nn ff := by
  have lo0 : 0 < n → ∀ b, Bk9 a b → hi ≤ b := fun hn b hb => by
    obtain ⟨g, e, h1, _⟩ := r hn
    rw [hb] at e; injection e with e; injection e with e _ _; rw [e]; exact h1
  subst hn hf
  refine ⟨fun i hi' => ?_, fun i j hi' hj hne => ?_, fun i hi' => ?_, fun i hi' => ?_⟩
  · by_cases e : i = m
    · rw [e, upS_same]; exact r.low hB
    · rw [upS_oth _ _ e]; exact h.rv i (by omega)
  · by_cases e : i = m
    · have e2 : j ≠ m := by omega
      rw [e, upS_same, upS_oth _ _ e2]
      intro hn b hb hn2 hb2
      have := lo0 hn b hb
      have := h.up j (by omega) hn2 b hb2
      omega
    · rw [upS_oth _ _ e]
      by_cases e2 : j = m
      · rw [e2, upS_same]
        intro hn b hb hn2 hb2
        have := lo0 hn2 b hb2
        have := h.up i (by omega) hn b hb
        omega
      · rw [upS_oth _ _ e2]; exact h.dis i j (by omega) (by omega) hne
  · by_cases e : i = m
    · rw [e, upS_same]; exact hc
    · rw [upS_oth _ _ e]; exact h.cap i (by omega)
  · by_cases e : i = m
    · rw [e, upS_same]; intro _ b hb; exact hu b hb
    · rw [upS_oth _ _ e]; intro hn b hb; have := h.up i (by omega) hn b hb; omega
/-- a number written into list i -/
theorem Sb.set {w : World} {B hi m : Nat} {S : Nat → Option Addr × Nat} {nn : Nat → Nat} {ff : Nat → Nat → Int} (h : Sb w B hi m S nn ff) {i k g : Nat} (hi' : i < m) (hk : k < nn i) (hA : (S i).1 = some ⟨g, 0, none⟩) (x : Int) : Sb (w.setCell ⟨g, k, none⟩ (.int .i64 x)) B hi m S nn (fun j q => if j = i ∧ q = k then x else ff j q) := by
  have ks : Kept (fun b => b = g) w (w.setCell ⟨g, k, none⟩ (.int .i64 x)) := Kept.setCell (F := fun b => b = g) (p := ⟨g, k, none⟩) (Kept.refl _ w) (.inl rfl) _
  refine ⟨fun j hj => ?_, h.dis, h.cap, h.up⟩
  by_cases e : j = i
  · subst e
    intro hn
    obtain ⟨g', e', h1, h2, h3, h4⟩ := h.rv j hj hn
    rw [hA] at e'
    injection e' with e'; injection e' with e' _ _; subst e'
    refine ⟨g, hA, h1, by simpa [World.setCell] using h2, fun q hq => ?_, fun q => by rw [World.frozen?_setCell]; exact h4 q⟩
    rw [cell_set (h3 q hq)]
    by_cases e2 : q = k
    · simp [e2]
    · simp [e2]
  · have := (h.rv j hj).kept ks (fun hn b hb e2 => h.dis i j hi' hj (Ne.symm e) (by omega) g hA hn (by rw [← e2]; exact hb))
    intro hn
    obtain ⟨g', e', h1, h2, h3, h4⟩ := this hn
    exact ⟨g', e', h1, h2, fun q hq => by rw [h3 q hq]; simp [e], h4⟩

def lsC (S : Nat → Option Addr × Nat) (nn : Nat → Nat) (m : Nat) : List Value := (List.range m).map (fun i => .slice (S i).1 (nn i) (S i).2)
theorem lsC_len (S : Nat → Option Addr × Nat) (nn : Nat → Nat) (m : Nat) : (lsC S nn m).length = m := by simp [lsC]
theorem lsC_get (S : Nat → Option Addr × Nat) (nn : Nat → Nat) {m i : Nat} (h : i < m) : (lsC S nn m)[i]? = some (.slice (S i).1 (nn i) (S i).2) := by simp [lsC, h]
theorem lsC_up (S : Nat → Option Addr × Nat) (nn : Nat → Nat) (m : Nat) (a : Option Addr) (c n : Nat) (hn : nn m = n) : lsC (upS S m (a, c)) nn (m + 1) = lsC S nn m ++ [.slice a n c] := by
  have e : lsC (upS S m (a, c)) nn m = lsC S nn m := by
    unfold lsC
    apply List.map_congr_left
    intro i hi
    rw [List.mem_range] at hi
    rw [upS_oth _ _ (by omega)]
  rw [← e]
  subst hn
  unfold lsC
  rw [List.range_succ]
  simp [upS_same]
/-- a row of slices has no block with numbers in it -/
theorem lc_ne {w : World} {B m n lo : Nat} {v : Value} {S : Nat → Option Addr × Nat} {nn : Nat → Nat} {a : Option Addr} {f : Nat → Int} (h : w.ownsRow B 25 1 v m (lsC S nn m)) (hm : v.ownBlock = none ∨ 0 < m) (hr : Rv w lo a n f) (hn : 0 < n) : ∀ b, Bk9 a b → v.ownBlock ≠ some b := fun b hb e => by
  obtain ⟨g, e', _, _, h3, _⟩ := hr hn
  rw [hb] at e'
  injection e' with e'; injection e' with e' _ _; subst e'
  rcases owns_cells h with ⟨rfl, _⟩ | ⟨g2, cap, rfl, _, _, _, _, h6, _⟩
  · cases e
  · injection e with e
    subst e
    rcases hm with hm | hm
    · cases hm
    · have c1 := h6 0 _ (lsC_get S nn hm)
      rw [h3 0 hn] at c1
      cases c1
/-- the row and its lists -/
structure Hd (w : World) (B hi m : Nat) (v : Value) (S : Nat → Option Addr × Nat) (nn : Nat → Nat) (ff : Nat → Nat → Int) : Prop where
  row : w.ownsRow B 25 1 v m (lsC S nn m)
  pos : v.ownBlock = none ∨ 0 < m
  sb : Sb w B hi m S nn ff
theorem Hd.more {w w' : World} {B hi hi2 m : Nat} {v v' : Value} {S S' : Nat → Option Addr × Nat} {nn : Nat → Nat} {ff : Nat → Nat → Int} (h : w.ownsRow B 25 1 v m (lsC S nn m)) (hp : v.ownBlock = none ∨ 0 < m) (hs : Sb w B hi2 (m + 5) S' nn ff) (ho : w'.ownsRow B 25 1 v' (m + 5) (lsC S' nn (m + 5))) (hk : Kept (fun j => v.ownBlock = some j) w w') : Hd w' B hi2 (m + 5) v' S' nn ff :=
  ⟨ho, .inr (by omega), ⟨fun i hi => (hs.rv i hi).kept hk (fun hn => lc_ne h hp (hs.rv i hi) hn), hs.dis, hs.cap, hs.up⟩⟩
/-- the lists, by the cells of the row that holds them -/
structure Ln (w : World) (g B hi m : Nat) (S : Nat → Option Addr × Nat) (nn : Nat → Nat) (ff : Nat → Nat → Int) : Prop where
  cells : ∀ i, i < m → w.cell? ⟨g, i, none⟩ = some (.slice (S i).1 (nn i) (S i).2)
  sb : Sb w B hi m S nn ff
  lt : g < w.heap.size
theorem Ln.ne {w : World} {g B hi m : Nat} {S : Nat → Option Addr × Nat} {nn : Nat → Nat} {ff : Nat → Nat → Int} (h : Ln w g B hi m S nn ff) (hm : 0 < m) {i : Nat} (hi' : i < m) (hn : 0 < nn i) : ¬ Bk9 (S i).1 g := fun e => by
  obtain ⟨g', e', _, _, h3, _⟩ := h.sb.rv i hi' hn
  rw [e] at e'
  injection e' with e'; injection e' with e' _ _; subst e'
  have := h.cells 0 hm
  rw [h3 0 hn] at this
  cases this
theorem Ln.keep {w w' : World} {g B hi m : Nat} {S : Nat → Option Addr × Nat} {nn : Nat → Nat} {ff : Nat → Nat → Int} (h : Ln w g B hi m S nn ff) (k : Kept No w w') : Ln w' g B hi m S nn ff :=
  ⟨fun i hi => k.cell (h.cells i hi) (fun h => h), h.sb.keep k, Nat.lt_of_lt_of_le h.lt k.size⟩
theorem Ln.kept {w w' : World} {g B hi m : Nat} {S : Nat → Option Addr × Nat} {nn : Nat → Nat} {ff : Nat → Nat → Int} {G : Nat → Prop} (h : Ln w g B hi m S nn ff) (k : Kept G w w') (hg : ¬ G g) (hd : ∀ i, i < m → 0 < nn i → ∀ b, Bk9 (S i).1 b → ¬ G b) : Ln w' g B hi m S nn ff :=
  ⟨fun i hi => k.cell (h.cells i hi) hg, h.sb.kept k hd, Nat.lt_of_lt_of_le h.lt k.size⟩
theorem Ln.ext {w : World} {g B hi m : Nat} {S : Nat → Option Addr × Nat} {nn : Nat → Nat} {ff gg : Nat → Nat → Int} (h : Ln w g B hi m S nn ff) (he : ∀ i, i < m → ∀ q, q < nn i → ff i q = gg i q) : Ln w g B hi m S nn gg := ⟨h.cells, h.sb.ext he, h.lt⟩
theorem Ln.set {w : World} {g B hi m : Nat} {S : Nat → Option Addr × Nat} {nn : Nat → Nat} {ff : Nat → Nat → Int} (h : Ln w g B hi m S nn ff) {i k b : Nat} (hi' : i < m) (hk : k < nn i) (hA : (S i).1 = some ⟨b, 0, none⟩) (x : Int) : Ln (w.setCell ⟨b, k, none⟩ (.int .i64 x)) g B hi m S nn (fun j q => if j = i ∧ q = k then x else ff j q) ∧ Kept (fun j => j = b) w (w.setCell ⟨b, k, none⟩ (.int .i64 x)) ∧ B ≤ b ∧ b < hi := by
  have ks : Kept (fun j => j = b) w (w.setCell ⟨b, k, none⟩ (.int .i64 x)) := Kept.setCell (F := fun j => j = b) (p := ⟨b, k, none⟩) (Kept.refl _ w) (.inl rfl) _
  have hne : g ≠ b := fun e => h.ne (by omega) hi' (by omega) (by rw [e]; exact hA)
  obtain ⟨g', e', h1, _⟩ := h.sb.rv i hi' (by omega)
  rw [hA] at e'
  injection e' with e'; injection e' with e' _ _; subst e'
  exact ⟨⟨fun j hj => ks.cell (h.cells j hj) hne, h.sb.set hi' hk hA x, Nat.lt_of_lt_of_le h.lt ks.size⟩, ks, h1, h.sb.up i hi' (by omega) b hA⟩
theorem Hd.ln {w : World} {B hi m : Nat} {v : Value} {S : Nat → Option Addr × Nat} {nn : Nat → Nat} {ff : Nat → Nat → Int} (h : Hd w B hi m v S nn ff) (hm : 0 < m) : ∃ g cap, v = .slice (some ⟨g, 0, none⟩) m cap ∧ m ≤ cap ∧ cap ≤ 9223372036854775807 ∧ B ≤ g ∧ Ln w g B hi m S nn ff := by
  rcases owns_cells h.row with ⟨_, h0⟩ | ⟨g, cap, rfl, hB, hgl, hc1, hc2, hcs, _⟩
  · omega
  · exact ⟨g, cap, rfl, hc1, by unfold maxLen at hc2; omega, hB, ⟨fun i hi => hcs i _ (lsC_get S nn hi), h.sb, hgl⟩⟩
end Go.Proofs.YtibmgpinfdcaoaaGreatDoor

namespace Go.Proofs.YtibmgpinfdcaoaaGreatDoor
open Go.RowKit Plain
set_option linter.unusedVariables false
set_option linter.unusedSimpArgs false
set_option maxRecDepth 100000

theorem Tryz.infoIs : (Tryz.prog.info? 25).map (fun i => (i.zero, i.size, i.bytes)) = some (some (.slice none 0 0), 1, 24) := by kernel_rfl
def nnH (N1 N3 : Nat) (i : Nat) : Nat := if i % 5 = 0 then N1 else if i % 5 = 1 then N3 else if i % 5 = 2 then 1 else 12
def ffH (f1 f3 f5 f6 : Nat → Int) (i : Nat) : Nat → Int := if i % 5 = 0 then f1 else if i % 5 = 1 then f3 else if i % 5 = 2 then (fun _ => 7) else if i % 5 = 3 then f5 else f6
theorem nnH_at (N1 N3 k : Nat) : nnH N1 N3 (5 * k) = N1 ∧ nnH N1 N3 (5 * k + 1) = N3 ∧ nnH N1 N3 (5 * k + 1 + 1) = 1 ∧ nnH N1 N3 (5 * k + 1 + 1 + 1) = 12 ∧ nnH N1 N3 (5 * k + 1 + 1 + 1 + 1) = 12 := by
  unfold nnH
  refine ⟨if_pos (by omega), ?_, ?_, ?_, ?_⟩
  · rw [if_neg (by omega), if_pos (by omega)]
  · rw [if_neg (by omega), if_neg (by omega), if_pos (by omega)]
  · rw [if_neg (by omega), if_neg (by omega), if_neg (by omega)]
  · rw [if_neg (by omega), if_neg (by omega), if_neg (by omega)]
theorem ffH_at (f1 f3 f5 f6 : Nat → Int) (k : Nat) : ffH f1 f3 f5 f6 (5 * k) = f1 ∧ ffH f1 f3 f5 f6 (5 * k + 1) = f3 ∧ ffH f1 f3 f5 f6 (5 * k + 1 + 1) = (fun _ => 7) ∧ ffH f1 f3 f5 f6 (5 * k + 1 + 1 + 1) = f5 ∧ ffH f1 f3 f5 f6 (5 * k + 1 + 1 + 1 + 1) = f6 := by
  unfold ffH
  refine ⟨if_pos (by omega), ?_, ?_, ?_, ?_⟩
  · rw [if_neg (by omega), if_pos (by omega)]
  · rw [if_neg (by omega), if_neg (by omega), if_pos (by omega)]
  · rw [if_neg (by omega), if_neg (by omega), if_neg (by omega), if_pos (by omega)]
  · rw [if_neg (by omega), if_neg (by omega), if_neg (by omega), if_neg (by omega)]
theorem nnH_le {N1 N3 : Nat} (h1 : N1 ≤ 33) (h3 : N3 ≤ 33) (i : Nat) : nnH N1 N3 i ≤ 33 := by
  unfold nnH; split <;> (try split) <;> (try split) <;> omega
theorem rw9_one (w : World) (x : Int) : Rw9 (w.alloc (.cells #[.int .i64 x] 3)) w.heap.size (some ⟨w.heap.size, 0, none⟩) 1 (fun _ => x) := by
  have hb := World.alloc_heap_new w (.cells #[.int .i64 x] 3)
  refine ⟨.inr ⟨w.heap.size, rfl, Nat.le_refl _, by simp, fun i hi => ?_, fun k => ?_⟩, by omega⟩
  · have : i = 0 := by omega
    subst this
    simp only [World.cell?, hb]; rfl
  · simp only [World.frozen?, hb]; rfl
theorem Sb.hi {w : World} {B h1 h2 m : Nat} {S : Nat → Option Addr × Nat} {nn : Nat → Nat} {ff : Nat → Nat → Int} (h : Sb w B h1 m S nn ff) (hl : h1 ≤ h2) : Sb w B h2 m S nn ff := ⟨h.rv, h.dis, h.cap, fun i hi hn b hb => by have := h.up i hi hn b hb; omega⟩
theorem Hd.five {wr wa wb wb' wc wd w10 : World} {B m c0 c1 c2 c3 c4 n0 n1 n2 n3 n4 : Nat} {v v' : Value} {S : Nat → Option Addr × Nat} {nn : Nat → Nat} {ff : Nat → Nat → Int} {a0 a1 a2 a3 a4 : Option Addr} {f0 f1 f2 f3 f4 : Nat → Int}
    (h : Hd wr B wr.heap.size m v S nn ff) (hB : B ≤ wr.heap.size) (k0 : Kept No wr wa) (k1 : Kept No wa wb) (k2 : Kept No wb wb') (k3 : Kept No wb' wc) (k4 : Kept No wc wd)
    (r0 : Rw9 wa wr.heap.size a0 n0 f0) (r1 : Rw9 wb wa.heap.size a1 n1 f1) (r2 : Rw9 wb' wb.heap.size a2 n2 f2) (r3 : Rw9 wc wb'.heap.size a3 n3 f3) (r4 : Rw9 wd wc.heap.size a4 n4 f4)
    (q0 : n0 ≤ c0 ∧ c0 ≤ 9223372036854775807) (q1 : n1 ≤ c1 ∧ c1 ≤ 9223372036854775807) (q2 : n2 ≤ c2 ∧ c2 ≤ 9223372036854775807) (q3 : n3 ≤ c3 ∧ c3 ≤ 9223372036854775807) (q4 : n4 ≤ c4 ∧ c4 ≤ 9223372036854775807)
    (hn : nn m = n0 ∧ nn (m + 1) = n1 ∧ nn (m + 1 + 1) = n2 ∧ nn (m + 1 + 1 + 1) = n3 ∧ nn (m + 1 + 1 + 1 + 1) = n4) (hf : ff m = f0 ∧ ff (m + 1) = f1 ∧ ff (m + 1 + 1) = f2 ∧ ff (m + 1 + 1 + 1) = f3 ∧ ff (m + 1 + 1 + 1 + 1) = f4)
    (ho : w10.ownsRow B 25 1 v' (m + 5) (lsC S nn m ++ [.slice a0 n0 c0, .slice a1 n1 c1, .slice a2 n2 c2, .slice a3 n3 c3, .slice a4 n4 c4])) (hk : Kept (fun j => v.ownBlock = some j) wd w10) :
    ∃ S', Hd w10 B w10.heap.size (m + 5) v' S' nn ff ∧ ((∀ i, i < m → (S i).2 = nn i) → c0 = n0 → c1 = n1 → c2 = n2 → c3 = n3 → c4 = n4 → ∀ i, i < m + 5 → (S' i).2 = nn i) := by
  have k34 := k3.trans k4 (fun _ h => h.elim)
  have k24 := k2.trans k34 (fun _ h => h.elim)
  have k14 := k1.trans k24 (fun _ h => h.elim)
  have k04 := k0.trans k14 (fun _ h => h.elim)
  have s0 := k0.size
  have s1 := k1.size
  have s2 := k2.size
  have s3 := k3.size
  have s4 := k4.size
  have b0 := (h.sb.keep k04).add hB s0 ((Rv.of r0).keep k14) hn.1 hf.1 q0 (fun b hb => (r0.bk hb).2)
  have b1 := b0.add (by omega) s1 ((Rv.of r1).keep k24) hn.2.1 hf.2.1 q1 (fun b hb => (r1.bk hb).2)
  have b2 := b1.add (by omega) s2 ((Rv.of r2).keep k34) hn.2.2.1 hf.2.2.1 q2 (fun b hb => (r2.bk hb).2)
  have b3 := b2.add (by omega) s3 ((Rv.of r3).keep k4) hn.2.2.2.1 hf.2.2.2.1 q3 (fun b hb => (r3.bk hb).2)
  have b4 := b3.add (by omega) s4 (Rv.of r4) hn.2.2.2.2 hf.2.2.2.2 q4 (fun b hb => (r4.bk hb).2)
  have e : lsC S nn m ++ [.slice a0 n0 c0, .slice a1 n1 c1, .slice a2 n2 c2, .slice a3 n3 c3, .slice a4 n4 c4] = lsC (upS (upS (upS (upS (upS S m (a0, c0)) (m + 1) (a1, c1)) (m + 1 + 1) (a2, c2)) (m + 1 + 1 + 1) (a3, c3)) (m + 1 + 1 + 1 + 1) (a4, c4)) nn (m + 1 + 1 + 1 + 1 + 1) := by
    rw [lsC_up _ _ _ _ _ _ hn.2.2.2.2, lsC_up _ _ _ _ _ _ hn.2.2.2.1, lsC_up _ _ _ _ _ _ hn.2.2.1, lsC_up _ _ _ _ _ _ hn.2.1, lsC_up _ _ _ _ _ _ hn.1]
    simp
  rw [e] at ho
  have hrow := k04.owns h.row (fun _ _ h => h)
  have hm := Hd.more (hi := B) hrow h.pos b4 ho hk
  refine ⟨_, ⟨hm.row, hm.pos, hm.sb.hi hk.size⟩, fun hS e0 e1 e2 e3 e4 i hi => ?_⟩
  unfold upS
  by_cases i4 : i = m + 1 + 1 + 1 + 1
  · rw [if_pos i4, i4, hn.2.2.2.2]; exact e4
  · rw [if_neg i4]
    by_cases i3 : i = m + 1 + 1 + 1
    · rw [if_pos i3, i3, hn.2.2.2.1]; exact e3
    · rw [if_neg i3]
      by_cases i2 : i = m + 1 + 1
      · rw [if_pos i2, i2, hn.2.2.1]; exact e2
      · rw [if_neg i2]
        by_cases i1 : i = m + 1
        · rw [if_pos i1, i1, hn.2.1]; exact e1
        · rw [if_neg i1]
          by_cases i0 : i = m
          · rw [if_pos i0, i0, hn.1]; exact e0
          · rw [if_neg i0]; exact hS i (by omega)
theorem cell5_new (w : World) (v0 v1 v2 v3 v4 : Value) (t : TypeId) : ∀ j u, [v0, v1, v2, v3, v4][j]? = some u → (w.alloc (.cells #[v0, v1, v2, v3, v4] t)).cell? (Addr.add ⟨w.heap.size, 0, none⟩ j) = some u := by
  intro j u hj
  have hb := World.alloc_heap_new w (.cells #[v0, v1, v2, v3, v4] t)
  rw [add_none, Nat.zero_add]
  simp only [World.cell?, hb]
  match j, hj with
  | 0, hj => exact hj
  | 1, hj => exact hj
  | 2, hj => exact hj
  | 3, hj => exact hj
  | 4, hj => exact hj
  | j + 5, hj => simp at hj
theorem one5 (p0 p1 p2 p3 p4 : Option Addr) (n0 n1 n2 n3 n4 m0 m1 m2 m3 m4 : Nat) : ∀ y ∈ ([.slice p0 n0 m0, .slice p1 n1 m1, .slice p2 n2 m2, .slice p3 n3 m3, .slice p4 n4 m4] : List Value), y.oneCell' = true := by simp [Value.oneCell']
theorem used_nil (w : World) (hg : Gl w) : Calls Tryz.prog 5 #[.slice none 0 0, .int .i64 0, .int .i64 7] w fun e w' => ∃ ra, e = .returned (.tuple #[.slice ra 1 1, .int .i64 0]) ∧ Rw9 w' w.heap.size ra 1 (fun _ => 7) ∧ Kept No w w' := by
  have hs : Sv w (fun _ => False) none 0 0 [] := ⟨rfl, Nat.le_refl _, by omega, fun _ => rfl, fun i x hx => by cases hx⟩
  have ht : timF [] 0 = none := by decide +kernel
  obtain ⟨e1, e2⟩ := uE_yes (xs := []) (fr := 0) (be := 7) ht (by decide)
  have hu := used_all (xs := []) (a := none) (c := 0) 0 7 w hg hs (fun _ h => h.elim)
  rw [e1, e2] at hu
  refine hu.mono ?_
  rintro e w' ⟨ra, rfl, hr, k⟩
  refine ⟨ra, rfl, hr.ext (fun i hi => ?_), k⟩
  have : i = 0 := by have : i < 0 + 1 := hi; omega
  subst this
  decide +kernel
section
variable {o : Oper} {a : Act} {w : World}
theorem er_ixS (x y : Operand) (ho : o.op = .indexAddr 56 x y) (b n c d : Nat) (hd : d < n) (hn : n ≤ 9223372036854775807) (hx : a.eval x = .slice (some ⟨b, 0, none⟩) n c) (hy : a.eval y = .int .i64 d) : (execOp a.eval o).run Tryz.prog w = .ok (.value (.pointer (some ⟨b, d, none⟩))) w := by
  simp only [execOp, ho, hx, hy]
  simp [go_sem, add_none]
  omega
theorem er_ldSS (x : Operand) (ho : o.op = .load 25 x) (g off : Nat) (v : Value) (hx : a.eval x = .pointer (some ⟨g, off, none⟩)) (hr : w.cell? ⟨g, off, none⟩ = some v) : (execOp a.eval o).run Tryz.prog w = .ok (.value v) w := by
  simp only [execOp, ho, hx]; simp [go_sem, hr]
theorem quiet_same {C : World → Prop} {K : Act → Prop} (x0 x1 : Operand) (ho : o.op = .call { callee := .value (.func 11), args := #[x0, x1], argTypes := #[25, 25] }) (v0 v1 v : Value) (h0 : a.eval x0 = v0) (h1 : a.eval x1 = v1)
    (hc : ∀ w, C w → Calls Tryz.prog 11 #[v0, v1] w fun e w'' => e = .returned v ∧ C w'') (hk : K (a.put o.dst v)) : o.quiet Tryz.prog a C K :=
  quiet_call' (f := 11) (args := #[v0, v1]) (fun w => by subst h0 h1; simp [execOp, ho, go_sem, Act.eval]) hc hk
end
end Go.Proofs.YtibmgpinfdcaoaaGreatDoor

namespace Go.Proofs.YtibmgpinfdcaoaaGreatDoor
open Go.RowKit Plain
set_option linter.unusedVariables false
set_option linter.unusedSimpArgs false
set_option maxRecDepth 100000

set_option maxHeartbeats 32000000 in
theorem held_any {F F' : Nat → Prop} {a ea : Option Addr} {c ec n : Nat} {xs : List Srv} {es : List Evt} (fr be p : Int) (w : World) (hg : Gl w) (h : Sv w F a xs.length c xs) (hF : ∀ k, F k → k < w.heap.size) (he : Es w F' ea n ec es) (hF' : ∀ k, F' k → k < w.heap.size) :
    Calls Tryz.prog 16 #[.slice a xs.length c, .int .i64 fr, .int .i64 be, .slice ea n ec, .int .i64 p] w fun e w' => e = .returned (.bool true) ∧ Kept No w w' := by
  obtain ⟨i0, hi, hz0, hz1, hz2⟩ := info_parts Tryz.infoIs
  have lt : ∀ W, Kept No w W → ∀ {G : Nat → Prop}, (∀ k, G k → k < w.heap.size) → ∀ k, G k → k < W.heap.size := fun W k G hG j e => Nat.lt_of_lt_of_le (hG j e) k.size
  have S1 : Hid (∀ W, Kept No w W → Calls Tryz.prog 6 #[.slice a xs.length c, .int .i64 fr, .int .i64 be] W fun e w' => ∃ ra rc, e = .returned (.tuple #[.slice ra (uN xs fr be) rc, .int .i64 (uE xs fr be)]) ∧ (Nm w' (fun k => W.heap.size ≤ k ∧ k < w'.heap.size) ra (uN xs fr be) rc (uF xs fr be) ∧ Rw9 w' W.heap.size ra (uN xs fr be) (uF xs fr be)) ∧ Kept No W w') := fun W k => refUsed_rw fr be W (h.keep k) (lt W k hF)
  have S2 : Hid (∀ W, Kept No w W → Calls Tryz.prog 8 #[.slice a xs.length c] W fun e w' => ∃ ra rc, e = .returned (.tuple #[.slice ra (sN xs) rc, .int .i64 (sE xs)]) ∧ (Nm w' (fun k => W.heap.size ≤ k ∧ k < w'.heap.size) ra (sN xs) rc (sF xs) ∧ Rw9 w' W.heap.size ra (sN xs) (sF xs)) ∧ Kept No W w') := fun W k => refShares_rw W (h.keep k) (lt W k hF)
  have S3 : Hid (∀ W (p : Int), Kept No w W → Calls Tryz.prog 10 #[.slice ea n ec, .int .i64 p] W fun e w' => ∃ ra rc, e = .returned (.slice ra 12 rc) ∧ (Nm w' (fun k => W.heap.size ≤ k ∧ k < w'.heap.size) ra 12 rc (ctE es p n) ∧ Rw9 w' W.heap.size ra 12 (ctE es p n)) ∧ Kept No W w') := fun W p k => refCounts_rw p W (he.keep k)
  have C1 : Hid (∀ W, Kept No w W → Calls Tryz.prog 5 #[.slice a xs.length c, .int .i64 fr, .int .i64 be] W fun e w' => ∃ ra, e = .returned (.tuple #[.slice ra (uN xs fr be) (uN xs fr be), .int .i64 (uE xs fr be)]) ∧ Rw9 w' W.heap.size ra (uN xs fr be) (uF xs fr be) ∧ Kept No W w') := fun W k => used_all fr be W (hg.kept k) (h.keep k) (lt W k hF)
  have C2 : Hid (∀ W, Kept No w W → Calls Tryz.prog 7 #[.slice a xs.length c] W fun e w' => ∃ ra, e = .returned (.tuple #[.slice ra (sN xs) (sN xs), .int .i64 (sE xs)]) ∧ Rw9 w' W.heap.size ra (sN xs) (sF xs) ∧ Kept No W w') := fun W k => shares_all W (hg.kept k) (h.keep k) (lt W k hF)
  have C3 : Hid (∀ W (p : Int), Kept No w W → Calls Tryz.prog 9 #[.slice ea n ec, .int .i64 p] W fun e w' => ∃ ra, e = .returned (.slice ra 12 12) ∧ Rw9 w' W.heap.size ra 12 (ctE es p n) ∧ Kept No W w') := fun W p k => counts_all p W (he.keep k) (lt W k hF')
  have C0 : Hid (∀ W, Kept No w W → Calls Tryz.prog 5 #[.slice none 0 0, .int .i64 0, .int .i64 7] W fun e w' => ∃ ra, e = .returned (.tuple #[.slice ra 1 1, .int .i64 0]) ∧ Rw9 w' W.heap.size ra 1 (fun _ => 7) ∧ Kept No W w') := fun W k => used_nil W (hg.kept k)
  have q1 := uN_32 xs fr be
  have q3 := sN_32 xs
  clear hg h hF he hF' lt
  generalize uN xs fr be = N1 at *
  generalize uE xs fr be = E1 at *
  generalize uF xs fr be = f1 at *
  generalize sN xs = N3 at *
  generalize sE xs = E3 at *
  generalize sF xs = f3 at *
  have HN0 : Hid (∀ i, nnH N1 N3 i ≤ 33) := fun i => nnH_le q1 q3 i
  go_enter Tryz.func16, Tryz.ntmps16
  go_wp2
  go_loopw [12, 13, 14, 15, 16, 17] (fun v y z1 z2 z3 z4 wr => ∃ (k : Nat) (S : Nat → Option Addr × Nat), k ≤ 2 ∧ y = .int .i64 k ∧ Hd wr w.heap.size wr.heap.size (5 * k) v S (nnH N1 N3) (ffH f1 f3 (ctE es p n) (ctE es 1 n)) ∧ Kept No w wr) (fun _ y _ _ _ _ _ => 2 - (intOf y).toNat)
  case atStart => exact ⟨0, fun _ => (none, 0), by omega, rfl, ⟨⟨rfl, .inl ⟨rfl, rfl⟩⟩, .inl rfl, sb_none _ _ _ _ _ _⟩, Kept.refl _ _⟩
  case round =>
    obtain ⟨k, S, hk, rfl, hh, hkr⟩ := hrel
    have HW := hid (And.intro hh hkr)
    clear hh hkr
    by_cases hlt : k < 2
    · have hltz : (k : Int) < 2 := by omega
      have r1 := S1.out wr HW.out.2
      go_upto_region 6 with (go_at_call 6; refine r1.mono ?_; rintro e wa ⟨a0, c0, rfl, ⟨m0, rr⟩, ka⟩; have HA := hid (And.intro rr (And.intro ka (And.intro (HW.out.2.trans ka (fun _ h => h.elim)) (And.intro m0.cap m0.max)))); clear rr ka r1 m0)
      have r2 := S2.out wa HA.out.2.2.1
      go_upto_region 7 with (go_at_call 8; refine r2.mono ?_; rintro e wb ⟨a1, c1, rfl, ⟨m0, rr⟩, kb⟩; have HB := hid (And.intro rr (And.intro kb (And.intro ((HA.out.2.2.1.trans kb (fun _ h => h.elim)).alloc (.cells #[.int .i64 7] 3)) (And.intro m0.cap m0.max)))); clear rr kb r2 m0)
      have r3 := S3.out (wb.alloc (.cells #[.int .i64 7] 3)) p HB.out.2.2.1
      go_wp2_with (first
        | (go_at_call 10; refine r3.mono ?_; rintro e wc ⟨a3, c3, rfl, ⟨m0, rr⟩, kc⟩; have HC := hid (And.intro rr (And.intro kc (And.intro (HB.out.2.2.1.trans kc (fun _ h => h.elim)) (And.intro m0.cap m0.max)))); clear rr kc r3 m0; have r4 := S3.out wc 1 HC.out.2.2.1)
        | (go_at_call 10; refine r4.mono ?_; rintro e wd ⟨a4, c4, rfl, ⟨m0, rr⟩, kd⟩; have HD := hid (And.intro rr (And.intro kd (And.intro (HC.out.2.2.1.trans kd (fun _ h => h.elim)) (And.intro m0.cap m0.max)))); clear rr kd r4 m0)
        | (at_builtin; refine wpList_append_own _ rfl _ _ 56 rfl w.heap.size 25 i0 (.slice none 0 0) 1 24 Tryz.underlying56 hi hz0 hz1 hz2 rfl (by decide) u12 (5 * k) (lsC S (nnH N1 N3) (5 * k)) rfl ((((((HA.out.2.1.trans HB.out.2.1 (fun _ h => h.elim)).alloc _).trans HC.out.2.1 (fun _ h => h.elim)).trans HD.out.2.1 (fun _ h => h.elim)).owns HW.out.1.row (fun _ _ h => h)).alloc _) ⟨wd.heap.size, 0, none⟩ 5 5 [.slice a0 N1 c0, .slice a1 N3 c1, .slice (some ⟨wb.heap.size, 0, none⟩) 1 1, .slice a3 12 c3, .slice a4 12 c4] rfl rfl (cell5_new wd _ _ _ _ _ _) (one5 _ _ _ _ _ _ _ _ _ _ _ _ _ _ _) (by unfold maxLen; omega) (by omega) (by have := HD.out.2.2.1.size; rw [World.size_alloc]; omega) ?_; intro v9 w10 own10 grow10 _))
      have HN : Hid (∃ S', Hd w10 w.heap.size w10.heap.size (5 * (k + 1)) v9 S' (nnH N1 N3) (ffH f1 f3 (ctE es p n) (ctE es 1 n)) ∧ Kept No w w10) := by
        have kg : Kept (fun j => u12.ownBlock = some j) wd w10 := ((Kept.refl _ wd).alloc _).grown grow10 (fun j e => .inl e)
        obtain ⟨S', hS, _⟩ := HW.out.1.five (k2 := (Kept.refl No wb).alloc (.cells #[.int .i64 7] 3)) HW.out.2.size HA.out.2.1 HB.out.2.1 HC.out.2.1 HD.out.2.1 HA.out.1 HB.out.1 (rw9_one wb 7) HC.out.1 HD.out.1 HA.out.2.2.2 HB.out.2.2.2 (by omega) HC.out.2.2.2 HD.out.2.2.2 (nnH_at N1 N3 k) (ffH_at f1 f3 _ _ k) own10 kg
        exact ⟨S', hS, HD.out.2.2.1.trans kg (fun j e => .inr (HW.out.1.row.lt j e).1)⟩
      clear own10 grow10 HA HB HC HD HW
      obtain ⟨S', hN⟩ := HN.out
      have HN2 := hid hN
      clear hN HN
      go_wp2
      go_roundw
      case rel => exact ⟨k + 1, S', by omega, by go_num, HN2.out⟩
      case measure => simp [intOf]; omega
    · obtain rfl : k = 2 := by omega
      have HNN := HN0
      obtain ⟨gW, cW, rfl, hW1, hW2, hW3, hW4⟩ := HW.out.1.ln (by omega)
      rw [show (5 * 2 : Nat) = 10 from rfl] at hW1 hW4 ⊢
      have HLW := hid (And.intro hW4 (And.intro HW.out.2 hW3))
      clear HW hW3 hW4 hk hlt S1 S2 S3
      generalize wr = w3 at *
      have lt3 : Hid (gW < w3.heap.size) := HLW.out.1.lt
      rw [show ((2 : Nat) : Int) = 2 from rfl]
      go_wp2
      go_loopw [11, 18, 19, 20, 21, 22, 23, 24] (fun v y z1 z2 z3 z4 z5 z6 wr => ∃ (k : Nat) (T : Nat → Option Addr × Nat), k ≤ 2 ∧ y = .int .i64 k ∧ Hd wr w3.heap.size wr.heap.size (5 * k) v T (nnH N1 N3) (ffH f1 f3 (ctE es p n) (ctE es 1 n)) ∧ (∀ i, i < 5 * k → (T i).2 = nnH N1 N3 i) ∧ Kept No w3 wr) (fun _ y _ _ _ _ _ _ _ => 2 - (intOf y).toNat)
      case atStart => exact ⟨0, fun _ => (none, 0), by omega, rfl, ⟨⟨rfl, .inl ⟨rfl, rfl⟩⟩, .inl rfl, sb_none _ _ _ _ _ _⟩, fun i hi => by omega, Kept.refl _ _⟩
      case round =>
        obtain ⟨k, T, hk, rfl, hh, hT, hkr⟩ := hrel
        have HW := hid (And.intro hh (And.intro hkr (And.intro (HLW.out.2.1.trans hkr (fun _ h => h.elim)) hT)))
        clear hh hkr hT
        by_cases hlt : k < 2
        · have hltz : (k : Int) < 2 := by omega
          have r1 := C1.out wr HW.out.2.2.1
          go_upto_region 12 with (go_at_call 5; refine r1.mono ?_; rintro e wa ⟨a0, rfl, rr, ka⟩; have HA := hid (And.intro rr (And.intro ka (HW.out.2.2.1.trans ka (fun _ h => h.elim)))); clear rr ka r1)
          have r2 := C2.out wa HA.out.2.2
          go_upto_region 13 with (go_at_call 7; refine r2.mono ?_; rintro e wb ⟨a1, rfl, rr, kb⟩; have HB := hid (And.intro rr (And.intro kb (HA.out.2.2.trans kb (fun _ h => h.elim)))); clear rr kb r2)
          have r3 := C0.out wb HB.out.2.2
          go_upto_region 14 with (go_at_call 5; refine r3.mono ?_; rintro e wx ⟨a2, rfl, rr, kx⟩; have HX := hid (And.intro rr (And.intro kx (HB.out.2.2.trans kx (fun _ h => h.elim)))); clear rr kx r3)
          have r4 := C3.out wx p HX.out.2.2
          go_wp2_with (first
            | (go_at_call 9; refine r4.mono ?_; rintro e wc ⟨a3, rfl, rr, kc⟩; have HC := hid (And.intro rr (And.intro kc (HX.out.2.2.trans kc (fun _ h => h.elim)))); clear rr kc r4; have r5 := C3.out wc 1 HC.out.2.2)
            | (go_at_call 9; refine r5.mono ?_; rintro e wd ⟨a4, rfl, rr, kd⟩; have HD := hid (And.intro rr (And.intro kd (HC.out.2.2.trans kd (fun _ h => h.elim)))); clear rr kd r5)
            | (at_builtin; refine wpList_append_own _ rfl _ _ 56 rfl w3.heap.size 25 i0 (.slice none 0 0) 1 24 Tryz.underlying56 hi hz0 hz1 hz2 rfl (by decide) u11 (5 * k) (lsC T (nnH N1 N3) (5 * k)) rfl ((((((HA.out.2.1.trans HB.out.2.1 (fun _ h => h.elim)).trans HX.out.2.1 (fun _ h => h.elim)).trans HC.out.2.1 (fun _ h => h.elim)).trans HD.out.2.1 (fun _ h => h.elim)).owns HW.out.1.row (fun _ _ h => h)).alloc _) ⟨wd.heap.size, 0, none⟩ 5 5 [.slice a0 N1 N1, .slice a1 N3 N3, .slice a2 1 1, .slice a3 12 12, .slice a4 12 12] rfl rfl (cell5_new wd _ _ _ _ _ _) (one5 _ _ _ _ _ _ _ _ _ _ _ _ _ _ _) (by unfold maxLen; omega) (by omega) (by have := HW.out.2.1.size; have := HA.out.2.1.size; have := HB.out.2.1.size; have := HX.out.2.1.size; have := HC.out.2.1.size; have := HD.out.2.1.size; rw [World.size_alloc]; omega) ?_; intro v9 w10 own10 grow10 _))
          have HN : Hid (∃ T', Hd w10 w3.heap.size w10.heap.size (5 * (k + 1)) v9 T' (nnH N1 N3) (ffH f1 f3 (ctE es p n) (ctE es 1 n)) ∧ (∀ i, i < 5 * (k + 1) → (T' i).2 = nnH N1 N3 i) ∧ Kept No w3 w10) := by
            have kg : Kept (fun j => u11.ownBlock = some j) wd w10 := ((Kept.refl _ wd).alloc _).grown grow10 (fun j e => .inl e)
            have kk : Kept No w3 wd := ((((HW.out.2.1.trans HA.out.2.1 (fun _ h => h.elim)).trans HB.out.2.1 (fun _ h => h.elim)).trans HX.out.2.1 (fun _ h => h.elim)).trans HC.out.2.1 (fun _ h => h.elim)).trans HD.out.2.1 (fun _ h => h.elim)
            obtain ⟨T', hS, hS2⟩ := HW.out.1.five HW.out.2.1.size HA.out.2.1 HB.out.2.1 HX.out.2.1 HC.out.2.1 HD.out.2.1 HA.out.1 HB.out.1 HX.out.1 HC.out.1 HD.out.1 ⟨Nat.le_refl _, by omega⟩ ⟨Nat.le_refl _, by omega⟩ ⟨Nat.le_refl _, by omega⟩ ⟨Nat.le_refl _, by omega⟩ ⟨Nat.le_refl _, by omega⟩ (nnH_at N1 N3 k) (ffH_at f1 f3 _ _ k) own10 kg
            exact ⟨T', hS, hS2 HW.out.2.2.2 rfl rfl rfl rfl rfl, kk.trans kg (fun j e => .inr (HW.out.1.row.lt j e).1)⟩
          clear own10 grow10 HA HB HC HD HX HW
          obtain ⟨T', hN⟩ := HN.out
          have HN2 := hid hN
          clear hN HN
          go_wp2
          go_roundw
          case rel => exact ⟨k + 1, T', by omega, by go_num, HN2.out⟩
          case measure => simp [intOf]; omega
        · obtain rfl : k = 2 := by omega
          obtain ⟨gL, cL, rfl, hL1, hL2, hL3, hL4⟩ := HW.out.1.ln (by omega)
          rw [show (5 * 2 : Nat) = 10 from rfl] at hL1 hL4 ⊢
          have hcT := HW.out.2.2.2
          rw [show (5 * 2 : Nat) = 10 from rfl] at hcT
          have HL : Hid (Ln wr gL w3.heap.size wr.heap.size 10 T (nnH N1 N3) (ffH f1 f3 (ctE es p n) (ctE es 1 n)) ∧ Ln wr gW w.heap.size w3.heap.size 10 S (nnH N1 N3) (ffH f1 f3 (ctE es p n) (ctE es 1 n)) ∧ Kept No w wr ∧ w3.heap.size ≤ gL ∧ gW < w3.heap.size ∧ w.heap.size ≤ w3.heap.size) := ⟨hL4, HLW.out.1.keep HW.out.2.1, HW.out.2.2.1, hL3, lt3.out, HLW.out.2.1.size⟩
          have HCT := hid hcT
          clear HW hL3 hL4 hk hlt hcT C1 C2 C3 C0 HLW lt3
          generalize w3.heap.size = B at *
          generalize wr.heap.size = U at *
          generalize nnH N1 N3 = nn at *
          generalize ffH f1 f3 (ctE es p n) (ctE es 1 n) = ff at *
          generalize wr = w4 at *
          rw [show ((2 : Nat) : Int) = 2 from rfl]
          go_wp2
          go_loopw [25] (fun x wr => ∃ k : Nat, k ≤ 10 ∧ x = .int .i64 k ∧ Kept No w4 wr) (fun x _ => 10 - (intOf x).toNat)
          case atStart => exact ⟨0, by omega, rfl, Kept.refl _ _⟩
          case round =>
            obtain ⟨k, hk, rfl, hkr⟩ := hrel
            have HK := hid hkr
            by_cases hlt : k < 10
            · have hltz : (k : Int) < 10 := by omega
              have cl := hkr.cell (HL.out.1.cells k hlt) (fun h => h)
              have cw := hkr.cell (HL.out.2.1.cells k hlt) (fun h => h)
              have q1 := HL.out.1.sb.cap k hlt
              have q2 := HL.out.2.1.sb.cap k hlt
              have HSM : Hid (∀ W, Kept No wr W → Calls Tryz.prog 11 #[.slice (T k).1 (nn k) (T k).2, .slice (S k).1 (nn k) (S k).2] W fun e w' => e = .returned (.bool true) ∧ Kept No W w') := fun W kk => sameI_yes W ((((HL.out.1.sb.rv k hlt).keep hkr).keep kk).nm q1.1 q1.2) ((((HL.out.2.1.sb.rv k hlt).keep hkr).keep kk).nm q2.1 q2.2)
              clear hkr
              generalize (T k).1 = ak at *
              generalize (T k).2 = ck at *
              generalize (S k).1 = bk at *
              generalize (S k).2 = dk at *
              generalize nn k = N at *
              clear q1 q2
              have HKK := hid hlt
              have HCL := hid (And.intro cl cw)
              clear cl cw
              go_upto_region 18 with fail
              refine wp_region_kept wr (by kernel_rfl) (by kernel_rfl) (Kept.refl No wr) ?_
              refine BigFrame.wpQuiet_want rfl (fun KQ hKQ => ?_)
              refine quiet_val' (fun w5 hw5 => er_mv _ rfl (.slice (some ⟨gL, 0, none⟩) 10 cL) rfl) ?_
              refine hKQ _ ?_
              clear hKQ KQ
              simp only [Act.put, List.setIfInBounds_toArray, List.set_cons_zero, List.set_cons_succ]
              refine BigFrame.wpQuiet_want rfl (fun KQ hKQ => ?_)
              refine quiet_val' (fun w5 hw5 => er_mv _ rfl (.int .i64 (k : Int)) rfl) ?_
              refine hKQ _ ?_
              clear hKQ KQ
              simp only [Act.put, List.setIfInBounds_toArray, List.set_cons_zero, List.set_cons_succ]
              refine BigFrame.wpQuiet_want rfl (fun KQ hKQ => ?_)
              refine quiet_val' (fun w5 hw5 => er_ixS _ _ rfl gL 10 cL k HKK.out (by omega) rfl rfl) ?_
              refine hKQ _ ?_
              clear hKQ KQ
              simp only [Act.put, List.setIfInBounds_toArray, List.set_cons_zero, List.set_cons_succ]
              refine BigFrame.wpQuiet_want rfl (fun KQ hKQ => ?_)
              refine quiet_val' (fun w5 hw5 => er_ldSS _ rfl gL k (.slice ak N ck) rfl (hw5.cell HCL.out.1 (fun h => h))) ?_
              refine hKQ _ ?_
              clear hKQ KQ
              simp only [Act.put, List.setIfInBounds_toArray, List.set_cons_zero, List.set_cons_succ]
              refine BigFrame.wpQuiet_want rfl (fun KQ hKQ => ?_)
              refine quiet_val' (fun w5 hw5 => er_mv _ rfl (.slice (some ⟨gW, 0, none⟩) 10 cW) rfl) ?_
              refine hKQ _ ?_
              clear hKQ KQ
              simp only [Act.put, List.setIfInBounds_toArray, List.set_cons_zero, List.set_cons_succ]
              refine BigFrame.wpQuiet_want rfl (fun KQ hKQ => ?_)
              refine quiet_val' (fun w5 hw5 => er_mv _ rfl (.int .i64 (k : Int)) rfl) ?_
              refine hKQ _ ?_
              clear hKQ KQ
              simp only [Act.put, List.setIfInBounds_toArray, List.set_cons_zero, List.set_cons_succ]
              refine BigFrame.wpQuiet_want rfl (fun KQ hKQ => ?_)
              refine quiet_val' (fun w5 hw5 => er_ixS _ _ rfl gW 10 cW k HKK.out (by omega) rfl rfl) ?_
              refine hKQ _ ?_
              clear hKQ KQ
              simp only [Act.put, List.setIfInBounds_toArray, List.set_cons_zero, List.set_cons_succ]
              refine BigFrame.wpQuiet_want rfl (fun KQ hKQ => ?_)
              refine quiet_val' (fun w5 hw5 => er_ldSS _ rfl gW k (.slice bk N dk) rfl (hw5.cell HCL.out.2 (fun h => h))) ?_
              refine hKQ _ ?_
              clear hKQ KQ
              simp only [Act.put, List.setIfInBounds_toArray, List.set_cons_zero, List.set_cons_succ]
              refine BigFrame.wpQuiet_want rfl (fun KQ hKQ => ?_)
              refine quiet_same _ _ rfl (.slice ak N ck) (.slice bk N dk) (.bool true) rfl rfl (fun w5 hw5 => (HSM.out w5 hw5).mono fun e w6 ⟨h1, h2⟩ => ⟨h1, hw5.trans h2 (fun _ h => h.elim)⟩) ?_
              refine hKQ _ ?_
              clear hKQ KQ
              simp only [Act.put, List.setIfInBounds_toArray, List.set_cons_zero, List.set_cons_succ]
              refine BigFrame.wpQuiet_want rfl (fun KQ hKQ => ?_)
              refine quiet_val' (fun w5 hw5 => er_notB _ rfl true false rfl rfl) ?_
              refine hKQ _ ?_
              clear hKQ KQ
              simp only [Act.put, List.setIfInBounds_toArray, List.set_cons_zero, List.set_cons_succ]
              refine wpQuiet_nil ?_
              intro w9 k9
              have K5 : Hid (Kept No w4 w9) := HK.out.trans k9 (fun _ h => h.elim)
              clear k9
              go_wp2
              go_roundw
              case rel => exact ⟨k + 1, by omega, by go_num, K5.out⟩
              case measure => simp [intOf]; omega
            · obtain rfl : k = 10 := by omega
              have HM : Hid (Ln wr gL B U 10 T nn ff ∧ Ln wr gW w.heap.size B 10 S nn ff ∧ Kept No w wr) := ⟨HL.out.1.keep hkr, HL.out.2.1.keep hkr, HL.out.2.2.1.trans hkr (fun _ h => h.elim)⟩
              have HBB := hid HL.out.2.2.2
              clear hkr HK HL hk hlt
              generalize wr = w5 at *
              rw [show ((10 : Nat) : Int) = 10 from rfl]
              go_wp2
              go_loopw [26, 27] (fun x y wr => ∃ k : Nat, k ≤ 10 ∧ x = .int .i64 k ∧ Ln wr gL B U 10 T nn (fun j q => if j < k then -1 - (j : Int) else ff j q) ∧ Ln wr gW w.heap.size B 10 S nn (fun j q => if j < k then -1 - (j : Int) else ff j q) ∧ Kept No w wr) (fun x _ _ => 10 - (intOf x).toNat)
              case atStart => exact ⟨0, by omega, rfl, HM.out.1.ext (fun i hi q hq => by simp), HM.out.2.1.ext (fun i hi q hq => by simp), HM.out.2.2⟩
              case round =>
                obtain ⟨k, hk, rfl, hl1, hl2, hkr⟩ := hrel
                have HK := hid (And.intro hl1 (And.intro hl2 hkr))
                clear hl1 hl2 hkr
                by_cases hlt : k < 10
                · have hltz : (k : Int) < 10 := by omega
                  have cl := HK.out.1.cells k hlt
                  have HE := hid hlt
                  have hnk := HNN.out k
                  generalize wr = wo at *
                  obtain ⟨N, hn⟩ : ∃ N : Nat, nn k = N := ⟨_, rfl⟩
                  rw [hn] at cl hnk
                  go_wp2
                  go_loopw [27] (fun y wr => ∃ q : Nat, q ≤ N ∧ y = .int .i64 q ∧ Ln wr gL B U 10 T nn (fun j p => if j < k ∨ (j = k ∧ p < q) then -1 - (j : Int) else ff j p) ∧ Ln wr gW w.heap.size B 10 S nn (fun j p => if j < k ∨ (j = k ∧ p < q) then -1 - (j : Int) else ff j p) ∧ Kept No w wr) (fun y _ => N - (intOf y).toNat)
                  case atStart => exact ⟨0, Nat.zero_le _, rfl, HK.out.1.ext (fun i hi q hq => by simp), HK.out.2.1.ext (fun i hi q hq => by simp), HK.out.2.2⟩
                  case round =>
                    obtain ⟨q, hq, rfl, hl1, hl2, hkr⟩ := hrel
                    have cl' := hl1.cells k hlt
                    have cw' := hl2.cells k hlt
                    rw [hn] at cl' cw'
                    by_cases hqn : q < N
                    · have hqz : (q : Int) < (N : Int) := by omega
                      obtain ⟨b, hb, _, hbl, hcs, hfz⟩ := hl1.sb.rv k hlt (by rw [hn]; omega)
                      obtain ⟨d, hd, _, hdl, hds, hdz⟩ := hl2.sb.rv k hlt (by rw [hn]; omega)
                      have cd := hl2.sb.cap k hlt
                      have cb := hl1.sb.cap k hlt
                      rw [hn] at cd cb
                      have x0 := hcs q (by rw [hn]; exact hqn)
                      have z0 := hfz q
                      obtain ⟨l1, k1, bb1, bb2⟩ := hl1.set (k := q) hlt (by rw [hn]; exact hqn) hb (-1 - (k : Int))
                      have hbb := HBB.out
                      have l2 := hl2.kept k1 (by intro e; have e' : gW = b := e; omega) (fun i hi hni c hc e => by have e' : c = b := e; have := hl2.sb.up i hi hni c hc; omega)
                      have x1 := (l2.sb.rv k hlt (by rw [hn]; omega))
                      obtain ⟨d', hd', _, hdl', hds', hdz'⟩ := x1
                      rw [hd] at hd'
                      injection hd' with hd'; injection hd' with hd' _ _; subst hd'
                      have x2 := hds' q (by rw [hn]; exact hqn)
                      have z2 := hdz' q
                      have cw2 := l2.cells k hlt
                      rw [hn] at cw2
                      obtain ⟨l3, k3, bb3, bb4⟩ := l2.set (k := q) hlt (by rw [hn]; exact hqn) hd (-1 - (k : Int))
                      have l4 := l1.kept k3 (by intro e; have e' : gL = d := e; omega) (fun i hi hni c hc e => by
                        have e' : c = d := e
                        obtain ⟨g', e2, h3, _⟩ := l1.sb.rv i hi hni
                        rw [hc] at e2; injection e2 with e2; injection e2 with e2 _ _
                        omega)
                      have HX : Hid (Ln ((wr.setCell ⟨b, q, none⟩ (.int .i64 (-1 - (k : Int)))).setCell ⟨d, q, none⟩ (.int .i64 (-1 - (k : Int)))) gL B U 10 T nn (fun j p => if j < k ∨ (j = k ∧ p < q + 1) then -1 - (j : Int) else ff j p) ∧ Ln ((wr.setCell ⟨b, q, none⟩ (.int .i64 (-1 - (k : Int)))).setCell ⟨d, q, none⟩ (.int .i64 (-1 - (k : Int)))) gW w.heap.size B 10 S nn (fun j p => if j < k ∨ (j = k ∧ p < q + 1) then -1 - (j : Int) else ff j p) ∧ Kept No w ((wr.setCell ⟨b, q, none⟩ (.int .i64 (-1 - (k : Int)))).setCell ⟨d, q, none⟩ (.int .i64 (-1 - (k : Int))))) := by
                        have ex : ∀ i, i < 10 → ∀ p, p < nn i → (if i = k ∧ p = q then -1 - (k : Int) else if i < k ∨ (i = k ∧ p < q) then -1 - (i : Int) else ff i p) = (if i < k ∨ (i = k ∧ p < q + 1) then -1 - (i : Int) else ff i p) := fun i hi p hp => by
                          by_cases e1 : i = k
                          · subst e1
                            by_cases e2 : p = q
                            · subst e2; simp
                            · have : (p < q + 1) ↔ p < q := by omega
                              simp [e2, this]
                          · simp [e1]
                        exact ⟨l4.ext ex, l3.ext ex, (hkr.trans k1 (fun j e => .inr (by have e' : j = b := e; omega))).trans k3 (fun j e => .inr (by have e' : j = d := e; omega))⟩
                      rw [hb] at cl'
                      rw [hd] at cw' cw2
                      clear hkr l1 k1 l2 l3 k3 l4 hl1 hl2 hcs hfz hbl hb hd hds hdz hds' hdz' hdl hdl' bb1 bb2 bb3 bb4 hbb
                      generalize (if k < k ∨ (k = k ∧ q < q) then -1 - (k : Int) else ff k q) = old at *
                      generalize (T k).2 = ck at *
                      generalize (S k).2 = dk at *
                      go_upto_region 27 with fail
                      clear cl cl' cw' x0 z0
                      go_wp2
                      go_roundw
                      case rel => exact ⟨q + 1, by omega, by go_num, HX.out⟩
                      case measure => simp [intOf]; omega
                    · have hqz : ¬ (q : Int) < (N : Int) := by omega
                      have HX : Hid (Ln wr gL B U 10 T nn (fun j p => if j < k + 1 then -1 - (j : Int) else ff j p) ∧ Ln wr gW w.heap.size B 10 S nn (fun j p => if j < k + 1 then -1 - (j : Int) else ff j p) ∧ Kept No w wr) := by
                        have ex : ∀ i, i < 10 → ∀ p, p < nn i → (if i < k ∨ (i = k ∧ p < q) then -1 - (i : Int) else ff i p) = (if i < k + 1 then -1 - (i : Int) else ff i p) := fun i hi p hp => by
                          by_cases e1 : i = k
                          · subst e1
                            rw [hn] at hp
                            have : p < q := by omega
                            simp [this]
                          · have : (i < k + 1) ↔ i < k := by omega
                            simp [e1, this]
                        exact ⟨hl1.ext ex, hl2.ext ex, hkr⟩
                      clear hl1 hl2 hkr
                      go_wp2
                      go_roundw
                      case rel => exact ⟨k + 1, by have := HE.out; omega, by go_num, HX.out⟩
                      case measure => simp [intOf]; omega
                · obtain rfl : k = 10 := by omega
                  have HQ : Hid (Ln wr gL B U 10 T nn (fun j q => -1 - (j : Int)) ∧ Ln wr gW w.heap.size B 10 S nn (fun j q => -1 - (j : Int)) ∧ Kept No w wr) := ⟨HK.out.1.ext (fun i hi q hq => if_pos hi), HK.out.2.1.ext (fun i hi q hq => if_pos hi), HK.out.2.2⟩
                  clear HK HM hk hlt HBB
                  generalize wr = w6 at *
                  rw [show ((10 : Nat) : Int) = 10 from rfl]
                  go_wp2
                  go_loopw [28, 29] (fun x y wr => ∃ (k : Nat) (V : Int), k ≤ 10 ∧ x = .int .i64 V ∧ 70 * (k : Int) ≤ V ∧ V ≤ 1000 * k ∧ y = .int .i64 k ∧ Kept No w6 wr) (fun _ y _ => 10 - (intOf y).toNat)
                  case atStart => exact ⟨0, 0, by omega, rfl, by omega, by omega, rfl, Kept.refl _ _⟩
                  case round =>
                    obtain ⟨k, V, hk, rfl, hV1, hV2, rfl, hkr⟩ := hrel
                    have HK := hid hkr
                    by_cases hlt : k < 10
                    · have hltz : (k : Int) < 10 := by omega
                      have cl := hkr.cell (HQ.out.1.cells k hlt) (fun h => h)
                      have hnk := HNN.out k
                      have hck := HCT.out k hlt
                      have hrv := (HQ.out.1.sb.rv k hlt).keep hkr
                      rw [hck] at cl
                      clear hkr hck
                      generalize (T k).1 = ak at *
                      generalize nn k = N at *
                      have gr := grown_raw (a := ak) (n := N) (f := fun _ => -1 - (k : Int)) wr (fun e => by
                        apply Classical.byContradiction
                        intro h0
                        obtain ⟨g, e', _⟩ := hrv (by omega)
                        rw [e] at e'; cases e') (fun i hi => by obtain ⟨g, e', _, _, h3, _⟩ := hrv (by omega); exact ⟨g, e', h3 i hi⟩) (show N ≤ 100000 by omega)
                      clear hrv
                      go_wp2_with (go_at_call 28; refine gr.mono ?_; rintro e w7 ⟨rfl, k7⟩; have K7 : Hid (Kept No w6 w7) := HK.out.trans k7 (fun _ h => h.elim); clear k7 gr)
                      go_roundw
                      case rel => exact ⟨k + 1, V + ((N : Int) + 70), by omega, by go_num, by omega, by omega, by go_num, K7.out⟩
                      case measure => simp [intOf]; omega
                    · obtain rfl : k = 10 := by omega
                      have HR : Hid (Ln wr gL B U 10 T nn (fun j q => -1 - (j : Int)) ∧ Ln wr gW w.heap.size B 10 S nn (fun j q => -1 - (j : Int)) ∧ Kept No w wr) := ⟨HQ.out.1.keep hkr, HQ.out.2.1.keep hkr, HQ.out.2.2.trans hkr (fun _ h => h.elim)⟩
                      have hV3 : (700 : Int) ≤ V := by omega
                      have hV4 : V ≤ 10000 := by omega
                      clear hkr HK HQ hk hlt hV1 hV2
                      generalize wr = w7 at *
                      rw [show ((10 : Nat) : Int) = 10 from rfl]
                      go_wp2
                      go_loopw [30] (fun x wr => ∃ k : Nat, k ≤ 10 ∧ x = .int .i64 k ∧ Kept No w7 wr) (fun x _ => 10 - (intOf x).toNat)
                      case atStart => exact ⟨0, by omega, rfl, Kept.refl _ _⟩
                      case round =>
                        obtain ⟨k, hk, rfl, hkr⟩ := hrel
                        have HK := hid hkr
                        by_cases hlt : k < 10
                        · have hltz : (k : Int) < 10 := by omega
                          have cl := hkr.cell (HR.out.1.cells k hlt) (fun h => h)
                          have cw := hkr.cell (HR.out.2.1.cells k hlt) (fun h => h)
                          have q1 := HR.out.1.sb.cap k hlt
                          have q2 := HR.out.2.1.sb.cap k hlt
                          have HSM : Hid (∀ W, Kept No wr W → Calls Tryz.prog 11 #[.slice (T k).1 (nn k) (T k).2, .slice (S k).1 (nn k) (S k).2] W fun e w' => e = .returned (.bool true) ∧ Kept No W w') := fun W kk => sameI_yes W ((((HR.out.1.sb.rv k hlt).keep hkr).keep kk).nm q1.1 q1.2) ((((HR.out.2.1.sb.rv k hlt).keep hkr).keep kk).nm q2.1 q2.2)
                          clear hkr
                          generalize (T k).1 = ak at *
                          generalize (T k).2 = ck at *
                          generalize (S k).1 = bk at *
                          generalize (S k).2 = dk at *
                          generalize nn k = N at *
                          clear q1 q2
                          have HKK := hid hlt
                          have HCL := hid (And.intro cl cw)
                          clear cl cw
                          go_upto_region 36 with fail
                          refine wp_region_kept wr (by kernel_rfl) (by kernel_rfl) (Kept.refl No wr) ?_
                          refine BigFrame.wpQuiet_want rfl (fun KQ hKQ => ?_)
                          refine quiet_val' (fun w5 hw5 => er_mv _ rfl (.slice (some ⟨gL, 0, none⟩) 10 cL) rfl) ?_
                          refine hKQ _ ?_
                          clear hKQ KQ
                          simp only [Act.put, List.setIfInBounds_toArray, List.set_cons_zero, List.set_cons_succ]
                          refine BigFrame.wpQuiet_want rfl (fun KQ hKQ => ?_)
                          refine quiet_val' (fun w5 hw5 => er_mv _ rfl (.int .i64 (k : Int)) rfl) ?_
                          refine hKQ _ ?_
                          clear hKQ KQ
                          simp only [Act.put, List.setIfInBounds_toArray, List.set_cons_zero, List.set_cons_succ]
                          refine BigFrame.wpQuiet_want rfl (fun KQ hKQ => ?_)
                          refine quiet_val' (fun w5 hw5 => er_ixS _ _ rfl gL 10 cL k HKK.out (by omega) rfl rfl) ?_
                          refine hKQ _ ?_
                          clear hKQ KQ
                          simp only [Act.put, List.setIfInBounds_toArray, List.set_cons_zero, List.set_cons_succ]
                          refine BigFrame.wpQuiet_want rfl (fun KQ hKQ => ?_)
                          refine quiet_val' (fun w5 hw5 => er_ldSS _ rfl gL k (.slice ak N ck) rfl (hw5.cell HCL.out.1 (fun h => h))) ?_
                          refine hKQ _ ?_
                          clear hKQ KQ
                          simp only [Act.put, List.setIfInBounds_toArray, List.set_cons_zero, List.set_cons_succ]
                          refine BigFrame.wpQuiet_want rfl (fun KQ hKQ => ?_)
                          refine quiet_val' (fun w5 hw5 => er_mv _ rfl (.slice (some ⟨gW, 0, none⟩) 10 cW) rfl) ?_
                          refine hKQ _ ?_
                          clear hKQ KQ
                          simp only [Act.put, List.setIfInBounds_toArray, List.set_cons_zero, List.set_cons_succ]
                          refine BigFrame.wpQuiet_want rfl (fun KQ hKQ => ?_)
                          refine quiet_val' (fun w5 hw5 => er_mv _ rfl (.int .i64 (k : Int)) rfl) ?_
                          refine hKQ _ ?_
                          clear hKQ KQ
                          simp only [Act.put, List.setIfInBounds_toArray, List.set_cons_zero, List.set_cons_succ]
                          refine BigFrame.wpQuiet_want rfl (fun KQ hKQ => ?_)
                          refine quiet_val' (fun w5 hw5 => er_ixS _ _ rfl gW 10 cW k HKK.out (by omega) rfl rfl) ?_
                          refine hKQ _ ?_
                          clear hKQ KQ
                          simp only [Act.put, List.setIfInBounds_toArray, List.set_cons_zero, List.set_cons_succ]
                          refine BigFrame.wpQuiet_want rfl (fun KQ hKQ => ?_)
                          refine quiet_val' (fun w5 hw5 => er_ldSS _ rfl gW k (.slice bk N dk) rfl (hw5.cell HCL.out.2 (fun h => h))) ?_
                          refine hKQ _ ?_
                          clear hKQ KQ
                          simp only [Act.put, List.setIfInBounds_toArray, List.set_cons_zero, List.set_cons_succ]
                          refine BigFrame.wpQuiet_want rfl (fun KQ hKQ => ?_)
                          refine quiet_same _ _ rfl (.slice ak N ck) (.slice bk N dk) (.bool true) rfl rfl (fun w5 hw5 => (HSM.out w5 hw5).mono fun e w6 ⟨h1, h2⟩ => ⟨h1, hw5.trans h2 (fun _ h => h.elim)⟩) ?_
                          refine hKQ _ ?_
                          clear hKQ KQ
                          simp only [Act.put, List.setIfInBounds_toArray, List.set_cons_zero, List.set_cons_succ]
                          refine BigFrame.wpQuiet_want rfl (fun KQ hKQ => ?_)
                          refine quiet_val' (fun w5 hw5 => er_notB _ rfl true false rfl rfl) ?_
                          refine hKQ _ ?_
                          clear hKQ KQ
                          simp only [Act.put, List.setIfInBounds_toArray, List.set_cons_zero, List.set_cons_succ]
                          refine wpQuiet_nil ?_
                          intro w9 k9
                          have K8 : Hid (Kept No w7 w9) := HK.out.trans k9 (fun _ h => h.elim)
                          clear k9
                          go_wp2
                          go_roundw
                          case rel => exact ⟨k + 1, by omega, by go_num, K8.out⟩
                          case measure => simp [intOf]; omega
                        · obtain rfl : k = 10 := by omega
                          have HZ := hid (HR.out.2.2.trans hkr (fun _ h => h.elim))
                          clear hkr HK HR hk hlt
                          rw [show ((10 : Nat) : Int) = 10 from rfl]
                          go_wp2
                          go_ret
                          exact ⟨rfl, HZ.out⟩
end Go.Proofs.YtibmgpinfdcaoaaGreatDoor
