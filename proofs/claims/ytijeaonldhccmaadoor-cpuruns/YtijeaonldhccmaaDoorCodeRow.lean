/-
  Rows of instructions: five cells each. No walk.
-/
import Derived.Test.YtijeaonldhccmaaDoorStep1
namespace Go.Proofs.YtijeaonldhccmaaDoor
open Go.RowKit
set_option linter.unusedVariables false

def ic (x : Ins) : List Value := [.int .u8 x.o, .int .u8 x.a, .int .u8 x.b, .int .u8 x.c, .int .i32 x.n]
def icL (xs : List Ins) : List Value := (xs.map ic).flatten
theorem icL_nil : icL [] = [] := rfl
theorem icL_cons (x : Ins) (xs : List Ins) : icL (x :: xs) = ic x ++ icL xs := rfl
theorem icL_append (xs ys : List Ins) : icL (xs ++ ys) = icL xs ++ icL ys := by unfold icL; rw [List.map_append, List.flatten_append]
theorem icL_one (x : Ins) : icL [x] = ic x := by rw [icL_cons, icL_nil, List.append_nil]
theorem icL_length : ∀ xs : List Ins, (icL xs).length = xs.length * 5
  | [] => rfl
  | x :: xs => by rw [icL_cons, List.length_append, icL_length xs, List.length_cons]; show 5 + _ = _; omega
theorem icL_cells (xs : List Ins) : ∀ u ∈ icL xs, u.oneCell' = true := by
  intro u hu
  unfold icL at hu
  rw [List.mem_flatten] at hu
  obtain ⟨l, hl, hu⟩ := hu
  rw [List.mem_map] at hl
  obtain ⟨x, _, rfl⟩ := hl
  simp [ic] at hu
  rcases hu with rfl | rfl | rfl | rfl | rfl <;> rfl
theorem icL_at : ∀ (xs : List Ins) (i j : Nat), i < xs.length → j < 5 → (icL xs)[i * 5 + j]? = (ic (xs.getD i ins0))[j]?
  | [], i, j, h, _ => by simp at h
  | x :: xs, 0, j, h, hj => by
    rw [icL_cons, List.getElem?_append_left (by show 0 * 5 + j < 5; omega)]
    simp
  | x :: xs, i + 1, j, h, hj => by
    rw [icL_cons, List.getElem?_append_right (by show 5 ≤ (i + 1) * 5 + j; omega)]
    rw [show (i + 1) * 5 + j - (ic x).length = i * 5 + j by show (i + 1) * 5 + j - 5 = _; omega]
    rw [icL_at xs i j (by simpa using h) hj]
    simp
/-- a cell of a row, by its place -/
theorem icL_get {xs : List Ins} {k : Nat} {u : Value} (h : (icL xs)[k]? = some u) : k / 5 < xs.length ∧ (ic (xs.getD (k / 5) ins0))[k % 5]? = some u := by
  have hl : k < (icL xs).length := (List.getElem?_eq_some_iff.1 h).1
  rw [icL_length] at hl
  have h1 : k / 5 < xs.length := by omega
  refine ⟨h1, ?_⟩
  rw [← icL_at xs (k / 5) (k % 5) h1 (Nat.mod_lt _ (by decide)), show k / 5 * 5 + k % 5 = k by omega]
  exact h

theorem owns_cells5 {w : World} {base : Nat} {e : TypeId} {v : Value} {n : Nat} {xs : List Value} (h : w.ownsRow base e 5 v n xs) :
    (v = .slice none 0 0 ∧ n = 0) ∨ ∃ g cap, v = .slice (some ⟨g, 0, none⟩) n cap ∧ base ≤ g ∧ g < w.heap.size ∧ n ≤ cap ∧ cap ≤ maxLen ∧ (∀ i u, xs[i]? = some u → w.cell? ⟨g, i, none⟩ = some u) ∧ ∀ i, w.frozen? ⟨g, i, none⟩ = false := by
  have hc := h
  obtain ⟨_, h1 | ⟨g, cap, cur, rfl, hb, hg, hn, hm, _, _⟩⟩ := h
  · exact .inl h1
  · refine .inr ⟨g, cap, rfl, hb, ?_, hn, hm, ?_, ?_⟩
    · exact (hc.lt g rfl).2
    · intro i u hu
      have := hc.cells (g := g) rfl i u hu
      rw [add_none, Nat.zero_add] at this
      exact this
    · intro i; simp [World.frozen?, hg]

/-- the first k instructions of an own row of n -/
theorem Cs.of_head {w : World} {base : Nat} {g cap n : Nat} {xs : List Ins} (h : w.ownsRow base 30 5 (.slice (some ⟨g, 0, none⟩) n cap) n (icL xs)) (hok : ∀ x ∈ xs, x.ok) (hn : xs.length = n) (k : Nat) (hk : k ≤ n) :
    Cs w (fun b => b = g) (some ⟨g, 0, none⟩) k cap (xs.take k) := by
  rcases owns_cells5 h with ⟨h0, _⟩ | ⟨g', cap', hv, hb, hg, hn2, hm, hc, hf⟩
  · cases h0
  · injection hv with h1 h2 h3
    injection h1 with h1
    injection h1 with h1 _ _
    subst h1 h3
    refine ⟨by rw [List.length_take]; omega, by omega, hm, (fun h => by cases h), (fun x hx => hok x (List.mem_of_mem_take hx)), (fun i hi => ?_)⟩
    have e : (xs.take k).getD i ins0 = xs.getD i ins0 := by simp [List.getD, hi]
    rw [e]
    have hi2 : i < xs.length := by omega
    refine ⟨g, 0, rfl, rfl, ?_, ?_, ?_, ?_, ?_⟩
    · rw [Nat.zero_add]; exact hc (i * 5 + 0) _ (icL_at xs i 0 hi2 (by decide))
    · rw [Nat.zero_add]; exact hc (i * 5 + 1) _ (icL_at xs i 1 hi2 (by decide))
    · rw [Nat.zero_add]; exact hc (i * 5 + 2) _ (icL_at xs i 2 hi2 (by decide))
    · rw [Nat.zero_add]; exact hc (i * 5 + 3) _ (icL_at xs i 3 hi2 (by decide))
    · rw [Nat.zero_add]; exact hc (i * 5 + 4) _ (icL_at xs i 4 hi2 (by decide))
theorem Cs.of_owns {w : World} {base : Nat} {v : Value} {xs : List Ins} (h : w.ownsRow base 30 5 v xs.length (icL xs)) (hok : ∀ x ∈ xs, x.ok) :
    ∃ a c, v = .slice a xs.length c ∧ Cs w (fun g => v.ownBlock = some g) a xs.length c xs := by
  rcases owns_cells5 h with ⟨rfl, h0⟩ | ⟨g, cap, rfl, hb, hg, hn, hm, hc, hf⟩
  · refine ⟨none, 0, by rw [h0], ⟨rfl, by omega, by omega, fun _ => rfl, hok, fun i hi => by omega⟩⟩
  · refine ⟨_, cap, rfl, ?_⟩
    have h2 := Cs.of_head h hok rfl xs.length (Nat.le_refl _)
    rw [List.take_length] at h2
    exact ⟨h2.len, h2.cap, h2.max, h2.nil, h2.ok, fun i hi => by obtain ⟨b, o, e, hb, r⟩ := h2.at' i hi; exact ⟨b, o, e, by subst hb; rfl, r⟩⟩
theorem Cs.news {w : World} {F : Nat → Prop} {n c : Nat} {xs : List Ins} {ad : Addr} (h : Cs w F (some ad) n c xs) : ∀ j u, (icL xs)[j]? = some u → w.cell? (ad.add j) = some u := by
  intro j u hj
  obtain ⟨h1, h2⟩ := icL_get hj
  obtain ⟨b, o, e, _, r0, r1, r2, r3, r4⟩ := h.at' (j / 5) (by rw [← h.len]; exact h1)
  injection e with e
  subst e
  have hm : j % 5 < 5 := Nat.mod_lt _ (by decide)
  rw [add_none, show o + j = o + j / 5 * 5 + j % 5 by omega]
  generalize j % 5 = t at hm h2 ⊢
  have ht : t = 0 ∨ t = 1 ∨ t = 2 ∨ t = 3 ∨ t = 4 := by omega
  rcases ht with rfl | rfl | rfl | rfl | rfl
  · rw [← h2]; exact r0
  · rw [← h2]; exact r1
  · rw [← h2]; exact r2
  · rw [← h2]; exact r3
  · rw [← h2]; exact r4
theorem Cs.at5 {w : World} {F : Nat → Prop} {p : Option Addr} {n c : Nat} {xs : List Ins} (h : Cs w F p n c xs) {i : Nat} (hi : i < n) : Here w p i (xs.getD i ins0).o (xs.getD i ins0).a (xs.getD i ins0).b (xs.getD i ins0).c (xs.getD i ins0).n := by
  obtain ⟨b, o, e, _, r⟩ := h.at' i hi
  exact ⟨b, o, e, r⟩
theorem Cs.okAt {w : World} {F : Nat → Prop} {p : Option Addr} {n c : Nat} {xs : List Ins} (h : Cs w F p n c xs) {i : Nat} (hi : i < n) : (xs.getD i ins0).ok :=
  h.ok _ (by rw [List.getD_eq_getElem?_getD, List.getElem?_eq_getElem (by rw [h.len]; exact hi)]; exact List.getElem_mem _)
theorem Cs.mono {w : World} {F G : Nat → Prop} {p : Option Addr} {n c : Nat} {xs : List Ins} (h : Cs w F p n c xs) (hF : ∀ k, F k → G k) : Cs w G p n c xs :=
  ⟨h.len, h.cap, h.max, h.nil, h.ok, fun i hi => by obtain ⟨b, o, e, hb, r⟩ := h.at' i hi; exact ⟨b, o, e, hF b hb, r⟩⟩

end Go.Proofs.YtijeaonldhccmaaDoor
