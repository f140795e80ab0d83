/-
  Lists of servers in blocks of one's own.
-/
import Derived.Test.YtkjnhhoniodbcaaGreatDoorCHyp
namespace Go.Proofs.YtkjnhhoniodbcaaGreatDoor
open Go.RowKit Plain
set_option linter.unusedVariables false
set_option linter.unusedSimpArgs false
set_option maxRecDepth 100000

/-- cells of a block by a function -/
def Mf (w : World) (g N : Nat) (f : Nat → Srv) : Prop :=
  ∀ i, i < N → w.cell? ⟨g, i * 4, none⟩ = some (.int .i64 (f i).p) ∧ w.cell? ⟨g, i * 4 + 1, none⟩ = some (.int .i64 (f i).b) ∧ w.cell? ⟨g, i * 4 + 2, none⟩ = some (.int .i64 (f i).o) ∧ w.cell? ⟨g, i * 4 + 3, none⟩ = some (.int .i64 (f i).q)
def Fz (w : World) (g : Nat) : Prop := ∀ i, w.frozen? ⟨g, i, none⟩ = false
theorem Mf.kept {w w' : World} {g N : Nat} {f : Nat → Srv} {G : Nat → Prop} (h : Mf w g N f) (k : Kept G w w') (hg : ¬ G g) : Mf w' g N f := fun i hi => by
  obtain ⟨h0, h1, h2, h3⟩ := h i hi
  exact ⟨k.cell h0 hg, k.cell h1 hg, k.cell h2 hg, k.cell h3 hg⟩
theorem Mf.sv {w : World} {g N : Nat} {f : Nat → Srv} (h : Mf w g N f) (n c : Nat) (hn : n ≤ N) (hc : n ≤ c) (hm : c ≤ 9223372036854775807) (hok : ∀ i, i < n → (f i).ok) : Sv w (fun b => b = g) (some ⟨g, 0, none⟩) n c ((List.range n).map f) :=
  ⟨by simp, hc, hm, fun e => (by cases e), fun i x hx => by
    have hi : i < n := by
      apply Decidable.byContradiction
      intro hn
      rw [List.getElem?_eq_none (by simp; omega)] at hx
      cases hx
    rw [List.getElem?_map, List.getElem?_range hi] at hx
    simp at hx
    subst hx
    obtain ⟨h0, h1, h2, h3⟩ := h i (by omega)
    exact ⟨hok i hi, g, 0, rfl, rfl, by rw [Nat.zero_add]; exact h0, by rw [Nat.zero_add]; exact h1, by rw [Nat.zero_add]; exact h2, by rw [Nat.zero_add]; exact h3⟩⟩
theorem Sv.eq {w : World} {F : Nat → Prop} {a : Option Addr} {n c : Nat} {xs : List Srv} (h : Sv w F a n c xs) : xs = (List.range n).map (fun i => xs.getD i ⟨0, 0, 0, 0⟩) := by
  apply List.ext_getElem?
  intro i
  by_cases hi : i < n
  · rw [List.getElem?_map, List.getElem?_range hi, List.getElem?_eq_getElem (by rw [h.len]; exact hi)]
    simp [h.len, hi]
  · rw [List.getElem?_eq_none (by rw [h.len]; omega), List.getElem?_eq_none (by simp; omega)]
theorem Sv.ok {w : World} {F : Nat → Prop} {a : Option Addr} {n c : Nat} {xs : List Srv} (h : Sv w F a n c xs) (i : Nat) (hi : i < n) : (xs.getD i ⟨0, 0, 0, 0⟩).ok :=
  (h.at' i _ (by rw [List.getD, List.getElem?_eq_getElem (by rw [h.len]; exact hi)]; rfl)).1

/-- the cells of a list, one behind the other -/
def fl : List Srv → List Value
  | [] => []
  | x :: r => .int .i64 x.p :: .int .i64 x.b :: .int .i64 x.o :: .int .i64 x.q :: fl r
theorem fl_len : ∀ xs : List Srv, (fl xs).length = xs.length * 4
  | [] => rfl
  | x :: r => by simp only [fl, List.length_cons, fl_len r]; omega
theorem fl_app : ∀ xs ys : List Srv, fl (xs ++ ys) = fl xs ++ fl ys
  | [], ys => rfl
  | x :: r, ys => by simp only [fl, List.cons_append, fl_app r ys]
theorem fl_one : ∀ xs : List Srv, ∀ u ∈ fl xs, u.oneCell' = true
  | [], u, h => by cases h
  | x :: r, u, h => by
    simp only [fl, List.mem_cons] at h
    rcases h with rfl | rfl | rfl | rfl | h
    · rfl
    · rfl
    · rfl
    · rfl
    · exact fl_one r u h
theorem fl_get : ∀ (xs : List Srv) (i : Nat) (x : Srv), xs[i]? = some x → (fl xs)[i * 4]? = some (.int .i64 x.p) ∧ (fl xs)[i * 4 + 1]? = some (.int .i64 x.b) ∧ (fl xs)[i * 4 + 2]? = some (.int .i64 x.o) ∧ (fl xs)[i * 4 + 3]? = some (.int .i64 x.q)
  | [], i, x, h => by cases h
  | y :: r, 0, x, h => by simp at h; subst h; exact ⟨rfl, rfl, rfl, rfl⟩
  | y :: r, i + 1, x, h => by
    obtain ⟨h0, h1, h2, h3⟩ := fl_get r i x (by simpa using h)
    rw [show (i + 1) * 4 = i * 4 + 4 by omega]
    exact ⟨h0, h1, h2, h3⟩
theorem Sv.news {w : World} {F : Nat → Prop} {ad : Addr} {n c : Nat} {xs : List Srv} (h : Sv w F (some ad) n c xs) : ∀ j u, (fl xs)[j]? = some u → w.cell? (ad.add j) = some u := by
  intro j u hj
  have hlt : j < xs.length * 4 := by
    rw [← fl_len]
    exact (List.getElem?_eq_some_iff.1 hj).1
  obtain ⟨x, hx⟩ : ∃ x, xs[j / 4]? = some x := ⟨_, List.getElem?_eq_getElem (by omega)⟩
  obtain ⟨g0, g1, g2, g3⟩ := fl_get xs (j / 4) x hx
  obtain ⟨_, b, o, e, _, c0, c1, c2, c3⟩ := h.at' (j / 4) x hx
  simp only [Option.some.injEq] at e
  subst e
  rw [add_none]
  have h4 : j % 4 < 4 := Nat.mod_lt _ (by omega)
  rcases (by omega : j % 4 = 0 ∨ j % 4 = 1 ∨ j % 4 = 2 ∨ j % 4 = 3) with h4 | h4 | h4 | h4
  · rw [show j = j / 4 * 4 by omega] at hj; rw [g0] at hj; rw [show o + j = o + j / 4 * 4 by omega, c0]; exact hj
  · rw [show j = j / 4 * 4 + 1 by omega] at hj; rw [g1] at hj; rw [show o + j = o + j / 4 * 4 + 1 by omega, c1]; exact hj
  · rw [show j = j / 4 * 4 + 2 by omega] at hj; rw [g2] at hj; rw [show o + j = o + j / 4 * 4 + 2 by omega, c2]; exact hj
  · rw [show j = j / 4 * 4 + 3 by omega] at hj; rw [g3] at hj; rw [show o + j = o + j / 4 * 4 + 3 by omega, c3]; exact hj

theorem Tryz.infoS : (Tryz.prog.info? 43).map (fun i => (i.zero, i.size, i.bytes)) = some (some (.agg #[.int .i64 0, .int .i64 0, .int .i64 0, .int .i64 0]), 4, 32) := by kernel_rfl

/-- an owned row of servers, as cells -/
theorem own_mf {w : World} {B : Nat} {v : Value} {N : Nat} {xs : List Srv} (h : w.ownsRow B 43 4 v N (fl xs)) (hl : xs.length = N) :
    (v = .slice none 0 0 ∧ N = 0) ∨ ∃ g cap, v = .slice (some ⟨g, 0, none⟩) N cap ∧ B ≤ g ∧ g < w.heap.size ∧ N ≤ cap ∧ cap ≤ 9223372036854775807 ∧ Mf w g N (fun i => xs.getD i ⟨0, 0, 0, 0⟩) ∧ Fz w g := by
  have hc := h
  obtain ⟨_, h1 | ⟨g, cap, cur, rfl, hb, hg, hn, hm, _, _⟩⟩ := h
  · exact .inl h1
  · refine .inr ⟨g, cap, rfl, hb, (hc.lt g rfl).2, hn, Nat.le_trans hm (by unfold maxLen; omega), ?_, fun i => by simp [World.frozen?, hg]⟩
    intro i hi
    have hx : xs[i]? = some (xs.getD i ⟨0, 0, 0, 0⟩) := by rw [List.getD, List.getElem?_eq_getElem (by omega)]; rfl
    obtain ⟨g0, g1, g2, g3⟩ := fl_get xs i _ hx
    have key := hc.cells (g := g) rfl
    have k0 := key _ _ g0
    have k1 := key _ _ g1
    have k2 := key _ _ g2
    have k3 := key _ _ g3
    rw [add_none, Nat.zero_add] at k0 k1 k2 k3
    exact ⟨k0, k1, k2, k3⟩
theorem own_sv {w : World} {B : Nat} {v : Value} {N : Nat} {xs : List Srv} (h : w.ownsRow B 43 4 v N (fl xs)) (hl : xs.length = N) (hok : ∀ i, i < N → (xs.getD i ⟨0, 0, 0, 0⟩).ok) :
    ∃ a c, v = .slice a N c ∧ Sv w (fun g => v.ownBlock = some g) a N c xs := by
  rcases own_mf h hl with ⟨rfl, h0⟩ | ⟨g, cap, rfl, _, _, hn, hm, hf, _⟩
  · refine ⟨none, 0, by rw [h0], ⟨hl, by omega, by omega, fun _ => rfl, fun i x hx => ?_⟩⟩
    have := (List.getElem?_eq_some_iff.1 hx).1
    omega
  · refine ⟨_, cap, rfl, ?_⟩
    have h1 := hf.sv N cap (Nat.le_refl _) hn hm hok
    have h2 : xs = (List.range N).map (fun i => xs.getD i ⟨0, 0, 0, 0⟩) := by
      apply List.ext_getElem?
      intro i
      by_cases hi : i < N
      · rw [List.getElem?_map, List.getElem?_range hi, List.getElem?_eq_getElem (by omega)]
        simp [hl, hi]
      · rw [List.getElem?_eq_none (by omega), List.getElem?_eq_none (by simp; omega)]
    rw [← h2] at h1
    exact ⟨h1.len, h1.cap, h1.max, h1.nil, fun i x hx => by
      obtain ⟨ok, b, o, e, hb, r⟩ := h1.at' i x hx
      exact ⟨ok, b, o, e, by rw [hb]; rfl, r⟩⟩

theorem made0 (w : World) : (w.alloc (.cells #[] 43)).ownsRow w.heap.size 43 4 (.slice (some ⟨w.heap.size, 0, none⟩) 0 0) 0 [] := World.ownsRow_made w #[] 0 (Nat.le_refl _) (by unfold maxLen; omega) rfl
theorem cell_four (w : World) (x : Srv) (t : TypeId) : ∀ j u, (fl [x])[j]? = some u → (w.alloc (.cells #[.int .i64 x.p, .int .i64 x.b, .int .i64 x.o, .int .i64 x.q] t)).cell? (Addr.add ⟨w.heap.size, 0, none⟩ j) = some u := by
  intro j u hj
  match j, hj with
  | 0, hj => simp [fl] at hj; subst hj; simp [Addr.add]
  | 1, hj => simp [fl] at hj; subst hj; simp [Addr.add]
  | 2, hj => simp [fl] at hj; subst hj; simp [Addr.add]
  | 3, hj => simp [fl] at hj; subst hj; simp [Addr.add]
  | j + 4, hj => simp [fl] at hj
end Go.Proofs.YtkjnhhoniodbcaaGreatDoor
