/-
  The law's small functions: where, same, works, ordered, kept.
-/
import Derived.Test.YteiakmjdjaodlaaRFairP
namespace Go.Proofs.Yteiakmjdjaodlaa
open Go.Shelf Go.RowKit Go.Lib Go.Sort
set_option linter.unusedVariables false
set_option maxRecDepth 100000

/-- an own row of numbers: its shape and its cells -/
theorem owns_ints {w : World} {B : Nat} {v : Value} {n : Nat} {xs : List Int} (h : w.ownsRow B 3 1 v n (xs.map iv)) : xs.length = n ∧ ∃ a c, v = .slice a n c ∧ n ≤ c ∧ c ≤ 9223372036854775807 ∧ ∀ j x, xs[j]? = some x → ∃ g, a = some ⟨g, 0, none⟩ ∧ w.cell? ⟨g, j, none⟩ = some (.int .i64 x) ∧ w.frozen? ⟨g, j, none⟩ = false := by
  have hl : xs.length = n := by have := h.1; simpa using this
  refine ⟨hl, ?_⟩
  rcases owns_cells h with ⟨rfl, h2⟩ | ⟨g, cap, rfl, _, _, h1, h2, h3, h4⟩
  · refine ⟨none, 0, by rw [h2], by omega, by omega, fun j x hx => ?_⟩
    have := (List.getElem?_eq_some_iff.1 hx).1
    omega
  · refine ⟨some ⟨g, 0, none⟩, cap, rfl, h1, h2, fun j x hx => ⟨g, rfl, h3 j (.int .i64 x) (by rw [List.getElem?_map, hx]; rfl), h4 j⟩⟩
theorem where_any (xs : List Int) (v : Value) (n : Nat) (w : World) (h : w.ownsRow 0 3 1 v n (xs.map iv)) (i : Int) : Calls Try.prog 12 #[v, .int .i64 i] w fun ex w' => ex = .returned (.int .i64 (whereI xs i)) ∧ w' = w := by
  obtain ⟨hl, a, c, rfl, h1, h2, h3⟩ := owns_ints h
  have HL : Hid (xs.length = n) := hl
  have H3 : Hid (∀ j x, xs[j]? = some x → ∃ g, a = some ⟨g, 0, none⟩ ∧ w.cell? ⟨g, j, none⟩ = some (.int .i64 x) ∧ w.frozen? ⟨g, j, none⟩ = false) := h3
  clear h hl h3
  go_enter Try.func12, Try.ntmps12
  go_wp2
  go_loopw [5] (fun d wr => ∃ j : Nat, j ≤ n ∧ d = .int .i64 j ∧ (∀ m, m < j → xs[m]? ≠ some i) ∧ wr = w) (fun d _ => n - (intOf d).toNat)
  case atStart => exact ⟨0, Nat.zero_le _, rfl, (fun m hm => by omega), rfl⟩
  case round =>
    obtain ⟨j, hj, rfl, hno, hwr⟩ := hrel
    obtain rfl := hwr.symm
    have HNO : Hid (∀ m, m < j → xs[m]? ≠ some i) := hno
    clear hno hwr
    by_cases hlt : j < n
    · obtain ⟨x, hx⟩ : ∃ x, xs[j]? = some x := ⟨_, List.getElem?_eq_getElem (by rw [HL.out]; exact hlt)⟩
      obtain ⟨g, rfl, r0, _⟩ := H3.out j x hx
      have HX : Hid (xs[j]? = some x) := hx
      clear hx
      by_cases hxi : x = i
      · subst hxi
        have HW : Hid (whereI xs x = j) := whereI_at HX.out HNO.out
        go_wp2
        go_ret
        exact ⟨by rw [HW.out]; rfl, rfl⟩
      · go_wp2
        go_roundw
        case rel =>
          refine ⟨j + 1, by omega, by go_num, fun m hm => ?_, by first | rfl | trivial⟩
          by_cases e : m = j
          · subst e; rw [HX.out]; intro e2; injection e2 with e2; exact hxi e2
          · exact HNO.out m (by omega)
        case measure => simp [intOf]; omega
    · have hjn : j = n := by omega
      subst hjn
      have HW : Hid (whereI xs i = -1) := whereI_no (fun m e => by
        by_cases hm : m < j
        · exact HNO.out m hm e
        · have := (List.getElem?_eq_some_iff.1 e).1
          rw [HL.out] at this
          exact hm this)
      go_wp2
      go_ret
      exact ⟨by rw [HW.out]; rfl, rfl⟩
theorem same_eq (xs : List Int) (u v : Value) (n : Nat) (w : World) (h : w.ownsRow 0 3 1 u n (xs.map iv)) (h' : w.ownsRow 0 3 1 v n (xs.map iv)) : Calls Try.prog 19 #[u, v] w fun ex w' => ex = .returned (.bool true) ∧ ∃ q, w' = w.drewN q := by
  obtain ⟨hl, a, c, rfl, h1, h2, h3⟩ := owns_ints h
  obtain ⟨_, a', c', rfl, h1', h2', h3'⟩ := owns_ints h'
  have HL : Hid (xs.length = n) := hl
  have H3 : Hid (∀ j x, xs[j]? = some x → ∃ g, a = some ⟨g, 0, none⟩ ∧ w.cell? ⟨g, j, none⟩ = some (.int .i64 x) ∧ w.frozen? ⟨g, j, none⟩ = false) := h3
  have H4 : Hid (∀ j x, xs[j]? = some x → ∃ g, a' = some ⟨g, 0, none⟩ ∧ w.cell? ⟨g, j, none⟩ = some (.int .i64 x) ∧ w.frozen? ⟨g, j, none⟩ = false) := h3'
  clear h h' hl h3 h3'
  go_enter Try.func19, Try.ntmps19
  go_wp2
  go_loopw [5] (fun d wr => ∃ j : Nat, j ≤ n ∧ d = .int .i64 j ∧ ∃ q, wr = w.drewN q) (fun d _ => n - (intOf d).toNat)
  case atStart => exact ⟨0, Nat.zero_le _, rfl, 0, rfl⟩
  case round =>
    obtain ⟨j, hj, rfl, q, hwr⟩ := hrel
    have HW : Hid (wr = w.drewN q) := hwr
    by_cases hlt : j < n
    · obtain ⟨x, hx⟩ : ∃ x, xs[j]? = some x := ⟨_, List.getElem?_eq_getElem (by rw [HL.out]; exact hlt)⟩
      obtain ⟨g, rfl, r0', _⟩ := H3.out j x hx
      obtain ⟨g', rfl, r1', _⟩ := H4.out j x hx
      have r0 : wr.cell? ⟨g, j, none⟩ = some (.int .i64 x) := by rw [hwr]; exact r0'
      have r1 : wr.cell? ⟨g', j, none⟩ = some (.int .i64 x) := by rw [hwr]; exact r1'
      clear hx r0' r1' hwr
      go_upto_region 6 with fail
      go_quiet (fail)
      go_wp2
      go_roundw
      case rel => exact ⟨j + 1, by omega, by go_num, _, by rw [HW.out, World.drewN_drewN]⟩
      case measure => simp [intOf]; omega
    · clear hwr
      go_wp2
      go_ret
      exact ⟨rfl, q, HW.out⟩
end Go.Proofs.Yteiakmjdjaodlaa
