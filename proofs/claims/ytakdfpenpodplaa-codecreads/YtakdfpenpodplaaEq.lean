/-
  bytes.Equal.
-/
import Derived.Test.YtakdfpenpodplaaSame
import Derived.Laws.BytesArg
namespace Go.Proofs.Ytakdfpenpodplaa
open Go.RowKit
set_option linter.unusedVariables false

def ints (xs : List Nat) : List Int := xs.map Int.ofNat
theorem ints_getD (xs : List Nat) (i : Nat) : (ints xs).getD i 0 = ((xs.getD i 0 : Nat) : Int) := by
  unfold ints
  simp only [List.getD, List.getElem?_map]
  cases xs[i]? <;> rfl

theorem strOf_inj {xs ys : List Nat} (hx : ∀ x ∈ xs, x < 256) (hy : ∀ x ∈ ys, x < 256) (h : (ints xs).map (fun n => UInt8.ofNat n.toNat) = (ints ys).map (fun n => UInt8.ofNat n.toNat)) : xs = ys := by
  have e : ∀ l : List Nat, (∀ x ∈ l, x < 256) → ((ints l).map (fun n => UInt8.ofNat n.toNat)).map UInt8.toNat = l := by
    intro l hl
    unfold ints
    rw [List.map_map, List.map_map]
    have : l.map ((UInt8.toNat ∘ (fun n : Int => UInt8.ofNat n.toNat)) ∘ Int.ofNat) = l.map id := by
      apply List.map_congr_left
      intro x hxl
      simp
      exact hl x hxl
    rw [this, List.map_id]
  rw [← e xs hx, ← e ys hy, h]

theorem conv_any {w : World} {F : Nat → Prop} {a : Option Addr} {n c : Nat} {xs : List Nat} (h : Bs w F a n c xs) : (convert 22 9 (.slice a n c)).run Try.prog w = .ok (.string (strOfNums (ints xs))) w := by
  rcases Nat.eq_zero_or_pos n with hn | hn
  · subst hn
    obtain rfl : xs = [] := List.eq_nil_of_length_eq_zero h.len
    rw [run_convert_bytes_string w 22 9 5 _ 0 c Try.underlying22 Try.underlying5 Try.underlying9]
    have e : strOfNums (ints []) = ByteArray.empty := by unfold strOfNums ints; simp; rfl
    rw [e]
    cases a <;> simp [Conv.bytesToString, loadCells, loadCellsFrom]
  · obtain ⟨b, o, rfl, _⟩ := h.at' 0 hn
    refine run_convert_bytes_arg (P := Try.prog) w 22 5 Try.underlying22 Try.underlying5 b o n c (ints xs) (by unfold ints; rw [List.length_map, h.len]) (fun i hi => ?_) 9 Try.underlying9
    obtain ⟨b', o', e, _, hc⟩ := h.at' i hi
    simp only [Option.some.injEq, Addr.mk.injEq] at e
    obtain ⟨rfl, rfl, _⟩ := e
    rw [hc, ints_getD]; rfl

theorem eq_of_toList {a b : ByteArray} (h : (a.toList == b.toList) = true) : a.data.toList = b.data.toList := by
  rw [ByteArray.toList_eq, ByteArray.toList_eq] at h
  simpa using h

theorem equal_any (F G : Nat → Prop) (a a' : Option Addr) (n n' c c' : Nat) (xs ys : List Nat) (w : World) (hx : Bs w F a n c xs) (hy : Bs w G a' n' c' ys) :
    Calls Try.prog 51 #[.slice a n c, .slice a' n' c'] w fun ex w' => ex = .returned (.bool (decide (xs = ys))) ∧ w' = w := by
  have h1 := conv_any hx
  have h2 := conv_any hy
  have hi := fun h => strOf_inj hx.lt hy.lt h
  clear hx hy
  go_enter Try.func51, Try.ntmps51
  go_wp2
  go_ret
  refine ⟨?_, rfl⟩
  have e : ((strOfNums (ints xs)).toList == (strOfNums (ints ys)).toList) = decide (xs = ys) := by
    by_cases h : xs = ys
    · subst h; simp
    · rw [decide_eq_false h]
      cases hb : ((strOfNums (ints xs)).toList == (strOfNums (ints ys)).toList) with
      | false => rfl
      | true => exact absurd (hi (by have := eq_of_toList hb; rwa [strOfNums_data, strOfNums_data] at this)) h
  rw [← e]
  rfl

end Go.Proofs.Ytakdfpenpodplaa
