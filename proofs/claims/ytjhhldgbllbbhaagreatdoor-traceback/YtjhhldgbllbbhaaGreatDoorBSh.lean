/-
  The law's short, sharply: where every Data is of at most 16 words, it is true just if the events and their words are at most 5000.
-/
import Derived.Test.YtjhhldgbllbbhaaGreatDoorVEv
import Derived.Test.YtjhhldgbllbbhaaGreatDoorBPutL
namespace Go.Proofs.YtjhhldgbllbbhaaGreatDoor
open Go.RowKit
set_option linter.unusedVariables false
set_option linter.unusedSimpArgs false
set_option maxRecDepth 100000

theorem wds_next {xs : List Ev} {k : Nat} {x : Ev} (hx : xs[k]? = some x) : wds (xs.take (k + 1)) = wds (xs.take k) + x.d.length := by
  induction xs generalizing k with
  | nil => cases hx
  | cons y ys ih =>
    cases k with
    | zero => cases hx; simp [wds]
    | succ k =>
      have := ih (k := k) (by simpa using hx)
      simp only [List.take_succ_cons, wds, List.map_cons, List.sum_cons] at this ⊢
      omega
theorem wds_le {xs : List Ev} (h : ∀ x ∈ xs, x.d.length ≤ 16) : wds xs ≤ 16 * xs.length := by
  induction xs with
  | nil => simp [wds]
  | cons y ys ih =>
    have h1 := ih (fun x hx => h x (List.mem_cons_of_mem _ hx))
    have h2 := h y (List.mem_cons_self ..)
    simp only [wds, List.length_cons, List.map_cons, List.sum_cons] at *
    omega
/-- what short tells: nothing is known where an event is long; else, that there are few -/
def ShortB (xs : List Ev) (r : Ending) : Prop := ∃ v, r = .returned (.bool v) ∧ ((∀ x ∈ xs, x.d.length ≤ 16) → v = true → xs.length + wds xs ≤ 5000)
set_option maxHeartbeats 4000000 in
theorem shortS_any {F : Nat → Prop} {a : Option Addr} {n c : Nat} {xs : List Ev} (w : World) (hl : Il w F a n c xs) (hb : n * 72 ≤ 140737488351232) :
    Calls Tryz.prog 4 #[.slice a n c] w fun r w' => ShortB xs r ∧ Kept No w w' := by
  have hlc := hl.cap
  have hlm := hl.max
  have hlen := hl.len
  have HL := hid hl
  clear hl
  go_enter Tryz.func4, Tryz.ntmps4
  go_upto_region 3 with fail
  go_wp2
  go_loopw [3, 4] (fun u3 u4 wr => ∃ (k : Nat) (Z : Int), k ≤ n ∧ u3 = .int .i64 Z ∧ u4 = .int .i64 k ∧ Hid ((∀ x ∈ xs, x.d.length ≤ 16) → Z = (n : Int) + (wds (xs.take k) : Int)) ∧ Kept No w wr) (fun _ u4 _ => n - (intOf u4).toNat)
  case atStart => exact ⟨0, _, by omega, rfl, rfl, fun _ => by simp [wds], Kept.refl _ _⟩
  case round =>
    obtain ⟨k, Z, hk, rfl, rfl, HZ, kr⟩ := hrel
    by_cases hlt : k < n
    · have hltz : (k : Int) < (n : Int) := by omega
      obtain ⟨x, hx⟩ : ∃ x, xs[k]? = some x := ⟨_, List.getElem?_eq_getElem (by omega)⟩
      obtain ⟨b, o, da, dc, rfl, _, hc, ir⟩ := HL.out.at' k x hx
      have c6 : wr.cell? ⟨b, o + k * 7 + 6, none⟩ = some (.slice da x.d.length dc) := kr.cell (hc 6 _ rfl) (fun e => e)
      have q1 := ir.zs.cap
      have q2 := ir.zs.max
      have HK := hid kr
      have HN : Hid ((∀ x ∈ xs, x.d.length ≤ 16) → wrap64 (Z + (x.d.length : Int)) = (n : Int) + (wds (xs.take (k + 1)) : Int)) := fun h => by
        have e1 := HZ.out h
        have e2 := wds_next hx
        have e3 := wds_le (xs := xs.take (k + 1)) (fun x hx => h x (List.mem_of_mem_take hx))
        have e4 : (xs.take (k + 1)).length ≤ n := by rw [List.length_take]; omega
        rw [e1, show wrap64 ((n : Int) + (wds (xs.take k) : Int) + (x.d.length : Int)) = (n : Int) + (wds (xs.take k) : Int) + (x.d.length : Int) from by unfold wrap64; omega]
        omega
      clear kr hc ir hx
      generalize x.d.length = dn at *
      go_wp2
      refine ⟨⟨k + 1, _, by omega, rfl, by go_num, ?_, HK.out⟩, ?_⟩
      · exact HN
      · simp [intOf]; omega
    · have hltz : ¬ (k : Int) < (n : Int) := by omega
      have HK := hid kr
      clear kr
      have HE : Hid ((∀ x ∈ xs, x.d.length ≤ 16) → decide (Z ≤ 5000) = true → xs.length + wds xs ≤ 5000) := fun h hd => by
        have e1 := HZ.out h
        rw [List.take_of_length_le (by omega)] at e1
        have := of_decide_eq_true hd
        omega
      go_wp2
      go_ret
      exact ⟨⟨_, rfl, HE.out⟩, HK.out⟩
end Go.Proofs.YtjhhldgbllbbhaaGreatDoor
