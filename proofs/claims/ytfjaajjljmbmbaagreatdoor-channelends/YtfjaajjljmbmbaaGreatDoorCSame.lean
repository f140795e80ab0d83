/-
  sameInts of two lists.
-/
import Derived.Test.YtfjaajjljmbmbaaGreatDoorCOwn
import Derived.BigQuiet
namespace Go.Proofs.YtfjaajjljmbmbaaGreatDoor
open Go.RowKit
set_option linter.unusedVariables false
set_option maxRecDepth 100000

theorem eq_of_all {xs ys : List Int} (hl : xs.length = ys.length) (h : ∀ j, j < xs.length → xs.getD j 0 = ys.getD j 0) : xs = ys := by
  apply List.ext_getElem?
  intro i
  by_cases hi : i < xs.length
  · have := h i hi
    simp [List.getD, hi, show i < ys.length by omega] at this
    rw [List.getElem?_eq_getElem hi, List.getElem?_eq_getElem (by omega), this]
  · rw [List.getElem?_eq_none (by omega), List.getElem?_eq_none (by omega)]

set_option maxHeartbeats 2000000 in
theorem sameI_any {F G : Nat → Prop} {a a' : Option Addr} {n c m c' : Nat} {xs ys : List Int} (w : World) (h : Zs w F a n c xs) (h' : Zs w G a' m c' ys) :
    Calls Tryz.prog 16 #[.slice a n c, .slice a' m c'] w fun e w' => e = .returned (.bool (decide (xs = ys))) ∧ Kept No w w' := by
  have hl := h.len
  have hl' := h'.len
  have hm := h.max
  have hm' := h'.max
  have hc := h.cap
  have hc' := h'.cap
  by_cases hne : n = m
  · subst hne
    obtain ⟨V, hV⟩ : ∃ V, V = decide (xs = ys) := ⟨_, rfl⟩
    rw [← hV]
    have HV := hid hV
    have HZ : Hid (Zs w F a n c xs ∧ Zs w G a' n c' ys) := ⟨h, h'⟩
    clear hV h h'
    go_enter Tryz.func16, Tryz.ntmps16
    go_wp2
    go_loopw [5] (fun i wr => ∃ k : Nat, k ≤ n ∧ i = .int .i64 k ∧ Kept No w wr ∧ ∀ j, j < k → xs.getD j 0 = ys.getD j 0) (fun i _ => n - (intOf i).toNat)
    case atStart => exact ⟨0, by omega, rfl, Kept.refl _ _, fun j hj => absurd hj (Nat.not_lt_zero _)⟩
    case round =>
      obtain ⟨k, hk, rfl, K, hb⟩ := hrel
      by_cases hlt : k < n
      · obtain ⟨b, o, rfl, _, d⟩ := HZ.out.1.at' k hlt
        obtain ⟨b', o', rfl, _, d'⟩ := HZ.out.2.at' k hlt
        have e := K.cell d (fun h => h)
        have e' := K.cell d' (fun h => h)
        have HK : Hid (Kept No w wr ∧ ∀ j, j < k → xs.getD j 0 = ys.getD j 0) := ⟨K, hb⟩
        obtain ⟨A, hA⟩ : ∃ A, xs.getD k 0 = A := ⟨_, rfl⟩
        obtain ⟨A', hA'⟩ : ∃ A, ys.getD k 0 = A := ⟨_, rfl⟩
        have HA : Hid (xs.getD k 0 = A ∧ ys.getD k 0 = A') := ⟨hA, hA'⟩
        rw [hA] at e
        rw [hA'] at e'
        unfold iv at e e'
        clear d d' K hb hA hA'
        by_cases hq : A = A'
        · subst hq
          go_wp2
          go_quiet (fail)
          go_wp2
          go_roundw
          case rel =>
            refine ⟨k + 1, by omega, by go_num, by first | exact HK.out.1 | exact HK.out.1.drew | exact HK.out.1.drewN _, fun j hj => ?_⟩
            by_cases ej : j = k
            · subst ej; rw [HA.out.1, HA.out.2]
            · exact HK.out.2 j (by omega)
          case measure => simp [intOf]; omega
        · have hq' : (A != A') = true := by simp [hq]
          go_wp2
          go_quiet (fail)
          go_wp2
          go_ret
          refine ⟨?_, by first | exact HK.out.1 | exact HK.out.1.drew | exact HK.out.1.drewN _⟩
          have : V = false := by
            rw [HV.out]
            apply decide_eq_false
            intro e
            apply hq
            rw [← HA.out.1, ← HA.out.2, e]
          rw [this]; rfl
      · have hkn : k = n := by omega
        subst hkn
        go_wp2
        go_ret
        refine ⟨?_, K⟩
        have : V = true := by
          rw [HV.out]
          exact decide_eq_true (eq_of_all (by omega) (fun j hj => hb j (by omega)))
        rw [this]; rfl
  · have hd : decide (xs = ys) = false := decide_eq_false (fun e => hne (by rw [← hl, ← hl', e]))
    rw [hd]
    have hz : ¬ (n : Int) = (m : Int) := by omega
    go_enter Tryz.func16, Tryz.ntmps16
    go_wp2
    go_ret
    exact ⟨rfl, Kept.refl _ _⟩
theorem Hd.zs {w : World} {g cap : Nat} {zs : List Int} (h : Hd w g zs) (hc : zs.length ≤ cap) (hm : cap ≤ 9223372036854775807) : Zs w (fun k => k = g) (some ⟨g, 0, none⟩) zs.length cap zs :=
  ⟨rfl, hc, hm, fun h => (by cases h), fun i hi => ⟨g, 0, rfl, rfl, by rw [Nat.zero_add]; exact h.cell hi⟩⟩
end Go.Proofs.YtfjaajjljmbmbaaGreatDoor
