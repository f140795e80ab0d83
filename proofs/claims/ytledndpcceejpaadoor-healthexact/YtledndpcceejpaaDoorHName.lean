/-
  health: names, tables, arguments; both.
-/
import Derived.Test.YtledndpcceejpaaDoorHRef
import Derived.LaidMore
namespace Go.Proofs.YtledndpcceejpaaDoor
open Go.RowKit
set_option linter.unusedVariables false
set_option maxRecDepth 100000

def nms : List (List UInt8) := [[], [105, 108, 108, 101, 103, 97, 108], [109, 101, 109, 111, 114, 121], [100, 105, 118, 105, 100, 101], [99, 111, 100, 101], [115, 101, 114, 118, 105, 99, 101], [114, 97, 105, 115, 101, 100], [109, 105, 115, 115]]
def nmB (k : Nat) : ByteArray := ⟨(nms.getD k []).toArray⟩
/-- the variable holds the names -/
def Nm (w : World) : Prop := ∀ i, i < 8 → w.cell? ⟨0, i, none⟩ = some (.string (nmB i))
theorem Nm.keep {w w' : World} (h : Nm w) (k : Kept No w w') : Nm w' := fun i hi => k.cell (h i hi) (fun e => e)
def nmS (k : Int) : ByteArray := if inB k 1 7 = true then nmB k.toNat else ⟨#[]⟩
theorem name_any (k : Int) (w : World) (hO : Nm w) : Calls Tryd.prog 10 #[.int .i64 k] w fun e w' => e = .returned (.tuple #[.string (nmS k), .bool (inB k 1 7)]) ∧ w' = w := by
  have q := fun W => isKind_any k W
  cases hb : inB k 1 7
  · rw [hb] at q
    rw [show nmS k = ⟨#[]⟩ by unfold nmS; rw [hb]; rfl]
    clear hb
    go_enter Tryd.func10, Tryd.ntmps10
    go_wp2_with (go_at_call 16; refine (q _).mono ?_; rintro e w' ⟨rfl, e1⟩; subst e1)
    go_ret2
    exact ⟨rfl, rfl⟩
  · rw [hb] at q
    have hk : 1 ≤ k ∧ k ≤ 7 := by simp [inB] at hb; exact hb
    obtain ⟨j, ej⟩ : ∃ j : Nat, k = j := ⟨k.toNat, by omega⟩
    subst ej
    have hj8 : j < 8 := by omega
    rw [show nmS j = nmB j by unfold nmS; rw [hb, if_pos rfl, Int.toNat_natCast]]
    have c := hO j hj8
    clear hb hO hk
    generalize nmB j = s at *
    go_enter Tryd.func10, Tryd.ntmps10
    go_wp2_with (go_at_call 16; refine (q _).mono ?_; rintro e w' ⟨rfl, e1⟩; subst e1)
    go_ret2
    exact ⟨rfl, rfl⟩
theorem rname_any (k : Int) (w : World) : Calls Tryd.prog 11 #[.int .i64 k] w fun e w' => e = .returned (.tuple #[.string (nmS k), .bool (inB k 1 7)]) ∧ w' = w := by
  by_cases hk : 1 ≤ k ∧ k ≤ 7
  · have : k = 1 ∨ k = 2 ∨ k = 3 ∨ k = 4 ∨ k = 5 ∨ k = 6 ∨ k = 7 := by omega
    rcases this with e | e | e | e | e | e | e
    all_goals
      subst e
      go_enter Tryd.func11, Tryd.ntmps11
      go_wp2
      go_ret2
      exact ⟨rfl, rfl⟩
  · have hb : inB k 1 7 = false := by simp [inB]; omega
    rw [show nmS k = ⟨#[]⟩ by unfold nmS; rw [hb]; rfl, hb]
    have e1 : (k == 1) = false := by simp; omega
    have e2 : (k == 2) = false := by simp; omega
    have e3 : (k == 3) = false := by simp; omega
    have e4 : (k == 4) = false := by simp; omega
    have e5 : (k == 5) = false := by simp; omega
    have e6 : (k == 6) = false := by simp; omega
    have e7 : (k == 7) = false := by simp; omega
    clear hk hb
    go_enter Tryd.func11, Tryd.ntmps11
    go_wp2
    go_ret2
    exact ⟨rfl, rfl⟩
theorem rargs_any (k p c : Int) (w : World) : Calls Tryd.prog 15 #[.int .i64 k, .int .i64 p, .int .i64 c] w fun e w' => e = .returned (.agg #[.int .i64 k, .int .i64 p, .int .i64 (if k = 7 then -1 else c)]) ∧ Kept No w w' := by
  have HK : Hid (∀ o, Kept No w (w.alloc o)) := fun o => (Kept.refl No w).alloc _
  by_cases h3 : k = 7
  · rw [if_pos h3]
    subst h3
    go_enter Tryd.func15, Tryd.ntmps15
    go_wp2
    refine bodyPost_ret (results_cell_row rfl _ _ w.heap.size 48 _ _ _ rfl (heap_alloc_new _ _) Tryd.underlying48 rfl Tryd.info3) rfl ?_
    exact ⟨rfl, HK.out _⟩
  · rw [if_neg h3]
    have h3' : (k == 7) = false := by simp [h3]
    clear h3
    go_enter Tryd.func15, Tryd.ntmps15
    go_wp2
    refine bodyPost_ret (results_cell_row rfl _ _ w.heap.size 48 _ _ _ rfl (heap_alloc_new _ _) Tryd.underlying48 rfl Tryd.info3) rfl ?_
    exact ⟨rfl, HK.out _⟩
theorem rgoes_any (a q p : Int) (w : World) : Calls Tryd.prog 9 #[vd a q, .int .i64 p] w fun e w' => e = .returned (.tuple #[.bool (goB a q p), .bool (enB a)]) ∧ Kept No w w' := by
  have HK : Hid (∀ o, Kept No w (w.alloc o)) := fun o => (Kept.refl No w).alloc _
  unfold vd
  by_cases h0 : a = 0
  · subst h0
    go_enter Tryd.func9, Tryd.ntmps9
    go_wp2
    go_ret2
    exact ⟨rfl, HK.out _⟩
  by_cases h3 : a = 3
  · subst h3
    clear h0
    go_enter Tryd.func9, Tryd.ntmps9
    go_wp2
    go_ret2
    exact ⟨rfl, HK.out _⟩
  by_cases h1 : a = 1
  · subst h1
    clear h0 h3
    by_cases hq : q = p
    · subst hq
      rw [show goB 1 q q = false by simp [goB], show enB 1 = false from rfl]
      go_enter Tryd.func9, Tryd.ntmps9
      go_wp2
      go_ret2
      exact ⟨rfl, HK.out _⟩
    · have hq' : (q == p) = false := by simp [hq]
      rw [show goB 1 q p = true by simp [goB, hq], show enB 1 = false from rfl]
      clear hq
      go_enter Tryd.func9, Tryd.ntmps9
      go_wp2
      go_ret2
      exact ⟨by simp [bne, hq'], HK.out _⟩
  by_cases h2 : a = 2
  · subst h2
    clear h0 h3 h1
    by_cases hq : q = p
    · subst hq
      rw [show goB 2 q q = false by simp [goB], show enB 2 = false from rfl]
      go_enter Tryd.func9, Tryd.ntmps9
      go_wp2
      go_ret2
      exact ⟨rfl, HK.out _⟩
    · have hq' : (q == p) = false := by simp [hq]
      rw [show goB 2 q p = true by simp [goB, hq], show enB 2 = false from rfl]
      clear hq
      go_enter Tryd.func9, Tryd.ntmps9
      go_wp2
      go_ret2
      exact ⟨by simp [bne, hq'], HK.out _⟩
  by_cases h4 : a = 4
  · subst h4
    clear h0 h3 h1 h2
    go_enter Tryd.func9, Tryd.ntmps9
    go_wp2
    go_ret2
    exact ⟨rfl, HK.out _⟩
  by_cases h5 : a = 5
  · subst h5
    clear h0 h3 h1 h2 h4
    go_enter Tryd.func9, Tryd.ntmps9
    go_wp2
    go_ret2
    exact ⟨rfl, HK.out _⟩
  have e0 : (a == 0) = false := by simp [h0]
  have e1 : (a == 1) = false := by simp [h1]
  have e2 : (a == 2) = false := by simp [h2]
  have e3 : (a == 3) = false := by simp [h3]
  have e4 : (a == 4) = false := by simp [h4]
  have e5 : (a == 5) = false := by simp [h5]
  rw [show goB a q p = false by simp [goB, *], show enB a = false by simp [enB, *]]
  clear h0 h1 h2 h3 h4 h5
  go_enter Tryd.func9, Tryd.ntmps9
  go_wp2
  go_ret2
  exact ⟨rfl, HK.out _⟩
end Go.Proofs.YtledndpcceejpaaDoor
