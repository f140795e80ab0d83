/-
  Known, Name, Shape: the program's and the document's.
-/
import Derived.Test.YtijeaonldhccmaaDoorTab
import Derived.BigQuiet
namespace Go.Proofs.YtijeaonldhccmaaDoor
open Go.RowKit
set_option linter.unusedVariables false

def kn (o : Int) : Bool := decide (1 ≤ o ∧ o ≤ 27)
def nmV (o : Int) : ByteArray := if kn o then nmB o.toNat else ⟨#[]⟩
def shV (o : Int) : ByteArray := if kn o then shB o.toNat else ⟨#[]⟩
theorem kn_yes {k : Nat} (h : k < 27) : kn ((k : Int) + 1) = true := by unfold kn; simp; omega
theorem nm_yes {k : Nat} (h : k < 27) : nmV ((k : Int) + 1) = nmB (k + 1) := by unfold nmV; rw [kn_yes h, show ((k : Int) + 1).toNat = k + 1 by omega]; rfl
theorem sh_yes {k : Nat} (h : k < 27) : shV ((k : Int) + 1) = shB (k + 1) := by unfold shV; rw [kn_yes h, show ((k : Int) + 1).toNat = k + 1 by omega]; rfl
theorem kn_no {o : Int} (h : ¬ (1 ≤ o ∧ o ≤ 27)) : kn o = false := by unfold kn; simpa using h
theorem nm_no {o : Int} (h : ¬ (1 ≤ o ∧ o ≤ 27)) : nmV o = ⟨#[]⟩ := by unfold nmV; rw [kn_no h]; rfl
theorem sh_no {o : Int} (h : ¬ (1 ≤ o ∧ o ≤ 27)) : shV o = ⟨#[]⟩ := by unfold shV; rw [kn_no h]; rfl

theorem known_any (o : Int) (ho : 0 ≤ o ∧ o < 256) (w : World) :
    Calls Tryd.prog 69 #[.int .u8 o] w fun ex w' => ex = .returned (.bool (kn o)) ∧ w' = w := by
  obtain ⟨h0, h1⟩ := ho
  go_enter Tryd.func69, Tryd.ntmps69
  go_wp2
  all_goals
    go_ret
    refine ⟨?_, rfl⟩
    congr 2
    unfold kn
    symm
    simp
    omega

theorem refKnown_any (o : Int) (ho : 0 ≤ o ∧ o < 256) (w : World) :
    Calls Tryd.prog 84 #[.int .u8 o] w fun ex w' => ex = .returned (.bool (kn o)) ∧ w' = w := by
  obtain ⟨h0, h1⟩ := ho
  go_enter Tryd.func84, Tryd.ntmps84
  go_wp2
  all_goals
    go_ret
    refine ⟨?_, rfl⟩
    congr 2
    unfold kn
    symm
    simp
    omega

theorem shape_any (o : Int) (ho : 0 ≤ o ∧ o < 256) (w : World) (hO : Ops w) :
    Calls Tryd.prog 27 #[.int .u8 o] w fun ex w' => ex = .returned (.tuple #[.string (shV o), .bool (kn o)]) ∧ w' = w := by
  have c12 := fun w0 => known_any o ho w0
  by_cases hk : 1 ≤ o ∧ o ≤ 27
  · obtain ⟨k, rfl⟩ : ∃ k : Nat, o = (k : Int) + 1 := ⟨(o - 1).toNat, by omega⟩
    have hk2 : k < 27 := by omega
    obtain ⟨hc0, hc1⟩ := hO k hk2
    rw [sh_yes hk2]
    rw [kn_yes hk2] at c12 ⊢
    clear hO ho hk
    go_enter Tryd.func27, Tryd.ntmps27
    go_wp2_with (go_at_call 69; refine (c12 _).mono ?_; rintro ex w2 ⟨rfl, hw⟩; obtain rfl := hw.symm)
    go_ret2
    exact ⟨rfl, rfl⟩
  · rw [sh_no hk]
    rw [kn_no hk] at c12 ⊢
    clear hO ho hk
    go_enter Tryd.func27, Tryd.ntmps27
    go_wp2_with (go_at_call 69; refine (c12 _).mono ?_; rintro ex w2 ⟨rfl, hw⟩; obtain rfl := hw.symm)
    go_ret2
    exact ⟨rfl, rfl⟩

theorem shapes_arr : ((#[.string { data := #[] }, .string { data := #[] }, .string { data := #[97, 110] }, .string { data := #[97, 110] }, .string { data := #[97, 98] }, .string { data := #[97, 98, 110] }, .string { data := #[97, 98, 110] }, .string { data := #[97, 98, 99] }, .string { data := #[97, 98, 99] }, .string { data := #[97, 98, 99] }, .string { data := #[97, 98, 99] }, .string { data := #[97, 98, 99] }, .string { data := #[97, 98, 99] }, .string { data := #[97, 98, 99] }, .string { data := #[97, 98, 99] }, .string { data := #[97, 98, 99] }, .string { data := #[97, 98, 99] }, .string { data := #[97, 98, 99] }, .string { data := #[97, 98, 110] }, .string { data := #[97, 98, 99] }, .string { data := #[97, 98, 99] }, .string { data := #[97, 98, 99] }, .string { data := #[112] }, .string { data := #[97, 112] }, .string { data := #[97, 112] }, .string { data := #[97] }, .string { data := #[112] }, .string { data := #[110] }] : Array Value)) = ((List.range 28).map fun i => Value.string (shB i)).toArray := by rfl
theorem shapes_any (w : World) :
    Calls Tryd.prog 85 #[] w fun ex w' => ex = .returned (.slice (some ⟨w.heap.size, 0, none⟩) 28 28) ∧ Below w.heap.size w w' ∧ ∀ i, i < 28 → w'.cell? ⟨w.heap.size, i, none⟩ = some (.string (shB i)) := by
  go_enter Tryd.func85, Tryd.ntmps85
  go_wp2
  go_ret
  refine ⟨rfl, (Below.refl _ w).alloc (Nat.le_refl _) _, fun i hi => ?_⟩
  rw [shapes_arr]
  unfold World.cell?
  rw [heap_alloc_new]
  simp [hi]

theorem refShape_any (o : Int) (ho : 0 ≤ o ∧ o < 256) (w : World) :
    Calls Tryd.prog 73 #[.int .u8 o] w fun ex w' => ex = .returned (.tuple #[.string (shV o), .bool (kn o)]) ∧ Below w.heap.size w w' := by
  have c13 := fun w0 => refKnown_any o ho w0
  by_cases hk : 1 ≤ o ∧ o ≤ 27
  · obtain ⟨k, rfl⟩ : ∃ k : Nat, o = (k : Int) + 1 := ⟨(o - 1).toNat, by omega⟩
    have hk2 : k < 27 := by omega
    rw [sh_yes hk2]
    rw [kn_yes hk2] at c13 ⊢
    have c := shapes_any w
    clear ho hk
    go_enter Tryd.func73, Tryd.ntmps73
    go_wp2_with (first
      | (go_at_call 84; refine (c13 _).mono ?_; rintro ex w2 ⟨rfl, hw⟩; obtain rfl := hw.symm)
      | (go_at_call 85; refine c.mono ?_; rintro ex w2 ⟨rfl, bel, hcs⟩; have hc := hcs (k + 1) (by omega); have HB : Hid (Below w.heap.size w w2) := bel; clear bel hcs))
    go_ret2
    exact ⟨rfl, HB.out⟩
  · rw [sh_no hk]
    rw [kn_no hk] at c13 ⊢
    clear ho hk
    go_enter Tryd.func73, Tryd.ntmps73
    go_wp2_with (go_at_call 84; refine (c13 _).mono ?_; rintro ex w2 ⟨rfl, hw⟩; obtain rfl := hw.symm)
    go_ret2
    exact ⟨rfl, Below.refl _ _⟩

end Go.Proofs.YtijeaonldhccmaaDoor
