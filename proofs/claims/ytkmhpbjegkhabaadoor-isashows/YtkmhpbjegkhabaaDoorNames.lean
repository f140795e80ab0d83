/-
  Known, Name, Shape: the program's and the document's.
-/
import Derived.Test.YtkmhpbjegkhabaaDoorTab
import Derived.BigQuiet
namespace Go.Proofs.YtkmhpbjegkhabaaDoor
open Go.RowKit
set_option linter.unusedVariables false

def kn (o : Int) : Bool := decide (1 ≤ o ∧ o ≤ 27)
def nmV (o : Int) : ByteArray := if kn o then nmB o.toNat else ⟨#[]⟩
def shV (o : Int) : ByteArray := if kn o then shB o.toNat else ⟨#[]⟩
theorem kn_yes {k : Nat} (h : k < 27) : kn ((k : Int) + 1) = true := by unfold kn; simp; omega
theorem nm_yes {k : Nat} (h : k < 27) : nmV ((k : Int) + 1) = nmB (k + 1) := by unfold nmV; rw [kn_yes h, show ((k : Int) + 1).toNat = k + 1 by omega]; rfl
theorem sh_yes {k : Nat} (h : k < 27) : shV ((k : Int) + 1) = shB (k + 1) := by unfold shV; rw [kn_yes h, show ((k : Int) + 1).toNat = k + 1 by omega]; rfl
theorem kn_no {o : Int} (h : ¬ (1 ≤ o ∧ o ≤ 27)) : kn o = false := by unfold kn; simpa using h
theorem nm_no {o : Int} (h : ¬ (1 ≤ o ∧ o ≤ 27)) : nmV o = ⟨#[]⟩ := by unfold nmV; rw [kn_no h]; rfl
theorem sh_no {o : Int} (h : ¬ (1 ≤ o ∧ o ≤ 27)) : shV o = ⟨#[]⟩ := by unfold shV; rw [kn_no h]; rfl

theorem known_any (o : Int) (ho : 0 ≤ o ∧ o < 256) (w : World) :
    Calls Tryd.prog 12 #[.int .u8 o] w fun ex w' => ex = .returned (.bool (kn o)) ∧ w' = w := by
  obtain ⟨h0, h1⟩ := ho
  go_enter Tryd.func12, Tryd.ntmps12
  go_wp2
  all_goals
    go_ret
    refine ⟨?_, rfl⟩
    congr 2
    unfold kn
    symm
    simp
    omega

theorem refKnown_any (o : Int) (ho : 0 ≤ o ∧ o < 256) (w : World) :
    Calls Tryd.prog 13 #[.int .u8 o] w fun ex w' => ex = .returned (.bool (kn o)) ∧ w' = w := by
  obtain ⟨h0, h1⟩ := ho
  go_enter Tryd.func13, Tryd.ntmps13
  go_wp2
  all_goals
    go_ret
    refine ⟨?_, rfl⟩
    congr 2
    unfold kn
    symm
    simp
    omega

theorem name_any (o : Int) (ho : 0 ≤ o ∧ o < 256) (w : World) (hO : Ops w) :
    Calls Tryd.prog 8 #[.int .u8 o] w fun ex w' => ex = .returned (.tuple #[.string (nmV o), .bool (kn o)]) ∧ w' = w := by
  have c12 := fun w0 => known_any o ho w0
  by_cases hk : 1 ≤ o ∧ o ≤ 27
  · obtain ⟨k, rfl⟩ : ∃ k : Nat, o = (k : Int) + 1 := ⟨(o - 1).toNat, by omega⟩
    have hk2 : k < 27 := by omega
    obtain ⟨hc0, hc1⟩ := hO k hk2
    rw [nm_yes hk2]
    rw [kn_yes hk2] at c12 ⊢
    clear hO ho hk
    go_enter Tryd.func8, Tryd.ntmps8
    go_wp2_with (go_at_call 12; refine (c12 _).mono ?_; rintro ex w2 ⟨rfl, hw⟩; obtain rfl := hw.symm)
    go_ret2
    exact ⟨rfl, rfl⟩
  · rw [nm_no hk]
    rw [kn_no hk] at c12 ⊢
    clear hO ho hk
    go_enter Tryd.func8, Tryd.ntmps8
    go_wp2_with (go_at_call 12; refine (c12 _).mono ?_; rintro ex w2 ⟨rfl, hw⟩; obtain rfl := hw.symm)
    go_ret2
    exact ⟨rfl, rfl⟩

theorem shape_any (o : Int) (ho : 0 ≤ o ∧ o < 256) (w : World) (hO : Ops w) :
    Calls Tryd.prog 10 #[.int .u8 o] w fun ex w' => ex = .returned (.tuple #[.string (shV o), .bool (kn o)]) ∧ w' = w := by
  have c12 := fun w0 => known_any o ho w0
  by_cases hk : 1 ≤ o ∧ o ≤ 27
  · obtain ⟨k, rfl⟩ : ∃ k : Nat, o = (k : Int) + 1 := ⟨(o - 1).toNat, by omega⟩
    have hk2 : k < 27 := by omega
    obtain ⟨hc0, hc1⟩ := hO k hk2
    rw [sh_yes hk2]
    rw [kn_yes hk2] at c12 ⊢
    clear hO ho hk
    go_enter Tryd.func10, Tryd.ntmps10
    go_wp2_with (go_at_call 12; refine (c12 _).mono ?_; rintro ex w2 ⟨rfl, hw⟩; obtain rfl := hw.symm)
    go_ret2
    exact ⟨rfl, rfl⟩
  · rw [sh_no hk]
    rw [kn_no hk] at c12 ⊢
    clear hO ho hk
    go_enter Tryd.func10, Tryd.ntmps10
    go_wp2_with (go_at_call 12; refine (c12 _).mono ?_; rintro ex w2 ⟨rfl, hw⟩; obtain rfl := hw.symm)
    go_ret2
    exact ⟨rfl, rfl⟩

theorem names_arr : ((#[.string { data := #[] }, .string { data := #[110, 111, 112] }, .string { data := #[108, 100, 105] }, .string { data := #[108, 100, 104] }, .string { data := #[109, 111, 118] }, .string { data := #[108, 100] }, .string { data := #[115, 116] }, .string { data := #[97, 100, 100] }, .string { data := #[115, 117, 98] }, .string { data := #[109, 117, 108] }, .string { data := #[100, 105, 118] }, .string { data := #[109, 111, 100] }, .string { data := #[97, 110, 100] }, .string { data := #[111, 114] }, .string { data := #[120, 111, 114] }, .string { data := #[115, 104, 108] }, .string { data := #[115, 104, 114] }, .string { data := #[115, 97, 114] }, .string { data := #[97, 100, 100, 105] }, .string { data := #[115, 108, 116] }, .string { data := #[115, 108, 116, 117] }, .string { data := #[115, 101, 113] }, .string { data := #[106, 109, 112] }, .string { data := #[106, 122] }, .string { data := #[106, 110, 122] }, .string { data := #[106, 109, 114] }, .string { data := #[99, 97, 108, 108] }, .string { data := #[115, 121, 115] }] : Array Value)) = ((List.range 28).map fun i => Value.string (nmB i)).toArray := by rfl
theorem names_any (w : World) :
    Calls Tryd.prog 25 #[] w fun ex w' => ex = .returned (.slice (some ⟨w.heap.size, 0, none⟩) 28 28) ∧ Below w.heap.size w w' ∧ ∀ i, i < 28 → w'.cell? ⟨w.heap.size, i, none⟩ = some (.string (nmB i)) := by
  go_enter Tryd.func25, Tryd.ntmps25
  go_wp2
  go_ret
  refine ⟨rfl, (Below.refl _ w).alloc (Nat.le_refl _) _, fun i hi => ?_⟩
  rw [names_arr]
  unfold World.cell?
  rw [heap_alloc_new]
  simp [hi]

theorem shapes_arr : ((#[.string { data := #[] }, .string { data := #[] }, .string { data := #[97, 110] }, .string { data := #[97, 110] }, .string { data := #[97, 98] }, .string { data := #[97, 98, 110] }, .string { data := #[97, 98, 110] }, .string { data := #[97, 98, 99] }, .string { data := #[97, 98, 99] }, .string { data := #[97, 98, 99] }, .string { data := #[97, 98, 99] }, .string { data := #[97, 98, 99] }, .string { data := #[97, 98, 99] }, .string { data := #[97, 98, 99] }, .string { data := #[97, 98, 99] }, .string { data := #[97, 98, 99] }, .string { data := #[97, 98, 99] }, .string { data := #[97, 98, 99] }, .string { data := #[97, 98, 110] }, .string { data := #[97, 98, 99] }, .string { data := #[97, 98, 99] }, .string { data := #[97, 98, 99] }, .string { data := #[112] }, .string { data := #[97, 112] }, .string { data := #[97, 112] }, .string { data := #[97] }, .string { data := #[112] }, .string { data := #[110] }] : Array Value)) = ((List.range 28).map fun i => Value.string (shB i)).toArray := by rfl
theorem shapes_any (w : World) :
    Calls Tryd.prog 26 #[] w fun ex w' => ex = .returned (.slice (some ⟨w.heap.size, 0, none⟩) 28 28) ∧ Below w.heap.size w w' ∧ ∀ i, i < 28 → w'.cell? ⟨w.heap.size, i, none⟩ = some (.string (shB i)) := by
  go_enter Tryd.func26, Tryd.ntmps26
  go_wp2
  go_ret
  refine ⟨rfl, (Below.refl _ w).alloc (Nat.le_refl _) _, fun i hi => ?_⟩
  rw [shapes_arr]
  unfold World.cell?
  rw [heap_alloc_new]
  simp [hi]

theorem refName_any (o : Int) (ho : 0 ≤ o ∧ o < 256) (w : World) :
    Calls Tryd.prog 9 #[.int .u8 o] w fun ex w' => ex = .returned (.tuple #[.string (nmV o), .bool (kn o)]) ∧ Below w.heap.size w w' := by
  have c13 := fun w0 => refKnown_any o ho w0
  by_cases hk : 1 ≤ o ∧ o ≤ 27
  · obtain ⟨k, rfl⟩ : ∃ k : Nat, o = (k : Int) + 1 := ⟨(o - 1).toNat, by omega⟩
    have hk2 : k < 27 := by omega
    rw [nm_yes hk2]
    rw [kn_yes hk2] at c13 ⊢
    have c := names_any w
    clear ho hk
    go_enter Tryd.func9, Tryd.ntmps9
    go_wp2_with (first
      | (go_at_call 13; refine (c13 _).mono ?_; rintro ex w2 ⟨rfl, hw⟩; obtain rfl := hw.symm)
      | (go_at_call 25; refine c.mono ?_; rintro ex w2 ⟨rfl, bel, hcs⟩; have hc := hcs (k + 1) (by omega); have HB : Hid (Below w.heap.size w w2) := bel; clear bel hcs))
    go_ret2
    exact ⟨rfl, HB.out⟩
  · rw [nm_no hk]
    rw [kn_no hk] at c13 ⊢
    clear ho hk
    go_enter Tryd.func9, Tryd.ntmps9
    go_wp2_with (go_at_call 13; refine (c13 _).mono ?_; rintro ex w2 ⟨rfl, hw⟩; obtain rfl := hw.symm)
    go_ret2
    exact ⟨rfl, Below.refl _ _⟩

theorem refShape_any (o : Int) (ho : 0 ≤ o ∧ o < 256) (w : World) :
    Calls Tryd.prog 11 #[.int .u8 o] w fun ex w' => ex = .returned (.tuple #[.string (shV o), .bool (kn o)]) ∧ Below w.heap.size w w' := by
  have c13 := fun w0 => refKnown_any o ho w0
  by_cases hk : 1 ≤ o ∧ o ≤ 27
  · obtain ⟨k, rfl⟩ : ∃ k : Nat, o = (k : Int) + 1 := ⟨(o - 1).toNat, by omega⟩
    have hk2 : k < 27 := by omega
    rw [sh_yes hk2]
    rw [kn_yes hk2] at c13 ⊢
    have c := shapes_any w
    clear ho hk
    go_enter Tryd.func11, Tryd.ntmps11
    go_wp2_with (first
      | (go_at_call 13; refine (c13 _).mono ?_; rintro ex w2 ⟨rfl, hw⟩; obtain rfl := hw.symm)
      | (go_at_call 26; refine c.mono ?_; rintro ex w2 ⟨rfl, bel, hcs⟩; have hc := hcs (k + 1) (by omega); have HB : Hid (Below w.heap.size w w2) := bel; clear bel hcs))
    go_ret2
    exact ⟨rfl, HB.out⟩
  · rw [sh_no hk]
    rw [kn_no hk] at c13 ⊢
    clear ho hk
    go_enter Tryd.func11, Tryd.ntmps11
    go_wp2_with (go_at_call 13; refine (c13 _).mono ?_; rintro ex w2 ⟨rfl, hw⟩; obtain rfl := hw.symm)
    go_ret2
    exact ⟨rfl, Below.refl _ _⟩

end Go.Proofs.YtkmhpbjegkhabaaDoor
