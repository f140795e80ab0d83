/-
  lineUp: the servers in a line, the greatest priority first.
-/
import Derived.Test.YtgpaaoflhffcbaaGreatDoorOSort
import Derived.Test.YtgpaaoflhffcbaaGreatDoorOVal
namespace Go.Proofs.YtgpaaoflhffcbaaGreatDoor
open Go.RowKit Plain
set_option linter.unusedVariables false
set_option maxRecDepth 100000

theorem perm_line {xs : List Srv} (hv : Vd xs) {A : List Plr} (hp : A.Perm ((List.range xs.length).map (pl0 xs))) (hs : A.Pairwise (fun x y => y.s.q ≤ x.s.q)) :
    ∃ idx : Nat → Nat, (∀ k, k < xs.length → A[k]? = some (pl0 xs (idx k)) ∧ idx k < xs.length) ∧ (∀ j k, j < k → k < xs.length → (gs xs (idx k)).q < (gs xs (idx j)).q) ∧ ∀ i, i < xs.length → ∃ k, k < xs.length ∧ idx k = i := by
  have hlen : A.length = xs.length := by have := hp.length_eq; simpa using this
  have hmem : ∀ x, x ∈ A → ∃ i, i < xs.length ∧ pl0 xs i = x := fun x hx => by
    have := hp.mem_iff.1 hx
    rw [List.mem_map] at this
    obtain ⟨i, hi, e⟩ := this
    exact ⟨i, List.mem_range.1 hi, e⟩
  have hne : A.Pairwise (fun x y => x.t ≠ y.t) := by
    refine (hp.pairwise_iff (fun {a b} h => Ne.symm h)).2 ?_
    rw [List.pairwise_map]
    refine List.Pairwise.imp ?_ List.pairwise_lt_range
    intro i j hij
    show ((i : Int) + 1) ≠ (j : Int) + 1
    omega
  have hA : ∀ k, k < xs.length → ∃ i, A[k]? = some (pl0 xs i) ∧ i < xs.length := fun k hk => by
    have hk' : k < A.length := by omega
    obtain ⟨i, hi, e⟩ := hmem A[k] (List.getElem_mem hk')
    exact ⟨i, by rw [List.getElem?_eq_getElem hk', e], hi⟩
  refine ⟨fun k => ((A[k]?.getD default).t - 1).toNat, fun k hk => ?_, fun j k hjk hk => ?_, fun i hi => ?_⟩
  · obtain ⟨i, e, hi⟩ := hA k hk
    have e2 : ((A[k]?.getD default).t - 1).toNat = i := by rw [e]; show ((i : Int) + 1 - 1).toNat = i; omega
    simp only [e2]
    exact ⟨e, hi⟩
  · obtain ⟨i, e, hi⟩ := hA k hk
    obtain ⟨i', e', hi'⟩ := hA j (by omega)
    have e2 : ((A[k]?.getD default).t - 1).toNat = i := by rw [e]; show ((i : Int) + 1 - 1).toNat = i; omega
    have e3 : ((A[j]?.getD default).t - 1).toNat = i' := by rw [e']; show ((i' : Int) + 1 - 1).toNat = i'; omega
    simp only [e2, e3]
    have hj' : j < A.length := by omega
    have hk' : k < A.length := by omega
    have a1 := (List.pairwise_iff_getElem.1 hs) j k hj' hk' hjk
    have a2 := (List.pairwise_iff_getElem.1 hne) j k hj' hk' hjk
    rw [List.getElem?_eq_getElem hk'] at e
    rw [List.getElem?_eq_getElem hj'] at e'
    injection e with e
    injection e' with e'
    rw [e, e'] at a1 a2
    have a3 : (gs xs i).q ≤ (gs xs i').q := a1
    have a4 : (i' : Int) + 1 ≠ (i : Int) + 1 := a2
    apply Decidable.byContradiction
    intro hn
    have := hv.inj i i' hi hi' (by omega)
    omega
  · have : pl0 xs i ∈ A := hp.mem_iff.2 (List.mem_map.2 ⟨i, List.mem_range.2 hi, rfl⟩)
    obtain ⟨k, hk, e⟩ := List.getElem_of_mem this
    refine ⟨k, by omega, ?_⟩
    show ((A[k]?.getD default).t - 1).toNat = i
    rw [List.getElem?_eq_getElem hk, e]
    show ((i : Int) + 1 - 1).toNat = i
    omega

theorem nv_of {x : Int} (h : 0 ≤ x) : Value.int .i64 x = nv x.toNat := by unfold nv; rw [Int.toNat_of_nonneg h]

theorem line_up {F : Nat → Prop} {a : Option Addr} {c : Nat} {xs : List Srv} {w : World} (h : Sv w F a xs.length c xs) (hv : Vd xs) :
    Calls Tryz.prog 46 #[.slice a xs.length c] w fun e w' => ∃ g idx, e = .returned (.slice (some ⟨g, 0, none⟩) xs.length xs.length) ∧ w.heap.size ≤ g ∧ g < w'.heap.size ∧ Pl w' g (sys xs) idx (fun _ => 0) (fun k => (sys xs).O (idx k)) ∧ Rule.Inv (sys xs) idx (fun _ => 0) (fun k => (sys xs).O (idx k)) 0 ∧ Kept No w w' := by
  refine (line_any F a xs.length c xs w h hv.num (fun g w' => w.heap.size ≤ g ∧ g < w'.heap.size ∧ Kept No w w' ∧ ∃ idx, Pl w' g (sys xs) idx (fun _ => 0) (fun k => (sys xs).O (idx k)) ∧ Rule.Inv (sys xs) idx (fun _ => 0) (fun k => (sys xs).O (idx k)) 0) ?_).mono ?_
  · intro w1 g cur hf hk hg
    refine (sort_any _ g xs.length xs.length w1 (hf.owns hv.num) hv.num).mono ?_
    rintro e w2 ⟨hv', A, hp, hs, hown, hk2⟩
    refine ⟨hv', hg, (hown.lt g rfl).2, hk.trans hk2 (fun k e => .inr (by omega)), ?_⟩
    obtain ⟨idx, i1, i2, i3⟩ := perm_line hv hp hs
    refine ⟨idx, ⟨fun k hk => ?_, fun i => ?_⟩, Rule.Inv.start hv.bd.ok (fun k hk => (i1 k hk).2) i2 i3⟩
    · obtain ⟨e1, e2⟩ := i1 k hk
      have C := fun i (hi : i < 7) u (hu : (pc (pl0 xs (idx k)))[i]? = some u) => hown.cells (g := g) rfl (k * 7 + i) u (by rw [pcL_at A k i _ e1 hi]; exact hu)
      have hpr := hv.per _ e2
      have hbu := hv.bud _ e2
      have hof := hv.off _ e2
      have c0 := C 0 (by omega) _ rfl
      have c1 := C 1 (by omega) _ rfl
      have c2 := C 2 (by omega) _ rfl
      have c4 := C 4 (by omega) _ rfl
      have c5 := C 5 (by omega) _ rfl
      have c6 := C 6 (by omega) _ rfl
      rw [add_none, Nat.zero_add] at c0 c1 c2 c4 c5 c6
      refine ⟨?_, ?_, ?_, ?_, ?_, ?_⟩
      · rw [show k * 7 = k * 7 + 0 by omega, c0]; exact congrArg some (nv_of (x := (gs xs (idx k)).p) (by omega))
      · rw [c1]; exact congrArg some (nv_of (x := (gs xs (idx k)).b) (by omega))
      · rw [c2]; exact congrArg some (nv_of (x := (gs xs (idx k)).o) (by omega))
      · rw [c4]; rfl
      · rw [c5]; rfl
      · rw [c6]; exact congrArg some (nv_of (x := (gs xs (idx k)).o) (by omega))
    · obtain ⟨_, ⟨h1, _⟩ | ⟨g', cap', cur', hv2, hb, hg', _⟩⟩ := hown
      · cases h1
      · injection hv2 with e1 _ _
        injection e1 with e1
        injection e1 with e1 _ _
        subst e1
        simp [World.frozen?, hg']
  · rintro e w' ⟨g, rfl, h1, h2, h3, idx, h4, h5⟩
    exact ⟨g, idx, rfl, h1, h2, h4, h5, h3⟩
end Go.Proofs.YtgpaaoflhffcbaaGreatDoor
