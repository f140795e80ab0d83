/-
  One text: OVal, OLineUp.
-/
import Derived.Test.YthdmbikmjimmkaaGreatDoorCHyp2
import Derived.Test.YthdmbikmjimmkaaGreatDoorONext
import Derived.Test.YthdmbikmjimmkaaGreatDoorOSort
namespace Go.Proofs.YthdmbikmjimmkaaGreatDoor
open Go.RowKit Plain
set_option linter.unusedVariables false
set_option maxRecDepth 100000

def gs (xs : List Srv) (i : Nat) : Srv := xs.getD i ⟨0, 0, 0, 0⟩
def sys (xs : List Srv) : Rule.Sys := ⟨xs.length, fun i => (gs xs i).p.toNat, fun i => (gs xs i).b.toNat, fun i => (gs xs i).o.toNat, fun i => (gs xs i).q⟩
/-- the hyperperiod -/
def hyp (xs : List Srv) : Nat := (lcmV (zP xs) xs.length 1048576).toNat

structure Vd (xs : List Srv) : Prop where
  num : xs.length ≤ 32
  per : ∀ i, i < xs.length → 1 ≤ (gs xs i).p ∧ (gs xs i).p ≤ 1048576
  bud : ∀ i, i < xs.length → 1 ≤ (gs xs i).b ∧ (gs xs i).b ≤ (gs xs i).p
  off : ∀ i, i < xs.length → 0 ≤ (gs xs i).o ∧ (gs xs i).o < (gs xs i).p
  inj : ∀ i j, i < xs.length → j < xs.length → (gs xs i).q = (gs xs j).q → i = j
  hyp1 : 1 ≤ hyp xs
  hyp2 : hyp xs ≤ 1048576
  dvd : ∀ i, i < xs.length → (gs xs i).p.toNat ∣ hyp xs

theorem Vd.bd {xs : List Srv} (h : Vd xs) : Bd (sys xs) := by
  refine ⟨⟨fun i hi => ?_, fun i hi => ?_, fun i j hi hj e => h.inj i j hi hj e⟩, fun i hi => ?_, fun i hi => ?_, h.num⟩
  · have := h.per i hi; show 0 < (gs xs i).p.toNat; omega
  · have := h.off i hi; show (gs xs i).o.toNat < (gs xs i).p.toNat; omega
  · have := h.per i hi; show (gs xs i).p.toNat ≤ _; omega
  · have := h.bud i hi; have := h.per i hi; show (gs xs i).b.toNat ≤ _; omega

theorem inB_of {n lo hi : Int} (h : inB n lo hi = true) : lo ≤ n ∧ n ≤ hi := by simpa [inB] using h
theorem idxF_m1 {ys : List Srv} {q : Int} : ∀ {n : Nat}, ¬ 0 ≤ idxF ys q n → idxF ys q n = -1
  | 0, _ => rfl
  | n + 1, h => by
    rw [idxF] at h ⊢
    by_cases h1 : idxF ys q n = -1
    · rw [if_pos h1] at h ⊢
      by_cases h2 : (ys.getD n ⟨0, 0, 0, 0⟩).q = q
      · rw [if_pos h2] at h; omega
      · rw [if_neg h2]
    · rw [if_neg h1] at h ⊢
      exact idxF_m1 h
theorem idxF_neg {ys : List Srv} {q : Int} : ∀ {n : Nat}, ¬ 0 ≤ idxF ys q n → ∀ j, j < n → (ys.getD j ⟨0, 0, 0, 0⟩).q ≠ q
  | 0, _, j, hj => by omega
  | n + 1, h, j, hj => by
    rw [idxF] at h
    by_cases h1 : idxF ys q n = -1
    · rw [if_pos h1] at h
      by_cases h2 : (ys.getD n ⟨0, 0, 0, 0⟩).q = q
      · rw [if_pos h2] at h; omega
      · by_cases e : j = n
        · subst e; exact h2
        · exact idxF_neg (by rw [h1]; omega) j (by omega)
    · rw [if_neg h1] at h
      exfalso
      exact h1 (idxF_m1 h)
theorem vd_of {xs : List Srv} (h : timF xs xs.length = none) : Vd xs := by
  have hf := tim_none h
  have hf' := hf
  unfold findF at hf'
  by_cases h32 : xs.length ≤ 32
  · rw [if_pos h32] at hf'
    have key : ∀ i, i < xs.length → ∀ j, j < 5 → bS xs i j = true := fun i hi j hj => by
      have := rowsF_zero (eachF_none hf' i hi) j hj
      by_cases hb : bS xs i j = true
      · exact hb
      · rw [if_neg hb] at this; omega
    have hb : lcmB (zP xs) xs.length 1048576 = true := by
      unfold timF at h
      rw [hf] at h
      unfold togF at h
      by_cases hb : lcmB (zP xs) xs.length 1048576 = true
      · exact hb
      · rw [if_neg hb] at h; cases h
    unfold lcmB at hb
    have hpos := of_decide_eq_true hb
    have hl := lcmV_facts (zP xs) xs.length 1048576
    have hper : ∀ i, i < xs.length → 1 ≤ (gs xs i).p ∧ (gs xs i).p ≤ 1048576 := fun i hi => by
      have := key i hi 0 (by omega)
      exact inB_of this
    refine ⟨h32, hper, fun i hi => ?_, fun i hi => ?_, ?_, ?_, ?_, fun i hi => ?_⟩
    · have := key i hi 1 (by omega)
      exact inB_of this
    · have := key i hi 2 (by omega)
      have hp := hper i hi
      have e : wrap64 ((gs xs i).p - 1) = (gs xs i).p - 1 := by unfold wrap64; omega
      have h2 : (0 ≤ (gs xs i).o) ∧ (gs xs i).o ≤ wrap64 ((gs xs i).p - 1) := inB_of this
      rw [e] at h2
      omega
    · have hq : ∀ i j, i < xs.length → j < i → (gs xs i).q ≠ (gs xs j).q := fun i j hi hj e => by
        have := key i hi 4 (by omega)
        simp only [bS, Bool.not_eq_true', decide_eq_false_iff_not] at this
        have h2 := idxF_neg this j hj
        apply h2
        have e2 : (xs.take i).getD j ⟨0, 0, 0, 0⟩ = xs.getD j ⟨0, 0, 0, 0⟩ := by
          rw [List.getD_eq_getElem?_getD, List.getD_eq_getElem?_getD, List.getElem?_take, if_pos hj]
        rw [e2]
        exact e.symm
      intro i j hi hj e
      rcases Nat.lt_trichotomy i j with h1 | h1 | h1
      · exact (hq j i hj h1 e.symm).elim
      · exact h1
      · exact (hq i j hi h1 e).elim
    · unfold hyp; omega
    · unfold hyp; have := (hl.2.1 hpos).1; omega
    · have := ((hl.2.1 hpos).2 i hi)
      have h1 : (gs xs i).p ∣ lcmV (zP xs) xs.length 1048576 := this.2
      have hp := (hper i hi).1
      unfold hyp
      rw [← Int.natCast_dvd_natCast, Int.toNat_of_nonneg (by omega), Int.toNat_of_nonneg (by omega)]
      exact h1
  · rw [if_neg h32] at hf'; cases hf'
end Go.Proofs.YthdmbikmjimmkaaGreatDoor

namespace Go.Proofs.YthdmbikmjimmkaaGreatDoor
open Go.RowKit Plain
set_option linter.unusedVariables false
set_option maxRecDepth 100000

theorem perm_line {xs : List Srv} (hv : Vd xs) {A : List Plr} (hp : A.Perm ((List.range xs.length).map (pl0 xs))) (hs : A.Pairwise (fun x y => y.s.q ≤ x.s.q)) :
    ∃ idx : Nat → Nat, (∀ k, k < xs.length → A[k]? = some (pl0 xs (idx k)) ∧ idx k < xs.length) ∧ (∀ j k, j < k → k < xs.length → (gs xs (idx k)).q < (gs xs (idx j)).q) ∧ ∀ i, i < xs.length → ∃ k, k < xs.length ∧ idx k = i := by
  have hlen : A.length = xs.length := by have := hp.length_eq; simpa using this
  have hmem : ∀ x, x ∈ A → ∃ i, i < xs.length ∧ pl0 xs i = x := fun x hx => by
    have := hp.mem_iff.1 hx
    rw [List.mem_map] at this
    obtain ⟨i, hi, e⟩ := this
    exact ⟨i, List.mem_range.1 hi, e⟩
  have hne : A.Pairwise (fun x y => x.t ≠ y.t) := by
    refine (hp.pairwise_iff (fun {a b} h => Ne.symm h)).2 ?_
    rw [List.pairwise_map]
    refine List.Pairwise.imp ?_ List.pairwise_lt_range
    intro i j hij
    show ((i : Int) + 1) ≠ (j : Int) + 1
    omega
  have hA : ∀ k, k < xs.length → ∃ i, A[k]? = some (pl0 xs i) ∧ i < xs.length := fun k hk => by
    have hk' : k < A.length := by omega
    obtain ⟨i, hi, e⟩ := hmem A[k] (List.getElem_mem hk')
    exact ⟨i, by rw [List.getElem?_eq_getElem hk', e], hi⟩
  refine ⟨fun k => ((A[k]?.getD default).t - 1).toNat, fun k hk => ?_, fun j k hjk hk => ?_, fun i hi => ?_⟩
  · obtain ⟨i, e, hi⟩ := hA k hk
    have e2 : ((A[k]?.getD default).t - 1).toNat = i := by rw [e]; show ((i : Int) + 1 - 1).toNat = i; omega
    simp only [e2]
    exact ⟨e, hi⟩
  · obtain ⟨i, e, hi⟩ := hA k hk
    obtain ⟨i', e', hi'⟩ := hA j (by omega)
    have e2 : ((A[k]?.getD default).t - 1).toNat = i := by rw [e]; show ((i : Int) + 1 - 1).toNat = i; omega
    have e3 : ((A[j]?.getD default).t - 1).toNat = i' := by rw [e']; show ((i' : Int) + 1 - 1).toNat = i'; omega
    simp only [e2, e3]
    have hj' : j < A.length := by omega
    have hk' : k < A.length := by omega
    have a1 := (List.pairwise_iff_getElem.1 hs) j k hj' hk' hjk
    have a2 := (List.pairwise_iff_getElem.1 hne) j k hj' hk' hjk
    rw [List.getElem?_eq_getElem hk'] at e
    rw [List.getElem?_eq_getElem hj'] at e'
    injection e with e
    injection e' with e'
    rw [e, e'] at a1 a2
    have a3 : (gs xs i).q ≤ (gs xs i').q := a1
    have a4 : (i' : Int) + 1 ≠ (i : Int) + 1 := a2
    apply Decidable.byContradiction
    intro hn
    have := hv.inj i i' hi hi' (by omega)
    omega
  · have : pl0 xs i ∈ A := hp.mem_iff.2 (List.mem_map.2 ⟨i, List.mem_range.2 hi, rfl⟩)
    obtain ⟨k, hk, e⟩ := List.getElem_of_mem this
    refine ⟨k, by omega, ?_⟩
    show ((A[k]?.getD default).t - 1).toNat = i
    rw [List.getElem?_eq_getElem hk, e]
    show ((i : Int) + 1 - 1).toNat = i
    omega

theorem nv_of {x : Int} (h : 0 ≤ x) : Value.int .i64 x = nv x.toNat := by unfold nv; rw [Int.toNat_of_nonneg h]

theorem line_up {F : Nat → Prop} {a : Option Addr} {c : Nat} {xs : List Srv} {w : World} (h : Sv w F a xs.length c xs) (hv : Vd xs) :
    Calls Tryz.prog 57 #[.slice a xs.length c] w fun e w' => ∃ g idx, e = .returned (.slice (some ⟨g, 0, none⟩) xs.length xs.length) ∧ w.heap.size ≤ g ∧ g < w'.heap.size ∧ Pl w' g (sys xs) idx (fun _ => 0) (fun k => (sys xs).O (idx k)) ∧ Rule.Inv (sys xs) idx (fun _ => 0) (fun k => (sys xs).O (idx k)) 0 ∧ Kept No w w' := by
  refine (line_any F a xs.length c xs w h hv.num (fun g w' => w.heap.size ≤ g ∧ g < w'.heap.size ∧ Kept No w w' ∧ ∃ idx, Pl w' g (sys xs) idx (fun _ => 0) (fun k => (sys xs).O (idx k)) ∧ Rule.Inv (sys xs) idx (fun _ => 0) (fun k => (sys xs).O (idx k)) 0) ?_).mono ?_
  · intro w1 g cur hf hk hg
    refine (sort_any _ g xs.length xs.length w1 (hf.owns hv.num) hv.num).mono ?_
    rintro e w2 ⟨hv', A, hp, hs, hown, hk2⟩
    refine ⟨hv', hg, (hown.lt g rfl).2, hk.trans hk2 (fun k e => .inr (by omega)), ?_⟩
    obtain ⟨idx, i1, i2, i3⟩ := perm_line hv hp hs
    refine ⟨idx, ⟨fun k hk => ?_, fun i => ?_⟩, Rule.Inv.start hv.bd.ok (fun k hk => (i1 k hk).2) i2 i3⟩
    · obtain ⟨e1, e2⟩ := i1 k hk
      have C := fun i (hi : i < 7) u (hu : (pc (pl0 xs (idx k)))[i]? = some u) => hown.cells (g := g) rfl (k * 7 + i) u (by rw [pcL_at A k i _ e1 hi]; exact hu)
      have hpr := hv.per _ e2
      have hbu := hv.bud _ e2
      have hof := hv.off _ e2
      have c0 := C 0 (by omega) _ rfl
      have c1 := C 1 (by omega) _ rfl
      have c2 := C 2 (by omega) _ rfl
      have c4 := C 4 (by omega) _ rfl
      have c5 := C 5 (by omega) _ rfl
      have c6 := C 6 (by omega) _ rfl
      rw [add_none, Nat.zero_add] at c0 c1 c2 c4 c5 c6
      refine ⟨?_, ?_, ?_, ?_, ?_, ?_⟩
      · rw [show k * 7 = k * 7 + 0 by omega, c0]; exact congrArg some (nv_of (x := (gs xs (idx k)).p) (by omega))
      · rw [c1]; exact congrArg some (nv_of (x := (gs xs (idx k)).b) (by omega))
      · rw [c2]; exact congrArg some (nv_of (x := (gs xs (idx k)).o) (by omega))
      · rw [c4]; rfl
      · rw [c5]; rfl
      · rw [c6]; exact congrArg some (nv_of (x := (gs xs (idx k)).o) (by omega))
    · obtain ⟨_, ⟨h1, _⟩ | ⟨g', cap', cur', hv2, hb, hg', _⟩⟩ := hown
      · cases h1
      · injection hv2 with e1 _ _
        injection e1 with e1
        injection e1 with e1 _ _
        subst e1
        simp [World.frozen?, hg']
  · rintro e w' ⟨g, rfl, h1, h2, h3, idx, h4, h5⟩
    exact ⟨g, idx, rfl, h1, h2, h4, h5, h3⟩
end Go.Proofs.YthdmbikmjimmkaaGreatDoor
