/-
  slices.SortFunc at a slot, by the timers' numbers.
-/
import Derived.Test.YtffgcijicmfmlaaGreatDoorWAdvW
import Derived.Shelf.SlSortCmp.WholeK
import Derived.Shelf.Lay
import Derived.Ground.SlsfProg
import Derived.Ground.NamesProg
import Derived.Shelf.Small.Bits
namespace Go.Proofs.YtffgcijicmfmlaaGreatDoor
open Go.Shelf Go.RowKit Go.Lib Go.Sort
set_option linter.unusedVariables false

shelf_lay_g SlLaysF0.n14 Slsf 14 at Tryz 124 as Tryz.pdqF
shelf_lay Lays.n125 Nm 125 at Tryz as Tryz.bitsLen

theorem ltI (x y : Fi) : ltOf cmpI x y = decide (x.i < y.i) := by
  unfold ltOf cmpI
  by_cases h1 : x.i < y.i
  · simp [h1]
  · by_cases h2 : y.i < x.i <;> simp [h1, h2]
theorem swoI : SWO (ltOf cmpI) where
  irrefl x := by rw [ltI]; simp
  trans x y z h1 h2 := by rw [ltI] at *; simp at *; omega
  ntrans x y z h1 h2 := by rw [ltI] at *; simp at *; omega
theorem cmpLays (blk off size : Nat) (w : World) : CmpLays Tryz.prog 120 #[] fc 2 cmpI blk off size w :=
  fun _ _ _ _ x y => closure_any x y _
theorem sortSpec : SortSpec := by
  intro xs g m cap w h hm
  have hl := owns_len2 h
  have hb := (h.lt g rfl).2
  have eg : ∀ args w, (callFunc 120 args).run Tryz.prog w = .ok (.enter 120 args) w := enters_of Tryz.func120 (by kernel_rfl) rfl
  have hx : xs.toArray.size = m := by simpa using hl
  have hH := holds_own (d := xs.toArray) h
  have hlim : Lib.bitLen xs.toArray.size < 4611686018427387904 := Nat.lt_of_le_of_lt (Lib.bitLen_le xs.toArray.size 62 (by omega) (by omega)) (by omega)
  have hcon := AnyQ.pdqsortCmpFunc_all Tryz.pdqF 2 Tryz.isAgg98 Tryz.sizeOf98 fc cmpI 120 #[] swoI g 0 cap xs.toArray w eg (cmpLays g 0 _ w) ⟨(fun _ => rfl), (fun x v hv => by simp [fc] at hv; rcases hv with rfl | rfl <;> rfl), hH, hb⟩ (xs.toArray.size + 1) 0 xs.toArray.size (Lib.bitLen xs.toArray.size) xs.toArray w (by omega) rfl (SWK.start hH) (Nat.zero_le _) (Nat.le_refl _) (by rw [hx]; exact hm) hlim (Or.inl rfl)
  change Calls Tryz.prog 124 _ _ _ at hcon
  have hlen := Any.bits_Len Tryz.bitsLen (xs.toArray.size : Int) w (by omega) (by omega)
  change Calls Tryz.prog 125 _ _ _ at hlen
  rw [Int.toNat_natCast] at hlen
  have hsrt := pdq_sorts (ltOf cmpI) swoI xs.toArray 0 xs.toArray.size (Lib.bitLen xs.toArray.size) true true (Nat.zero_le _) (Nat.le_refl _) (Or.inl rfl)
  rw [hx] at hcon hlen hsrt
  have wr : IntKind.u64.wrap (m : Int) = m := by simp [IntKind.wrap, IntKind.bits, IntKind.signed]; omega
  have HRES : Hid (∀ n os, ∃ A : List Fi, A.Perm xs ∧ A.Pairwise (fun x y => x.i ≤ y.i) ∧ (sortWorldK fc 2 w g 0 n (pdq (ltOf cmpI) xs.toArray 0 m (Lib.bitLen m) true true) os).ownsRow 0 98 2 (.slice (some ⟨g, 0, none⟩) m cap) m (fcL A) ∧ Kept (fun j => j = g) w (sortWorldK fc 2 w g 0 n (pdq (ltOf cmpI) xs.toArray 0 m (Lib.bitLen m) true true) os)) := by
    intro n os
    obtain ⟨hp, hs⟩ := hsrt
    generalize pdq (ltOf cmpI) xs.toArray 0 m (Lib.bitLen m) true true = d' at hp hs ⊢
    have hsz : d'.size = m := by rw [hp.1, hx]
    refine ⟨d'.toList, ?_, ?_, sort_owns h hsz, sort_kept w g n d' os⟩
    · have := hp.2.2
      rw [show d'.extract 0 m = d' by rw [← hsz]; simp, show xs.toArray.extract 0 m = xs.toArray by rw [← hx]; simp] at this
      simpa using this
    · rw [List.pairwise_iff_getElem]
      intro i j hi hj hij
      have hj2 : j < d'.size := by simpa using hj
      have hi2 : i < d'.size := by omega
      have := hs i j (Nat.zero_le _) hij (by omega)
      rw [ltI, getElem!_pos d' i hi2, getElem!_pos d' j hj2] at this
      have := of_decide_eq_false this
      rw [Array.getElem_toList, Array.getElem_toList]
      omega

  generalize Lib.bitLen m = lim at hcon hlen HRES
  clear hH hlim hsrt hl hx
  go_enter Tryz.func119, Tryz.ntmps119
  go_wp2_with (first
    | (go_at_call 125; refine hlen.mono ?_; rintro e w' ⟨rfl, rfl⟩)
    | (go_at_call 124; refine hcon.mono ?_; rintro e w' ⟨rfl, n, os, rfl⟩))
  go_end0
  exact ⟨rfl, HRES.out n os⟩

end Go.Proofs.YtffgcijicmfmlaaGreatDoor
