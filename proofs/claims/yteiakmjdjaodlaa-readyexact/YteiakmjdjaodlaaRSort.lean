/-
  slices.SortFunc by compare.
-/
import Derived.Test.YteiakmjdjaodlaaRCalls
import Derived.Shelf.SlSortCmp.WholeK
import Derived.Shelf.Lay
import Derived.Ground.SlsfProg
import Derived.Ground.NamesProg
import Derived.Shelf.Small.Bits
namespace Go.Proofs.Yteiakmjdjaodlaa
open Go.Shelf Go.RowKit Go.Lib Go.Sort
set_option linter.unusedVariables false

instance : Inhabited En := ⟨⟨0, 0, 0⟩⟩
theorem flat_fcL (d : Array En) : Sort.flatK fc 3 d = (fcL d.toList).toArray := by
  refine Sort.ext_get! (by rw [Sort.size_flatK]; simp [fcL_length]) (fun t ht => ?_)
  rw [Sort.size_flatK] at ht
  rw [Sort.get_flatK _ _ _ _ ht]
  have hd : t / 3 < d.size := by omega
  have hx : d.toList[t / 3]? = some d[t / 3]! := by
    rw [Array.getElem?_toList, getElem!_pos d (t / 3) hd, Array.getElem?_eq_getElem hd]
  have key : ∀ u, (fcL d.toList)[t]? = some u → (fcL d.toList).toArray[t]! = u := by
    intro u hu
    rw [List.getElem!_toArray, List.getElem!_eq_getElem?_getD, hu]
    rfl
  have h3 : t % 3 = 0 ∨ t % 3 = 1 ∨ t % 3 = 2 := by omega
  rcases h3 with h3 | h3 | h3
  · rw [h3]
    refine (key _ ?_).symm
    have := fcL_at _ _ _ 0 _ hx rfl
    rw [show t / 3 * 3 + 0 = t by omega] at this
    rw [this]
    rfl
  · rw [h3]
    refine (key _ ?_).symm
    have := fcL_at _ _ _ 1 _ hx rfl
    rw [show t / 3 * 3 + 1 = t by omega] at this
    rw [this]
    rfl
  · rw [h3]
    refine (key _ ?_).symm
    have := fcL_at _ _ _ 2 _ hx rfl
    rw [show t / 3 * 3 + 2 = t by omega] at this
    rw [this]
    rfl
theorem holds_own {w : World} {B g m cap : Nat} {d : Array En} (h : w.ownsRow B 57 3 (.slice (some ⟨g, 0, none⟩) m cap) m (fcL d.toList)) : Sort.HoldsK fc 3 w g 0 d := by
  unfold Sort.HoldsK
  rw [flat_fcL]
  intro j hj
  have hc := h.cells (g := g) rfl j _ (by
    show (fcL d.toList)[j]? = some ((fcL d.toList).toArray[j]!)
    rw [getElem!_pos _ j hj]
    simp only [List.size_toArray] at hj
    rw [List.getElem?_eq_getElem hj]
    rfl)
  rw [add_none] at hc
  refine ⟨hc, ?_⟩
  obtain ⟨_, ⟨h1, _⟩ | ⟨g', cap', cur, hv, hb, hg, _⟩⟩ := h
  · cases h1
  · injection hv with e1 _ _
    injection e1 with e1
    injection e1 with e1 _ _
    subst e1
    simp [World.frozen?, hg]
theorem sort_kept (w : World) (g n : Nat) (d : Array En) (os : Array Obj) : Kept (fun j => j = g) w (sortWorldK fc 3 w g 0 n d os) := by
  refine ⟨rfl, rfl, rfl, ?_, fun j hj hn => ?_⟩
  · simp [sortWorldK, Sort.grow, Sort.putRowK, Sort.ahead]
  · simp only [sortWorldK, Sort.grow, Sort.putRowK, Sort.putRow, Sort.mapBlock, Sort.ahead]
    rw [Array.getElem?_append_left (by simpa using hj), Array.getElem?_modify, if_neg (fun e => hn e.symm)]
theorem sort_owns {w : World} {B g m cap n : Nat} {xs : List En} {d : Array En} {os : Array Obj} (h : w.ownsRow B 57 3 (.slice (some ⟨g, 0, none⟩) m cap) m (fcL xs)) (hd : d.size = m) : (sortWorldK fc 3 w g 0 n d os).ownsRow B 57 3 (.slice (some ⟨g, 0, none⟩) m cap) m (fcL d.toList) := by
  obtain ⟨hl, ⟨h1, _⟩ | ⟨g', cap', cur, hv, hb, hg, hn, hm, hs, ht⟩⟩ := h
  · cases h1
  · injection hv with e1 _ e3
    injection e1 with e1
    injection e1 with e1 _ _
    subst e1 e3
    have hlt := heap_lt hg
    refine ⟨by rw [fcL_length]; simp [hd], .inr ⟨g, cap, Sort.putCells id 0 (Sort.flatK fc 3 d) cur, rfl, hb, ?_, hn, hm, by simp [Sort.putCells, hs], ?_⟩⟩
    · simp only [sortWorldK, Sort.grow, Sort.putRowK, Sort.putRow, Sort.mapBlock, Sort.ahead]
      rw [Array.getElem?_append_left (by simpa using hlt), Array.getElem?_modify, if_pos rfl, hg]
      rfl
    · rw [flat_fcL]
      apply List.ext_getElem?
      intro j
      rw [List.getElem?_take]
      by_cases hj : j < m * 3
      · rw [if_pos hj]
        have hjc : j < cur.size := by rw [hs]; have := Nat.mul_le_mul_right 3 hn; omega
        have hjd : j < (fcL d.toList).length := by rw [fcL_length]; simp [hd]; exact hj
        rw [Array.getElem?_toList]
        unfold Sort.putCells
        rw [Array.getElem?_mapIdx, Array.getElem?_eq_getElem hjc]
        simp only [Option.map_some]
        rw [if_pos (by simp; exact hjd), List.getElem?_eq_getElem hjd]
        simp [hjd]
      · rw [if_neg hj, List.getElem?_eq_none (by rw [fcL_length]; simp [hd]; omega)]

shelf_lay_g SlLaysF0.n14 Slsf 14 at Try 39 as Try.pdqF
shelf_lay Lays.n125 Nm 125 at Try as Try.bitsLen

theorem ltE (x y : En) : ltOf cmpE x y = decide (lt' x y) := by
  unfold ltOf
  by_cases h : lt' x y
  · rw [decide_eq_true h, decide_eq_true (cmpE_lt.2 h)]
  · rw [decide_eq_false h, decide_eq_false (fun e => h (cmpE_lt.1 e))]
theorem swoE : SWO (ltOf cmpE) where
  irrefl x := by rw [ltE]; exact decide_eq_false (lt'.irr x)
  trans x y z h1 h2 := by rw [ltE] at *; exact decide_eq_true ((of_decide_eq_true h1).trans (of_decide_eq_true h2))
  ntrans x y z h1 h2 := by rw [ltE] at *; have a := of_decide_eq_false h1; have b := of_decide_eq_false h2; apply decide_eq_false; unfold lt' at *; omega
theorem cmpLays (blk off size : Nat) (w : World) : CmpLays Try.prog 35 #[] fc 3 cmpE blk off size w :=
  fun _ _ _ _ x y => compare_any x y _
theorem sort_any (xs : List En) (g m cap : Nat) (w : World) (h : w.ownsRow 0 57 3 (.slice (some ⟨g, 0, none⟩) m cap) m (fcL xs)) (hm : m < 4611686018427387904) :
    Calls Try.prog 34 #[.slice (some ⟨g, 0, none⟩) m cap, .func (.func 35) #[] #[]] w fun ex w' => ex = .returned (.tuple #[]) ∧ ∃ A : List En, A.Perm xs ∧ A.Pairwise (fun x y => ¬ lt' y x) ∧ w'.ownsRow 0 57 3 (.slice (some ⟨g, 0, none⟩) m cap) m (fcL A) ∧ Kept (fun j => j = g) w w' := by
  have hl := owns_len3 h
  have hb := (h.lt g rfl).2
  have eg : ∀ args w, (callFunc 35 args).run Try.prog w = .ok (.enter 35 args) w := enters_of Try.func35 (by kernel_rfl) rfl
  have hx : xs.toArray.size = m := by simpa using hl
  have hH := holds_own (d := xs.toArray) h
  have hlim : Lib.bitLen xs.toArray.size < 4611686018427387904 := Nat.lt_of_le_of_lt (Lib.bitLen_le xs.toArray.size 62 (by omega) (by omega)) (by omega)
  have hcon := AnyQ.pdqsortCmpFunc_all Try.pdqF 3 Try.isAgg57 Try.sizeOf57 fc cmpE 35 #[] swoE g 0 cap xs.toArray w eg (cmpLays g 0 _ w) ⟨(fun _ => rfl), (fun x v hv => by simp [fc] at hv; rcases hv with rfl | rfl | rfl <;> rfl), hH, hb⟩ (xs.toArray.size + 1) 0 xs.toArray.size (Lib.bitLen xs.toArray.size) xs.toArray w (by omega) rfl (SWK.start hH) (Nat.zero_le _) (Nat.le_refl _) (by rw [hx]; exact hm) hlim (Or.inl rfl)
  change Calls Try.prog 39 _ _ _ at hcon
  have hlen := Any.bits_Len Try.bitsLen (xs.toArray.size : Int) w (by omega) (by omega)
  change Calls Try.prog 40 _ _ _ at hlen
  rw [Int.toNat_natCast] at hlen
  have hsrt := pdq_sorts (ltOf cmpE) swoE xs.toArray 0 xs.toArray.size (Lib.bitLen xs.toArray.size) true true (Nat.zero_le _) (Nat.le_refl _) (Or.inl rfl)
  rw [hx] at hcon hlen hsrt
  have wr : IntKind.u64.wrap (m : Int) = m := by simp [IntKind.wrap, IntKind.bits, IntKind.signed]; omega
  have HRES : Hid (∀ n os, ∃ A : List En, A.Perm xs ∧ A.Pairwise (fun x y => ¬ lt' y x) ∧ (sortWorldK fc 3 w g 0 n (pdq (ltOf cmpE) xs.toArray 0 m (Lib.bitLen m) true true) os).ownsRow 0 57 3 (.slice (some ⟨g, 0, none⟩) m cap) m (fcL A) ∧ Kept (fun j => j = g) w (sortWorldK fc 3 w g 0 n (pdq (ltOf cmpE) xs.toArray 0 m (Lib.bitLen m) true true) os)) := by
    intro n os
    obtain ⟨hp, hs⟩ := hsrt
    generalize pdq (ltOf cmpE) xs.toArray 0 m (Lib.bitLen m) true true = d' at hp hs ⊢
    have hsz : d'.size = m := by rw [hp.1, hx]
    refine ⟨d'.toList, ?_, ?_, sort_owns h hsz, sort_kept w g n d' os⟩
    · have := hp.2.2
      rw [show d'.extract 0 m = d' by rw [← hsz]; simp, show xs.toArray.extract 0 m = xs.toArray by rw [← hx]; simp] at this
      simpa using this
    · rw [List.pairwise_iff_getElem]
      intro i j hi hj hij
      have hj2 : j < d'.size := by simpa using hj
      have hi2 : i < d'.size := by omega
      have := hs i j (Nat.zero_le _) hij (by omega)
      rw [ltE, getElem!_pos d' i hi2, getElem!_pos d' j hj2] at this
      have := of_decide_eq_false this
      rw [Array.getElem_toList, Array.getElem_toList]
      exact this

  generalize Lib.bitLen m = lim at hcon hlen HRES
  clear hH hlim hsrt hl hx
  go_enter Try.func34, Try.ntmps34
  go_wp2_with (first
    | (go_at_call 40; refine hlen.mono ?_; rintro e w' ⟨rfl, rfl⟩)
    | (go_at_call 39; refine hcon.mono ?_; rintro e w' ⟨rfl, n, os, rfl⟩))
  go_end0
  exact ⟨rfl, HRES.out n os⟩

end Go.Proofs.Yteiakmjdjaodlaa
