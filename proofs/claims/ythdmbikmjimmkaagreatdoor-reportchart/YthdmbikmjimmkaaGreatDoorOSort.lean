/-
  slices.SortFunc of the players, by falling priority.
-/
import Derived.Test.YthdmbikmjimmkaaGreatDoorOLine
import Derived.Shelf.SlSortCmp.WholeK
import Derived.Shelf.SlSortCmp.InsertionK
import Derived.Shelf.Lay
import Derived.Ground.SlsfProg
import Derived.Ground.NamesProg
import Derived.Shelf.Small.Bits
namespace Go.Proofs.YthdmbikmjimmkaaGreatDoor
open Go.Shelf Go.RowKit Go.Lib Go.Sort
set_option linter.unusedVariables false
set_option maxRecDepth 100000

shelf_lay_g SlLaysF0.n14 Slsf 14 at Tryz 86 as Tryz.pdqF
shelf_lay Lays.n125 Nm 125 at Tryz as Tryz.bitsLen

theorem flat_pcL (d : Array Plr) : Sort.flatK pc 7 d = (pcL d.toList).toArray := by
  refine Sort.ext_get! (by rw [Sort.size_flatK]; simp [pcL_len]) (fun t ht => ?_)
  rw [Sort.size_flatK] at ht
  rw [Sort.get_flatK _ _ _ _ ht]
  have hd : t / 7 < d.size := by omega
  have hx : d.toList[t / 7]? = some d[t / 7]! := by
    rw [Array.getElem?_toList, getElem!_pos d (t / 7) hd, Array.getElem?_eq_getElem hd]
  have h2 := pcL_at d.toList (t / 7) (t % 7) _ hx (by omega)
  rw [show t / 7 * 7 + t % 7 = t by omega] at h2
  have e1 : (pcL d.toList).toArray[t]! = ((pcL d.toList)[t]?).getD default := by rw [List.getElem!_toArray, List.getElem!_eq_getElem?_getD]
  rw [e1, h2]
  simp
theorem holds_own {w : World} {B g m cap : Nat} {d : Array Plr} (h : w.ownsRow B 142 7 (.slice (some ⟨g, 0, none⟩) m cap) m (pcL d.toList)) : Sort.HoldsK pc 7 w g 0 d := by
  unfold Sort.HoldsK
  rw [flat_pcL]
  intro j hj
  have hc := h.cells (g := g) rfl j _ (by
    show (pcL d.toList)[j]? = some ((pcL d.toList).toArray[j]!)
    rw [getElem!_pos _ j hj]
    simp only [List.size_toArray] at hj
    rw [List.getElem?_eq_getElem hj]
    rfl)
  rw [add_none] at hc
  refine ⟨hc, ?_⟩
  obtain ⟨_, ⟨h1, _⟩ | ⟨g', cap', cur, hv, hb, hg, _⟩⟩ := h
  · cases h1
  · injection hv with e1 _ _
    injection e1 with e1
    injection e1 with e1 _ _
    subst e1
    simp [World.frozen?, hg]
theorem sort_kept (w : World) (g n : Nat) (d : Array Plr) (os : Array Obj) : Kept (fun j => j = g) w (sortWorldK pc 7 w g 0 n d os) := by
  refine ⟨rfl, rfl, rfl, ?_, fun j hj hn => ?_⟩
  · simp [sortWorldK, Sort.grow, Sort.putRowK, Sort.ahead]
  · simp only [sortWorldK, Sort.grow, Sort.putRowK, Sort.putRow, Sort.mapBlock, Sort.ahead]
    rw [Array.getElem?_append_left (by simpa using hj), Array.getElem?_modify, if_neg (fun e => hn e.symm)]
theorem sort_owns {w : World} {B g m cap n : Nat} {xs : List Plr} {d : Array Plr} {os : Array Obj} (h : w.ownsRow B 142 7 (.slice (some ⟨g, 0, none⟩) m cap) m (pcL xs)) (hd : d.size = m) : (sortWorldK pc 7 w g 0 n d os).ownsRow B 142 7 (.slice (some ⟨g, 0, none⟩) m cap) m (pcL d.toList) := by
  obtain ⟨hl, ⟨h1, _⟩ | ⟨g', cap', cur, hv, hb, hg, hn, hm, hs, ht⟩⟩ := h
  · cases h1
  · injection hv with e1 _ e3
    injection e1 with e1
    injection e1 with e1 _ _
    subst e1 e3
    have hlt := heap_lt hg
    refine ⟨by rw [pcL_len]; simp [hd], .inr ⟨g, cap, Sort.putCells id 0 (Sort.flatK pc 7 d) cur, rfl, hb, ?_, hn, hm, by simp [Sort.putCells, hs], ?_⟩⟩
    · simp only [sortWorldK, Sort.grow, Sort.putRowK, Sort.putRow, Sort.mapBlock, Sort.ahead]
      rw [Array.getElem?_append_left (by simpa using hlt), Array.getElem?_modify, if_pos rfl, hg]
      rfl
    · rw [flat_pcL]
      apply List.ext_getElem?
      intro j
      rw [List.getElem?_take]
      by_cases hj : j < m * 7
      · rw [if_pos hj]
        have hjc : j < cur.size := by rw [hs]; have := Nat.mul_le_mul_right 7 hn; omega
        have hjd : j < (pcL d.toList).length := by rw [pcL_len]; simp [hd]; exact hj
        rw [Array.getElem?_toList]
        unfold Sort.putCells
        rw [Array.getElem?_mapIdx, Array.getElem?_eq_getElem hjc]
        simp only [Option.map_some]
        rw [if_pos (by simp; exact hjd), List.getElem?_eq_getElem hjd]
        simp [hjd]
      · rw [if_neg hj, List.getElem?_eq_none (by rw [pcL_len]; simp [hd]; omega)]

/-- comparing priorities, the greater first -/
def cmpI (x y : Plr) : Int := if y.s.q < x.s.q then -1 else if y.s.q > x.s.q then 1 else 0
theorem compare_any (x y : Int) (w : World) : Calls Tryz.prog 53 #[.int .i64 x, .int .i64 y] w fun ex w' => ex = .returned (.int .i64 (if x < y then -1 else if x > y then 1 else 0)) ∧ w' = w := by
  by_cases h1 : x < y
  · rw [if_pos h1]
    go_enter Tryz.func53, Tryz.ntmps53
    go_wp2
    go_ret
    exact ⟨rfl, rfl⟩
  · rw [if_neg h1]
    by_cases h2 : x > y
    · rw [if_pos h2]
      go_enter Tryz.func53, Tryz.ntmps53
      go_wp2
      go_ret
      exact ⟨rfl, rfl⟩
    · rw [if_neg h2]
      go_enter Tryz.func53, Tryz.ntmps53
      go_wp2
      go_ret
      exact ⟨rfl, rfl⟩
theorem closure_any (x y : Plr) (W : World) : Calls Tryz.prog 78 #[.agg (pc x).toArray, .agg (pc y).toArray] W fun e w' => e = .returned (.int .i64 (cmpI x y)) ∧ ∃ q os', w' = Sort.grow (W.drewN q) os' := by
  have hcon := fun W' => compare_any y.s.q x.s.q W'
  unfold cmpI
  generalize (if y.s.q < x.s.q then (-1 : Int) else if y.s.q > x.s.q then 1 else 0) = r at hcon ⊢
  unfold pc
  go_enter Tryz.func78, Tryz.ntmps78
  go_wp2_with (go_at_call 53; refine (hcon _).mono ?_; rintro e w' ⟨rfl, rfl⟩)
  go_ret
  exact ⟨rfl, 0, _, by rw [Sort.alloc_eq_grow, Sort.alloc_eq_grow, Sort.grow_grow]; rfl⟩

theorem ltI (x y : Plr) : ltOf cmpI x y = decide (y.s.q < x.s.q) := by
  unfold ltOf cmpI
  by_cases h1 : y.s.q < x.s.q
  · simp [h1]
  · by_cases h2 : x.s.q < y.s.q <;> simp [h1, h2]
theorem swoI : SWO (ltOf cmpI) where
  irrefl x := by rw [ltI]; simp
  trans x y z h1 h2 := by rw [ltI] at *; simp at *; omega
  ntrans x y z h1 h2 := by rw [ltI] at *; simp at *; omega
theorem cmpLays (blk off size : Nat) (w : World) : CmpLays Tryz.prog 78 #[] pc 7 cmpI blk off size w :=
  fun _ _ _ _ x y => closure_any x y _

theorem owns_len7 {w : World} {g m cap : Nat} {xs : List Plr} (h : w.ownsRow 0 142 7 (.slice (some ⟨g, 0, none⟩) m cap) m (pcL xs)) : xs.length = m := by
  have := h.1
  rw [pcL_len] at this
  omega

set_option maxHeartbeats 1000000 in
theorem sort_any (xs : List Plr) (g m cap : Nat) (w : World) (h : w.ownsRow 0 142 7 (.slice (some ⟨g, 0, none⟩) m cap) m (pcL xs)) (hm : m ≤ 32) :
    Calls Tryz.prog 77 #[.slice (some ⟨g, 0, none⟩) m cap, .func (.func 78) #[] #[]] w fun e w' => (∃ v, e = .returned v) ∧ ∃ A : List Plr, A.Perm xs ∧ A.Pairwise (fun x y => y.s.q ≤ x.s.q) ∧ w'.ownsRow 0 142 7 (.slice (some ⟨g, 0, none⟩) m cap) m (pcL A) ∧ Kept (fun j => j = g) w w' := by
  have hl := owns_len7 h
  have hb := (h.lt g rfl).2
  have eg : ∀ args w, (callFunc 78 args).run Tryz.prog w = .ok (.enter 78 args) w := enters_of Tryz.func78 (by kernel_rfl) rfl
  have hx : xs.toArray.size = m := by simpa using hl
  have hH := holds_own (d := xs.toArray) h
  have hlim : Lib.bitLen xs.toArray.size < 4611686018427387904 := Nat.lt_of_le_of_lt (Lib.bitLen_le xs.toArray.size 62 (by omega) (by omega)) (by omega)
  have hcon := AnyQ.pdqsortCmpFunc_all Tryz.pdqF 7 Tryz.isAgg142 Tryz.sizeOf142 pc cmpI 78 #[] swoI g 0 cap xs.toArray w eg (cmpLays g 0 _ w) ⟨(fun _ => rfl), (fun x v hv => by simp [pc] at hv; rcases hv with rfl | rfl | rfl | rfl | rfl | rfl | rfl <;> rfl), hH, hb⟩ (xs.toArray.size + 1) 0 xs.toArray.size (Lib.bitLen xs.toArray.size) xs.toArray w (by omega) rfl (SWK.start hH) (Nat.zero_le _) (Nat.le_refl _) (by rw [hx]; omega) hlim (Or.inl rfl)
  change Calls Tryz.prog 86 _ _ _ at hcon
  have hlen := Any.bits_Len Tryz.bitsLen (xs.toArray.size : Int) w (by omega) (by omega)
  change Calls Tryz.prog 87 _ _ _ at hlen
  rw [Int.toNat_natCast] at hlen
  have hsrt := pdq_sorts (ltOf cmpI) swoI xs.toArray 0 xs.toArray.size (Lib.bitLen xs.toArray.size) true true (Nat.zero_le _) (Nat.le_refl _) (Or.inl rfl)
  rw [hx] at hcon hlen hsrt
  have wr : IntKind.u64.wrap (m : Int) = m := by simp [IntKind.wrap, IntKind.bits, IntKind.signed]; omega
  have HRES : Hid (∀ n os, ∃ A : List Plr, A.Perm xs ∧ A.Pairwise (fun x y => y.s.q ≤ x.s.q) ∧ (sortWorldK pc 7 w g 0 n (pdq (ltOf cmpI) xs.toArray 0 m (Lib.bitLen m) true true) os).ownsRow 0 142 7 (.slice (some ⟨g, 0, none⟩) m cap) m (pcL A) ∧ Kept (fun j => j = g) w (sortWorldK pc 7 w g 0 n (pdq (ltOf cmpI) xs.toArray 0 m (Lib.bitLen m) true true) os)) := by
    intro n os
    obtain ⟨hp, hs⟩ := hsrt
    generalize pdq (ltOf cmpI) xs.toArray 0 m (Lib.bitLen m) true true = d' at hp hs ⊢
    have hsz : d'.size = m := by rw [hp.1, hx]
    refine ⟨d'.toList, ?_, ?_, sort_owns h hsz, sort_kept w g n d' os⟩
    · have := hp.2.2
      rw [show d'.extract 0 m = d' by rw [← hsz]; simp, show xs.toArray.extract 0 m = xs.toArray by rw [← hx]; simp] at this
      simpa using this
    · rw [List.pairwise_iff_getElem]
      intro i j hi hj hij
      have hj2 : j < d'.size := by simpa using hj
      have hi2 : i < d'.size := by omega
      have := hs i j (Nat.zero_le _) hij (by omega)
      rw [ltI, getElem!_pos d' i hi2, getElem!_pos d' j hj2] at this
      have := of_decide_eq_false this
      rw [Array.getElem_toList, Array.getElem_toList]
      omega
  generalize Lib.bitLen m = lim at hcon hlen HRES
  clear hH hlim hsrt hl hx
  go_enter Tryz.func77, Tryz.ntmps77
  go_wp2_with (first
    | (go_at_call 87; refine hlen.mono ?_; rintro e w' ⟨rfl, rfl⟩)
    | (go_at_call 86; refine hcon.mono ?_; rintro e w' ⟨rfl, n, os, rfl⟩))
  go_end0
  exact ⟨⟨_, rfl⟩, HRES.out n os⟩
end Go.Proofs.YthdmbikmjimmkaaGreatDoor
