/-
  One text: RSort, CTab, NDivs.
-/
import Derived.Test.YtknobeiggmghoaaGreatDoorG09
import Derived.Test.YtknobeiggmghoaaGreatDoorG10
import Derived.Test.YtknobeiggmghoaaGreatDoorG04
import Derived.Test.YtknobeiggmghoaaGreatDoorG05
namespace Go.Proofs.YtknobeiggmghoaaGreatDoor
open Go.Shelf Go.RowKit Go.Lib Go.Sort
set_option linter.unusedVariables false
set_option linter.unusedSimpArgs false
set_option maxRecDepth 100000

shelf_lay_g SlLaysF0.n14 Slsf 14 at Tryz 61 as Tryz.pdqW

instance : Inhabited Wr := ⟨⟨0, 0, 0, false, 0, ⟨0, 0, 0, 0, 0, 0⟩⟩⟩
def pw (v : Wr) : List Value := [.int .i64 v.en, .int .i64 v.pr, .int .i64 v.k.T, .int .i64 v.li, .int .i64 v.k.C, .bool v.au, .int .i64 v.pl, .int .i64 v.k.left, .int .i64 v.k.released, .int .i64 v.k.release, .int .i64 v.k.worst]
theorem pw_at (v : Wr) (j : Nat) (hj : j < 11) : (pw v)[j]! = cellv v j := by
  match j, hj with
  | 0, _ => rfl
  | 1, _ => rfl
  | 2, _ => rfl
  | 3, _ => rfl
  | 4, _ => rfl
  | 5, _ => rfl
  | 6, _ => rfl
  | 7, _ => rfl
  | 8, _ => rfl
  | 9, _ => rfl
  | 10, _ => rfl
theorem flat_at (d : Array Wr) (i j : Nat) (hi : i < d.size) (hj : j < 11) : (Sort.flatK pw 11 d)[i * 11 + j]! = cellv d[i]! j := by
  rw [Sort.get_flatK _ _ _ _ (by omega), show (i * 11 + j) / 11 = i by omega, show (i * 11 + j) % 11 = j by omega, pw_at _ _ hj]
theorem holds_ln {w : World} {g : Nat} {d : Array Wr} (h : Ln w g d.size (fun i => d[i]!)) : Sort.HoldsK pw 11 w g 0 d := by
  unfold Sort.HoldsK
  intro j hj
  rw [Sort.size_flatK] at hj
  have := h.2 (j / 11) (j % 11) (by omega) (by omega)
  have e : (Sort.flatK pw 11 d)[j]! = cellv d[j / 11]! (j % 11) := by
    have := flat_at d (j / 11) (j % 11) (by omega) (by omega)
    rwa [show j / 11 * 11 + j % 11 = j by omega] at this
  rw [show j / 11 * 11 + j % 11 = j by omega] at this
  rw [Nat.zero_add, e]
  exact ⟨this, LnF.fz h j⟩
theorem sortW_kept (w : World) (g n : Nat) (d : Array Wr) (os : Array Obj) : Kept (At g) w (sortWorldK pw 11 w g 0 n d os) := by
  refine ⟨rfl, rfl, rfl, ?_, fun j hj hn => ?_⟩
  · simp [sortWorldK, Sort.grow, Sort.putRowK, Sort.ahead]
  · simp only [sortWorldK, Sort.grow, Sort.putRowK, Sort.putRow, Sort.mapBlock, Sort.ahead]
    rw [Array.getElem?_append_left (by simpa using hj), Array.getElem?_modify, if_neg (fun e => hn e.symm)]
theorem sortW_ln {w : World} {g n : Nat} {d d' : Array Wr} {os : Array Obj} (h : Ln w g d.size (fun i => d[i]!)) (hd : d'.size = d.size) : Ln (sortWorldK pw 11 w g 0 n d' os) g d.size (fun i => d'[i]!) := by
  have hH := holdsK_sortWorldK_c pw 11 w g 0 d d' n os (holds_ln h) h.lt hd
  obtain ⟨cs, hc⟩ := h.1
  have hlt := h.lt
  refine ⟨?_, fun i j hi hj => ?_⟩
  · refine ⟨Sort.putCells id 0 (Sort.flatK pw 11 d') cs, ?_⟩
    simp only [sortWorldK, Sort.grow, Sort.putRowK, Sort.putRow, Sort.mapBlock, Sort.ahead]
    rw [Array.getElem?_append_left (by simpa using hlt), Array.getElem?_modify, if_pos rfl, hc]
    rfl
  · unfold Sort.HoldsK at hH
    have := (hH (i * 11 + j) (by rw [Sort.size_flatK, hd]; omega)).1
    rw [flat_at d' i j (by omega) hj, Nat.zero_add] at this
    exact this

/-- comparing priorities, the greater first -/
def cmpW (x y : Wr) : Int := if y.pr < x.pr then -1 else if y.pr > x.pr then 1 else 0
theorem closureW_any (x y : Wr) (W : World) : Calls Tryz.prog 31 #[.agg (pw x).toArray, .agg (pw y).toArray] W fun e w' => e = .returned (.int .i64 (cmpW x y)) ∧ ∃ q os', w' = Sort.grow (W.drewN q) os' := by
  have hcon := fun W' => compare_any y.pr x.pr W'
  unfold cmpW
  generalize (if y.pr < x.pr then (-1 : Int) else if y.pr > x.pr then 1 else 0) = r at hcon ⊢
  unfold pw
  go_enter Tryz.func31, Tryz.ntmps31
  go_wp2_with (go_at_call 32; refine (hcon _).mono ?_; rintro e w' ⟨rfl, rfl⟩)
  go_ret
  exact ⟨rfl, 0, _, by rw [Sort.alloc_eq_grow, Sort.alloc_eq_grow, Sort.grow_grow]; rfl⟩
theorem ltW (x y : Wr) : ltOf cmpW x y = decide (y.pr < x.pr) := by
  unfold ltOf cmpW
  by_cases h1 : y.pr < x.pr
  · simp [h1]
  · by_cases h2 : x.pr < y.pr <;> simp [h1, h2]
theorem swoW : SWO (ltOf cmpW) where
  irrefl x := by rw [ltW]; simp
  trans x y z h1 h2 := by rw [ltW] at *; simp at *; omega
  ntrans x y z h1 h2 := by rw [ltW] at *; simp at *; omega
theorem cmpLaysW (blk off size : Nat) (w : World) : CmpLays Tryz.prog 31 #[] pw 11 cmpW blk off size w :=
  fun _ _ _ _ x y => closureW_any x y _

set_option maxHeartbeats 1000000 in
theorem sortW_any (d : Array Wr) (g m cap : Nat) (w : World) (hx : d.size = m) (h : Ln w g d.size (fun i => d[i]!)) (hm : m ≤ 64) (hmc : m ≤ cap) :
    Calls Tryz.prog 30 #[.slice (some ⟨g, 0, none⟩) m cap, .func (.func 31) #[] #[]] w fun e w' => (∃ v, e = .returned v) ∧ ∃ d' : Array Wr, d'.size = m ∧ d'.toList.Perm d.toList ∧ d'.toList.Pairwise (fun x y => y.pr ≤ x.pr) ∧ Ln w' g m (fun i => d'[i]!) ∧ Kept (At g) w w' := by
  have hb := h.lt
  have eg : ∀ args w, (callFunc 31 args).run Tryz.prog w = .ok (.enter 31 args) w := enters_of Tryz.func31 (by kernel_rfl) rfl
  have hH := holds_ln h
  have hlim : Lib.bitLen d.size < 4611686018427387904 := Nat.lt_of_le_of_lt (Lib.bitLen_le d.size 62 (by omega) (by omega)) (by omega)
  have hcon := AnyQ.pdqsortCmpFunc_all Tryz.pdqW 11 Tryz.isAgg54 Tryz.sizeOf54 pw cmpW 31 #[] swoW g 0 cap d w eg (cmpLaysW g 0 _ w) ⟨(fun _ => rfl), (fun x v hv => by simp [pw] at hv; rcases hv with rfl | rfl | rfl | rfl | rfl | rfl | rfl | rfl | rfl | rfl | rfl <;> rfl), hH, hb⟩ (d.size + 1) 0 d.size (Lib.bitLen d.size) d w (by omega) rfl (SWK.start hH) (Nat.zero_le _) (Nat.le_refl _) (by rw [hx]; omega) hlim (Or.inl rfl)
  change Calls Tryz.prog 61 _ _ _ at hcon
  have hlen := Any.bits_Len Tryz.bitsLen (d.size : Int) w (by omega) (by omega)
  change Calls Tryz.prog 62 _ _ _ at hlen
  rw [Int.toNat_natCast] at hlen
  have hsrt := pdq_sorts (ltOf cmpW) swoW d 0 d.size (Lib.bitLen d.size) true true (Nat.zero_le _) (Nat.le_refl _) (Or.inl rfl)
  rw [hx] at hcon hlen hsrt
  have wr : IntKind.u64.wrap (m : Int) = m := by simp [IntKind.wrap, IntKind.bits, IntKind.signed]; omega
  have HRES : Hid (∀ n os, ∃ d' : Array Wr, d'.size = m ∧ d'.toList.Perm d.toList ∧ d'.toList.Pairwise (fun x y => y.pr ≤ x.pr) ∧ Ln (sortWorldK pw 11 w g 0 n (pdq (ltOf cmpW) d 0 m (Lib.bitLen m) true true) os) g m (fun i => d'[i]!) ∧ Kept (At g) w (sortWorldK pw 11 w g 0 n (pdq (ltOf cmpW) d 0 m (Lib.bitLen m) true true) os)) := by
    intro n os
    obtain ⟨hp, hs⟩ := hsrt
    generalize pdq (ltOf cmpW) d 0 m (Lib.bitLen m) true true = d' at hp hs ⊢
    have hsz : d'.size = m := by rw [hp.1, hx]
    refine ⟨d', hsz, ?_, ?_, ?_, sortW_kept w g n d' os⟩
    · have := hp.2.2
      rw [show d'.extract 0 m = d' by rw [← hsz]; simp, show d.extract 0 m = d by rw [← hx]; simp] at this
      simpa using this
    · rw [List.pairwise_iff_getElem]
      intro i j hi hj hij
      have hj2 : j < d'.size := by simpa using hj
      have hi2 : i < d'.size := by omega
      have := hs i j (Nat.zero_le _) hij (by omega)
      rw [ltW, getElem!_pos d' i hi2, getElem!_pos d' j hj2] at this
      have := of_decide_eq_false this
      rw [Array.getElem_toList, Array.getElem_toList]
      omega
    · have := sortW_ln (n := n) (os := os) h (d' := d') (by omega)
      rw [hx] at this
      exact this
  generalize Lib.bitLen m = lim at hcon hlen HRES
  clear hH hlim hsrt hx
  go_enter Tryz.func30, Tryz.ntmps30
  go_wp2_with (first
    | (go_at_call 62; refine hlen.mono ?_; rintro e w' ⟨rfl, rfl⟩)
    | (go_at_call 61; refine hcon.mono ?_; rintro e w' ⟨rfl, n, os, rfl⟩))
  go_end0
  exact ⟨⟨_, rfl⟩, HRES.out n os⟩
end Go.Proofs.YtknobeiggmghoaaGreatDoor

namespace Go.Proofs.YtknobeiggmghoaaGreatDoor
open Go.RowKit
set_option linter.unusedVariables false
set_option maxRecDepth 100000

theorem findsSv_alone (err : Int) (k : Nat) (caps : Array Value) (x : Srv) (aa : Option Addr) (an ac : Nat) (w : World) (hen : Enters Tryz.prog k) (b : Bool)
    (hc : ∀ w', Kept No w w' → Calls Tryz.prog k (#[x.v] ++ caps) w' fun e w'' => e = .returned (.bool b) ∧ Kept No w' w'') :
    Calls Tryz.prog 167 #[.agg #[.int .i64 err, .func (.func k) #[] caps, .nilFunc, .nilFunc], x.v, .slice aa an ac] w fun e w' => e = .returned (.int .i64 (if b then 0 else err)) ∧ Kept No w w' := by
  cases b
  · exact findsSv_alone_false err k caps x.p x.b x.o x.q aa an ac w hen hc
  · exact findsSv_alone_true err k caps x.p x.b x.o x.q aa an ac w hen hc
theorem findsSv_behind (err : Int) (k : Nat) (caps : Array Value) (x : Srv) (aa : Option Addr) (an ac : Nat) (w : World) (hen : Enters Tryz.prog k) (b : Bool)
    (hc : ∀ w', Kept No w w' → Calls Tryz.prog k (#[x.v, .slice aa an ac] ++ caps) w' fun e w'' => e = .returned (.bool b) ∧ Kept No w' w'') :
    Calls Tryz.prog 167 #[.agg #[.int .i64 err, .nilFunc, .func (.func k) #[] caps, .nilFunc], x.v, .slice aa an ac] w fun e w' => e = .returned (.int .i64 (if b then 0 else err)) ∧ Kept No w w' := by
  cases b
  · exact findsSv_behind_false err k caps x.p x.b x.o x.q aa an ac w hen hc
  · exact findsSv_behind_true err k caps x.p x.b x.o x.q aa an ac w hen hc
theorem findsSl_alone (err : Int) (k : Nat) (caps : Array Value) (la : Option Addr) (ln lc : Nat) (aa : Option Addr) (an ac : Nat) (w : World) (hen : Enters Tryz.prog k) (b : Bool)
    (hc : ∀ w', Kept No w w' → Calls Tryz.prog k (#[.slice la ln lc] ++ caps) w' fun e w'' => e = .returned (.bool b) ∧ Kept No w' w'') :
    Calls Tryz.prog 173 #[.agg #[.int .i64 err, .func (.func k) #[] caps, .nilFunc, .nilFunc], .slice la ln lc, .slice aa an ac] w fun e w' => e = .returned (.int .i64 (if b then 0 else err)) ∧ Kept No w w' := by
  cases b
  · exact findsSl_alone_false err k caps la ln lc aa an ac w hen hc
  · exact findsSl_alone_true err k caps la ln lc aa an ac w hen hc

/-- the rows of servers -/
def rsS : Nat → Rw
  | 0 => ⟨101, .func (.func 168) #[] #[], .nilFunc, .nilFunc, rfl, rfl, rfl⟩
  | 1 => ⟨101, .func (.func 169) #[] #[], .nilFunc, .nilFunc, rfl, rfl, rfl⟩
  | 2 => ⟨101, .func (.func 170) #[] #[], .nilFunc, .nilFunc, rfl, rfl, rfl⟩
  | 3 => ⟨101, .func (.func 171) #[] #[], .nilFunc, .nilFunc, rfl, rfl, rfl⟩
  | _ => ⟨101, .nilFunc, .func (.func 172) #[] #[], .nilFunc, rfl, rfl, rfl⟩
def bS (xs : List Srv) (i : Nat) : Nat → Bool
  | 0 => inB (xs.getD i ⟨0, 0, 0, 0⟩).p 1 1048576
  | 1 => inB (xs.getD i ⟨0, 0, 0, 0⟩).b 1 (xs.getD i ⟨0, 0, 0, 0⟩).p
  | 2 => inB (xs.getD i ⟨0, 0, 0, 0⟩).o 0 (wrap64 ((xs.getD i ⟨0, 0, 0, 0⟩).p - 1))
  | 3 => inB (xs.getD i ⟨0, 0, 0, 0⟩).q 0 255
  | _ => !decide (0 ≤ idxF (xs.take i) (xs.getD i ⟨0, 0, 0, 0⟩).q i)
/-- the cells of a table of five rows and of one -/
theorem table5 (w : World) : Calls Tryz.prog 120 #[] w fun e w' => ∃ tb, e = .returned (.slice (some ⟨tb, 0, none⟩) 5 5) ∧ Tb w' tb 5 rsS ∧ Kept No w w' := by
  have HK : Hid (∀ o, Kept No w (w.alloc o)) := fun o => (Kept.refl No w).alloc o
  go_enter Tryz.func120, Tryz.ntmps120
  go_wp2
  go_ret
  refine ⟨_, rfl, ?_, HK.out _⟩
  intro j hj
  match j, hj with
  | 0, _ => exact ⟨by simp [rsS], by simp [rsS], by simp [rsS], by simp [rsS]⟩
  | 1, _ => exact ⟨by simp [rsS], by simp [rsS], by simp [rsS], by simp [rsS]⟩
  | 2, _ => exact ⟨by simp [rsS], by simp [rsS], by simp [rsS], by simp [rsS]⟩
  | 3, _ => exact ⟨by simp [rsS], by simp [rsS], by simp [rsS], by simp [rsS]⟩
  | 4, _ => exact ⟨by simp [rsS], by simp [rsS], by simp [rsS], by simp [rsS]⟩
def rsL : Nat → Rw
  | _ => ⟨100, .func (.func 166) #[] #[], .nilFunc, .nilFunc, rfl, rfl, rfl⟩
theorem table1 (w : World) : Calls Tryz.prog 118 #[] w fun e w' => ∃ tb, e = .returned (.slice (some ⟨tb, 0, none⟩) 1 1) ∧ Tb w' tb 1 rsL ∧ Kept No w w' := by
  have HK : Hid (∀ o, Kept No w (w.alloc o)) := fun o => (Kept.refl No w).alloc o
  go_enter Tryz.func118, Tryz.ntmps118
  go_wp2
  go_ret
  refine ⟨_, rfl, ?_, HK.out _⟩
  intro j hj
  match j, hj with
  | 0, _ => exact ⟨by simp [rsL], by simp [rsL], by simp [rsL], by simp [rsL]⟩

/-- the first server that may not be -/
def servF (xs : List Srv) (n : Nat) : Option (Int × Int) := eachF (fun i => rowsF (fun j => if bS xs i j then 0 else 101) 5) 1 n
def findF (xs : List Srv) (n : Nat) : Option (Int × Int) := if n ≤ 32 then servF xs n else some (100, 0)

theorem each_servers (F : Nat → Prop) (a : Option Addr) (n c : Nat) (xs : List Srv) (tb : Nat) (w : World) (h : Sv w F a n c xs) (hT : Tb w tb 5 rsS) :
    Calls Tryz.prog 119 #[.slice a n c, .int .i64 1, .slice (some ⟨tb, 0, none⟩) 5 5] w fun e w' => e = .returned (fv (servF xs n)) ∧ Kept No w w' := by
  refine eachSv F 1 a n c xs tb 5 5 rsS (fun i j => if bS xs i j then 0 else 101) w h (by omega) hT (by omega) (by omega) ?_
  intro i j w' hi hj hw
  match j, hj with
  | 0, _ => exact findsSv_alone 101 _ #[] _ a i c w' (enters_of Tryz.func168 (by kernel_rfl) rfl) _ (fun w2 _ => srow1 _ w2)
  | 1, _ => exact findsSv_alone 101 _ #[] _ a i c w' (enters_of Tryz.func169 (by kernel_rfl) rfl) _ (fun w2 _ => srow2 _ w2)
  | 2, _ => exact findsSv_alone 101 _ #[] _ a i c w' (enters_of Tryz.func170 (by kernel_rfl) rfl) _ (fun w2 _ => srow3 _ w2)
  | 3, _ => exact findsSv_alone 101 _ #[] _ a i c w' (enters_of Tryz.func171 (by kernel_rfl) rfl) _ (fun w2 _ => srow4 _ w2)
  | 4, _ => exact findsSv_behind 101 _ #[] _ a i c w' (enters_of Tryz.func172 (by kernel_rfl) rfl) _ (fun w2 hw2 => srow5 F a i c (xs.take i) _ w2 (((h.keep hw).keep hw2).take i (by omega)))

theorem whole_any (la : Option Addr) (ln lc tb m : Nat) (rs : Nat → Rw) (E : Nat → Int) (w : World) (hm : m ≤ 1000) (hT : Tb w tb m rs)
    (hE : ∀ j w' aa, j < m → Kept No w w' → Calls Tryz.prog 173 #[(rs j).v, .slice la ln lc, .slice aa 0 1] w' fun e w'' => e = .returned (.int .i64 (E j)) ∧ Kept No w' w'') :
    Calls Tryz.prog 59 #[.slice la ln lc, .slice (some ⟨tb, 0, none⟩) m m] w fun e w' => e = .returned (fv (if rowsF E m = 0 then none else some (rowsF E m, 0))) ∧ Kept No w w' := by
  have HK : Hid (Kept No w (w.alloc (.cells #[.slice la ln lc] 63))) := (Kept.refl No w).alloc _
  have hc := eachSl (fun _ => True) 0 la ln lc w.heap.size tb m m rs (fun _ j => E j) (w.alloc (.cells #[.slice la ln lc] 63)) (by simp) hm (hT.kept HK.out) (by omega) (by omega) (fun i j w' hi hj hw => by
    obtain rfl : i = 0 := by omega
    exact hE j w' _ hj (HK.out.trans hw (fun _ h => h.elim)))
  have e1 : eachF (fun i => rowsF E m) 0 1 = (if rowsF E m = 0 then none else some (rowsF E m, 0)) := by
    simp [eachF]
  rw [e1] at hc
  clear hE hT
  generalize (if rowsF E m = 0 then none else some (rowsF E m, (0 : Int))) = z at *
  go_enter Tryz.func59, Tryz.ntmps59
  go_wp2_with (go_at_call 121; refine hc.mono ?_; rintro e w' ⟨rfl, hk2⟩; have HW6 : Hid (Kept No w w') := HK.out.trans hk2 (fun _ h => h.elim); clear hk2)
  go_ret
  exact ⟨rfl, HW6.out⟩

theorem fv_neq (o : Option (Int × Int)) (w : World) : (binOp .neq 81 (fv o) .nilIface).run Tryz.prog w = .ok (.bool o.isSome) w := by
  cases o
  · kernel_rfl
  · rename_i p
    obtain ⟨x, y⟩ := p
    kernel_rfl

set_option maxHeartbeats 2000000 in
theorem findServer_any (F : Nat → Prop) (a : Option Addr) (n c : Nat) (xs : List Srv) (w : World) (h : Sv w F a n c xs) :
    Calls Tryz.prog 58 #[.slice a n c] w fun e w' => e = .returned (fv (findF xs n)) ∧ Kept No w w' := by
  have hn : n ≤ 9223372036854775807 := Nat.le_trans h.cap h.max
  have H1 : Hid (∀ w', Kept No w w' → ∀ tb, Tb w' tb 1 rsL → Calls Tryz.prog 59 #[.slice a n c, .slice (some ⟨tb, 0, none⟩) 1 1] w' fun e w'' => e = .returned (fv (if n ≤ 32 then none else some (100, 0))) ∧ Kept No w' w'') := fun w' hw tb hT => by
    have := whole_any a n c tb 1 rsL (fun _ => if decide (n ≤ 32) then 0 else 100) w' (by omega) hT (fun j w2 aa hj hw2 => findsSl_alone 100 _ #[] a n c aa 0 1 w2 (enters_of Tryz.func166 (by kernel_rfl) rfl) _ (fun w3 _ => lrow1 a n c w3 hn))
    by_cases h32 : n ≤ 32
    · simpa [rowsF, h32] using this
    · simpa [rowsF, h32] using this
  have H2 : Hid (∀ w', Kept No w w' → ∀ tb, Tb w' tb 5 rsS → Calls Tryz.prog 119 #[.slice a n c, .int .i64 1, .slice (some ⟨tb, 0, none⟩) 5 5] w' fun e w'' => e = .returned (fv (servF xs n)) ∧ Kept No w' w'') := fun w' hw tb hT => each_servers F a n c xs tb w' (h.keep hw) hT
  clear h
  by_cases h32 : n ≤ 32
  · have HF : Hid (findF xs n = servF xs n) := by show findF xs n = servF xs n; unfold findF; rw [if_pos h32]
    rw [HF.out]
    have q1 := fv_neq none
    rw [show fv none = Value.nilIface from rfl] at q1
    simp only [Option.isSome] at q1
    generalize servF xs n = z at *
    go_enter Tryz.func58, Tryz.ntmps58
    go_wp2_with (first
      | (go_at_call 118; refine (table1 _).mono ?_; rintro e w1 ⟨tb, rfl, hT, hk1⟩; have HK1 : Hid (Kept No w w1) := hk1; have hc1 := H1.out w1 hk1 tb hT; rw [if_pos h32] at hc1; clear hT hk1)
      | (go_at_call 59; refine hc1.mono ?_; rintro e w2 ⟨rfl, hk2⟩; have HK2 : Hid (Kept No w w2) := HK1.out.trans hk2 (fun _ h => h.elim); clear hk2 hc1 HK1; rw [show fv none = Value.nilIface from rfl])
      | (go_at_call 120; refine (table5 _).mono ?_; rintro e w3 ⟨tb3, rfl, hT, hk1⟩; have HK3 : Hid (Kept No w w3) := HK2.out.trans hk1 (fun _ h => h.elim); have hc3 := H2.out w3 HK3.out tb3 hT; clear hT hk1)
      | (go_at_call 119; refine hc3.mono ?_; rintro e w4 ⟨rfl, hk2⟩; have HK4 : Hid (Kept No w w4) := HK3.out.trans hk2 (fun _ h => h.elim); clear hk2 hc3))
    go_ret
    exact ⟨rfl, HK4.out⟩
  · have HF : Hid (findF xs n = some (100, 0)) := by show findF xs n = some (100, 0); unfold findF; rw [if_neg h32]
    rw [HF.out]
    rw [show fv (some (100, 0)) = Value.iface 114 (.agg #[.int .i64 100, .int .i64 0]) from rfl]
    go_enter Tryz.func58, Tryz.ntmps58
    go_wp2_with (first
      | (go_at_call 118; refine (table1 _).mono ?_; rintro e w1 ⟨tb, rfl, hT, hk1⟩; have HK1 : Hid (Kept No w w1) := hk1; have hc1 := H1.out w1 hk1 tb hT; rw [if_neg h32, show fv (some (100, 0)) = Value.iface 114 (.agg #[.int .i64 100, .int .i64 0]) from rfl] at hc1; clear hT hk1)
      | (go_at_call 59; refine hc1.mono ?_; rintro e w2 ⟨rfl, hk2⟩; have HK2 : Hid (Kept No w w2) := HK1.out.trans hk2 (fun _ h => h.elim); clear hk2 hc1 HK1))
    go_ret
    exact ⟨rfl, HK2.out⟩

end Go.Proofs.YtknobeiggmghoaaGreatDoor

namespace Go.Proofs.YtknobeiggmghoaaGreatDoor.Plain
open Go Go.RowKit

/-- num.Mul: the number -/
def mulV (a b : Int) : Int := if -9223372036854775808 ≤ a * b ∧ a * b ≤ 9223372036854775807 then a * b else 0
/-- num.Mul: whether there is one -/
def mulB (a b : Int) : Bool := if -9223372036854775808 ≤ a * b ∧ a * b ≤ 9223372036854775807 then true else false

theorem mulV_yes {a b : Int} (h : I64 (a * b)) : mulV a b = a * b := if_pos h
theorem mulB_yes {a b : Int} (h : I64 (a * b)) : mulB a b = true := if_pos h
theorem mulV_no {a b : Int} (h : ¬ I64 (a * b)) : mulV a b = 0 := if_neg h
theorem mulB_no {a b : Int} (h : ¬ I64 (a * b)) : mulB a b = false := if_neg h

theorem tmod_bd (m b : Int) (hb : b ≠ 0) : -(b.natAbs : Int) < m.tmod b ∧ m.tmod b < b.natAbs := by
  have h := Int.natAbs_tmod m b
  have := Nat.mod_lt m.natAbs (y := b.natAbs) (by omega)
  omega

/-- what a wrapped product divided back shows -/
theorem mul_wraps (a b : Int) (ha : I64 a) (hb : I64 b) (h0 : b ≠ 0) (hn : ¬ (a = -9223372036854775808 ∧ b = -1)) (h : ¬ I64 (a * b)) :
    (wrap64 ((wrap64 (a * b)).tdiv b) != a) = true := by
  simp only [bne_iff_ne]
  intro e
  have hm := wrap64_I64 (a * b)
  have hw : ∃ k : Int, wrap64 (a * b) = a * b - 18446744073709551616 * k := ⟨(a * b + 9223372036854775808) / 18446744073709551616, by unfold wrap64; omega⟩
  obtain ⟨k, hk⟩ := hw
  have hd := Int.mul_tdiv_add_tmod (wrap64 (a * b)) b
  have hr := tmod_bd (wrap64 (a * b)) b h0
  have hq := Int.natAbs_tdiv_le_natAbs (wrap64 (a * b)) b
  generalize wrap64 (a * b) = m at *
  generalize hqq : m.tdiv b = q at *
  generalize m.tmod b = r at *
  unfold I64 at *
  by_cases hbig : q = 9223372036854775808
  · have hmin : m = -9223372036854775808 := by omega
    have hbv : b = -1 := by
      rw [hbig, hmin] at hd
      omega
    have ha' : a = -9223372036854775808 := by
      rw [hbig] at e; unfold wrap64 at e; omega
    exact hn ⟨ha', hbv⟩
  · have hw : wrap64 q = q := by unfold wrap64; omega
    rw [hw] at e
    subst e
    have hc : q * b = b * q := Int.mul_comm _ _
    generalize q * b = t at *
    omega

theorem mul_back (a b : Int) (h0 : b ≠ 0) : (a * b).tdiv b = a := Int.mul_tdiv_cancel a h0

/-- Euclid's quotient of two int64 is one -/
theorem ediv_I64 (a b : Int) (ha : I64 a) (h0 : b ≠ 0) (hn : ¬ (a = -9223372036854775808 ∧ b = -1)) : I64 (a / b) := by
  unfold I64 at *
  by_cases hb : 0 < b
  · have h1 := @Int.le_ediv_iff_mul_le (-9223372036854775808) a b hb
    have h2 : a / b < 9223372036854775808 ↔ a < 9223372036854775808 * b := Int.ediv_lt_iff_lt_mul hb
    have h3 : -9223372036854775808 * b ≤ -9223372036854775808 := by omega
    have h4 : 9223372036854775808 ≤ 9223372036854775808 * b := by omega
    omega
  · obtain ⟨c, rfl⟩ : ∃ c, b = -c := ⟨-b, by omega⟩
    rw [Int.ediv_neg]
    have hc : 0 < c := by omega
    have h1 := @Int.le_ediv_iff_mul_le (-9223372036854775807) a c hc
    have h2 : a / c < 9223372036854775808 ↔ a < 9223372036854775808 * c := Int.ediv_lt_iff_lt_mul hc
    by_cases h5 : c = 1
    · subst h5; rw [Int.ediv_one]; omega
    · have h3 : -9223372036854775807 * c ≤ -9223372036854775808 := by omega
      have h4 : 9223372036854775808 ≤ 9223372036854775808 * c := by omega
      omega

/-- Go's quotient and rest, said by Euclid's -/
theorem div_cases (a b : Int) (h0 : b ≠ 0) :
    (a.tdiv b = a / b ∧ a.tmod b = a % b) ∨ (0 < b ∧ a % b < b ∧ a.tdiv b = a / b + 1 ∧ a.tmod b = a % b - b) ∨ (b < 0 ∧ a % b < -b ∧ a.tdiv b = a / b - 1 ∧ a.tmod b = a % b + b) := by
  have e1 := @Int.tdiv_eq_ediv a b
  have e2 := @Int.tmod_eq_emod a b
  by_cases h : 0 ≤ a ∨ b ∣ a
  · rw [if_pos h] at e1 e2; left; omega
  · rw [if_neg h] at e1 e2
    right
    have hl := Int.emod_lt a h0
    by_cases hb : 0 < b
    · left; rw [Int.sign_eq_one_of_pos hb] at e1; omega
    · right; rw [Int.sign_eq_neg_one_of_neg (by omega)] at e1; omega

/-- num.Div: whether there is a quotient -/
def divB (a b : Int) : Bool := if b = 0 ∨ (a = -9223372036854775808 ∧ b = -1) then false else true
def divQ (a b : Int) : Int := if divB a b then a / b else 0
def divR (a b : Int) : Int := if divB a b then a % b else 0

theorem divB_no {a b : Int} (h : b = 0 ∨ (a = -9223372036854775808 ∧ b = -1)) : divB a b = false := if_pos h
theorem divB_yes {a b : Int} (h : ¬ (b = 0 ∨ (a = -9223372036854775808 ∧ b = -1))) : divB a b = true := if_neg h
theorem divB_not {a b : Int} (h : divB a b = false) : b = 0 ∨ (a = -9223372036854775808 ∧ b = -1) := by
  apply Decidable.byContradiction; intro hn; rw [divB_yes hn] at h; cases h
theorem divB_is {a b : Int} (h : divB a b = true) : b ≠ 0 ∧ ¬ (a = -9223372036854775808 ∧ b = -1) := by
  apply Decidable.byContradiction; intro hn; rw [divB_no (by omega)] at h; cases h

theorem addV_comm {a b : Int} (ha : I64 a) (hb : I64 b) : addV b a = addV a b := by
  by_cases h : I64 (a + b)
  · rw [addV_yes ha hb h, addV_yes hb ha (by rw [Int.add_comm]; exact h), Int.add_comm]
  · rw [addV_no ha hb h, addV_no hb ha (by rw [Int.add_comm]; exact h)]
theorem addB_comm {a b : Int} (ha : I64 a) (hb : I64 b) : addB b a = addB a b := by
  by_cases h : I64 (a + b)
  · rw [addB_yes ha hb h, addB_yes hb ha (by rw [Int.add_comm]; exact h)]
  · rw [addB_no ha hb h, addB_no hb ha (by rw [Int.add_comm]; exact h)]
theorem sub_back {a b : Int} (ha : I64 a) (hb : I64 b) (h : addB a b = true) : subV (addV a b) b = a ∧ subB (addV a b) b = true := by
  by_cases hf : I64 (a + b)
  · have e : a + b - b = a := by omega
    rw [addV_yes ha hb hf, subV_yes hf hb (by rw [e]; exact ha), subB_yes hf hb (by rw [e]; exact ha), e]; exact ⟨rfl, rfl⟩
  · rw [addB_no ha hb hf] at h; cases h
theorem mulV_comm (a b : Int) : mulV b a = mulV a b := by unfold mulV; rw [Int.mul_comm]
theorem mulB_comm (a b : Int) : mulB b a = mulB a b := by unfold mulB; rw [Int.mul_comm]
theorem mulV_I64 (a b : Int) : I64 (mulV a b) := by
  by_cases h : I64 (a * b)
  · rw [mulV_yes h]; exact h
  · rw [mulV_no h]; unfold I64; omega
theorem div_back {a b : Int} (ha : I64 a) (h0 : b ≠ 0) (h : mulB a b = true) : divQ (mulV a b) b = a ∧ divR (mulV a b) b = 0 ∧ divB (mulV a b) b = true := by
  by_cases hf : I64 (a * b)
  · rw [mulV_yes hf]
    have hy : divB (a * b) b = true := divB_yes (by
      rintro (h | ⟨h1, rfl⟩)
      · exact h0 h
      · unfold I64 at ha; omega)
    refine ⟨?_, ?_, hy⟩
    · unfold divQ; rw [if_pos hy]; exact Int.mul_ediv_cancel a h0
    · unfold divR; rw [if_pos hy]; exact Int.mul_emod_left a b
  · rw [mulB_no hf] at h; cases h
theorem div_facts {a b : Int} (ha : I64 a) (h : divB a b = true) :
    b ≠ 0 ∧ 0 ≤ divR a b ∧ (b < 0 ∨ divR a b < b) ∧ (0 < b ∨ divR a b < -b) ∧ wrap64 (wrap64 (divQ a b * b) + divR a b) = a := by
  obtain ⟨h0, hn⟩ := divB_is h
  unfold divR divQ
  rw [if_pos h, if_pos h]
  have h1 := Int.emod_nonneg a h0
  have h2 := Int.emod_lt a h0
  have h3 := Int.emod_add_mul_ediv a b
  rw [Int.mul_comm] at h3
  generalize a / b * b = t at *
  generalize a % b = r at *
  unfold I64 wrap64 at *
  omega

end Go.Proofs.YtknobeiggmghoaaGreatDoor.Plain
