/-
  One text: CPrt, CCnt.
-/
import Derived.Test.YtggejpccjmolhaaGreatDoorCFPn
import Derived.Test.YtggejpccjmolhaaGreatDoorG04
import Derived.Test.YtggejpccjmolhaaGreatDoorCEPn
import Derived.Deep.RegionWith
namespace Go.Proofs.YtggejpccjmolhaaGreatDoor
open Go.RowKit
set_option linter.unusedVariables false
set_option linter.unusedSimpArgs false
set_option maxRecDepth 100000

theorem pn_cell (w : World) (cs : List Value) (t : TypeId) (j : Nat) (v : Value) (h : cs[j]? = some v) : (w.alloc (.cells cs.toArray t)).cell? ⟨w.heap.size, j, none⟩ = some v := by
  simp [h]
theorem cnt1 (cs : List Value) (wo : Int) (w : World) (h4 : cs[4]? = some (.int .i64 wo)) : Calls Tryz.prog 74 #[.agg cs.toArray] w fun e w' => e = .returned (.bool (inB wo 0 4096)) ∧ Kept No w w' := by
  have HK : Hid (Kept No w (w.alloc (.cells cs.toArray 59))) := (Kept.refl No w).alloc _
  have d4 := pn_cell w cs 59 4 _ h4
  clear h4
  go_enter Tryz.func74, Tryz.ntmps74
  go_wp2_with (go_at_call 75; refine (within_any _ _ _ _).mono ?_; rintro e w' ⟨rfl, rfl⟩)
  go_ret
  exact ⟨by first | rfl | (simp; done) | (congr 2; simp; omega), HK.out⟩
theorem cnt2 (cs : List Value) (na : Option Addr) (n nc : Nat) (bn : n ≤ 9223372036854775807) (w : World) (h7 : cs[7]? = some (.slice na n nc)) : Calls Tryz.prog 76 #[.agg cs.toArray] w fun e w' => e = .returned (.bool (decide ((n : Int) ≤ 1024))) ∧ Kept No w w' := by
  have HK : Hid (Kept No w (w.alloc (.cells cs.toArray 59))) := (Kept.refl No w).alloc _
  have d7 := pn_cell w cs 59 7 _ h7
  clear h7
  go_enter Tryz.func76, Tryz.ntmps76
  go_wp2_with (go_at_call 75; refine (within_any _ _ _ _).mono ?_; rintro e w' ⟨rfl, rfl⟩)
  go_ret
  exact ⟨by first | rfl | (simp; done) | (congr 2; simp; omega), HK.out⟩
theorem cnt3 (cs : List Value) (na : Option Addr) (n nc : Nat) (bn : n ≤ 9223372036854775807) (w : World) (h8 : cs[8]? = some (.slice na n nc)) : Calls Tryz.prog 77 #[.agg cs.toArray] w fun e w' => e = .returned (.bool (inB n 1 16)) ∧ Kept No w w' := by
  have HK : Hid (Kept No w (w.alloc (.cells cs.toArray 59))) := (Kept.refl No w).alloc _
  have d8 := pn_cell w cs 59 8 _ h8
  clear h8
  go_enter Tryz.func77, Tryz.ntmps77
  go_wp2_with (go_at_call 75; refine (within_any _ _ _ _).mono ?_; rintro e w' ⟨rfl, rfl⟩)
  go_ret
  exact ⟨by first | rfl | (simp; done) | (congr 2; simp; omega), HK.out⟩
theorem cnt4 (cs : List Value) (na : Option Addr) (n nc : Nat) (bn : n ≤ 9223372036854775807) (w : World) (h18 : cs[18]? = some (.slice na n nc)) : Calls Tryz.prog 78 #[.agg cs.toArray] w fun e w' => e = .returned (.bool (decide ((n : Int) ≤ 8))) ∧ Kept No w w' := by
  have HK : Hid (Kept No w (w.alloc (.cells cs.toArray 59))) := (Kept.refl No w).alloc _
  have d18 := pn_cell w cs 59 18 _ h18
  clear h18
  go_enter Tryz.func78, Tryz.ntmps78
  go_wp2_with (go_at_call 75; refine (within_any _ _ _ _).mono ?_; rintro e w' ⟨rfl, rfl⟩)
  go_ret
  exact ⟨by first | rfl | (simp; done) | (congr 2; simp; omega), HK.out⟩
theorem cnt5 (cs : List Value) (na : Option Addr) (n nc : Nat) (bn : n ≤ 9223372036854775807) (w : World) (h19 : cs[19]? = some (.slice na n nc)) : Calls Tryz.prog 79 #[.agg cs.toArray] w fun e w' => e = .returned (.bool (decide ((n : Int) ≤ 8))) ∧ Kept No w w' := by
  have HK : Hid (Kept No w (w.alloc (.cells cs.toArray 59))) := (Kept.refl No w).alloc _
  have d19 := pn_cell w cs 59 19 _ h19
  clear h19
  go_enter Tryz.func79, Tryz.ntmps79
  go_wp2_with (go_at_call 75; refine (within_any _ _ _ _).mono ?_; rintro e w' ⟨rfl, rfl⟩)
  go_ret
  exact ⟨by first | rfl | (simp; done) | (congr 2; simp; omega), HK.out⟩
theorem cnt6 (cs : List Value) (na : Option Addr) (n nc : Nat) (bn : n ≤ 9223372036854775807) (w : World) (h20 : cs[20]? = some (.slice na n nc)) : Calls Tryz.prog 80 #[.agg cs.toArray] w fun e w' => e = .returned (.bool (decide ((n : Int) ≤ 8))) ∧ Kept No w w' := by
  have HK : Hid (Kept No w (w.alloc (.cells cs.toArray 59))) := (Kept.refl No w).alloc _
  have d20 := pn_cell w cs 59 20 _ h20
  clear h20
  go_enter Tryz.func80, Tryz.ntmps80
  go_wp2_with (go_at_call 75; refine (within_any _ _ _ _).mono ?_; rintro e w' ⟨rfl, rfl⟩)
  go_ret
  exact ⟨by first | rfl | (simp; done) | (congr 2; simp; omega), HK.out⟩
theorem part1 (cs : List Value) (wo : Int) (fi : Int) (w : World) (h4 : cs[4]? = some (.int .i64 wo)) (h5 : cs[5]? = some (.int .i64 fi)) : Calls Tryz.prog 84 #[.agg cs.toArray] w fun e w' => e = .returned (.bool (inB fi 0 wo)) ∧ Kept No w w' := by
  have HK : Hid (Kept No w (w.alloc (.cells cs.toArray 59))) := (Kept.refl No w).alloc _
  have d4 := pn_cell w cs 59 4 _ h4
  have d5 := pn_cell w cs 59 5 _ h5
  clear h4 h5
  go_enter Tryz.func84, Tryz.ntmps84
  go_wp2_with (go_at_call 75; refine (within_any _ _ _ _).mono ?_; rintro e w' ⟨rfl, rfl⟩)
  go_ret
  exact ⟨by first | rfl | (simp; done) | (congr 2; simp; omega), HK.out⟩
theorem part2 (cs : List Value) (wo : Int) (na : Option Addr) (n nc : Nat) (bn : n ≤ 9223372036854775807) (w : World) (h4 : cs[4]? = some (.int .i64 wo)) (h6 : cs[6]? = some (.slice na n nc)) : Calls Tryz.prog 85 #[.agg cs.toArray] w fun e w' => e = .returned (.bool (decide ((n : Int) ≤ wo))) ∧ Kept No w w' := by
  have HK : Hid (Kept No w (w.alloc (.cells cs.toArray 59))) := (Kept.refl No w).alloc _
  have d4 := pn_cell w cs 59 4 _ h4
  have d6 := pn_cell w cs 59 6 _ h6
  clear h4 h6
  go_enter Tryz.func85, Tryz.ntmps85
  go_wp2_with (go_at_call 75; refine (within_any _ _ _ _).mono ?_; rintro e w' ⟨rfl, rfl⟩)
  go_ret
  exact ⟨by first | rfl | (simp; done) | (congr 2; simp; omega), HK.out⟩
theorem part3 (cs : List Value) (na : Option Addr) (n nc : Nat) (bn : n ≤ 9223372036854775807) (w : World) (h7 : cs[7]? = some (.slice na n nc)) : Calls Tryz.prog 86 #[.agg cs.toArray] w fun e w' => e = .returned (.bool (decide ((n : Int) > 0))) ∧ Kept No w w' := by
  have HK : Hid (Kept No w (w.alloc (.cells cs.toArray 59))) := (Kept.refl No w).alloc _
  have d7 := pn_cell w cs 59 7 _ h7
  clear h7
  go_enter Tryz.func86, Tryz.ntmps86
  go_wp2_with (go_at_call 75; refine (within_any _ _ _ _).mono ?_; rintro e w' ⟨rfl, rfl⟩)
  go_ret
  exact ⟨by first | rfl | (simp; done) | (congr 2; simp; omega), HK.out⟩
theorem part7 (cs : List Value) (h0 : Int) (w : World) (h10 : cs[10]? = some (.int .i64 h0)) : Calls Tryz.prog 96 #[.agg cs.toArray] w fun e w' => e = .returned (.bool (h0 == 0)) ∧ Kept No w w' := by
  have HK : Hid (Kept No w (w.alloc (.cells cs.toArray 59))) := (Kept.refl No w).alloc _
  have d10 := pn_cell w cs 59 10 _ h10
  clear h10
  go_enter Tryz.func96, Tryz.ntmps96
  go_wp2_with (go_at_call 75; refine (within_any _ _ _ _).mono ?_; rintro e w' ⟨rfl, rfl⟩)
  go_ret
  exact ⟨by first | rfl | (simp; done) | (congr 2; simp; omega), HK.out⟩

end Go.Proofs.YtggejpccjmolhaaGreatDoor

namespace Go.Proofs.YtggejpccjmolhaaGreatDoor
open Go.RowKit
set_option linter.unusedVariables false
set_option linter.unusedSimpArgs false
set_option maxRecDepth 100000

theorem findsPn_al (err : Int) (k : Nat) (caps : Array Value) (cs : List Value) (hl : cs.length = 21) (aa : Option Addr) (an ac : Nat) (w : World) (hen : Enters Tryz.prog k) (b : Bool)
    (hc : ∀ w', Kept No w w' → Calls Tryz.prog k (#[.agg cs.toArray] ++ caps) w' fun e w'' => e = .returned (.bool b) ∧ Kept No w' w'') :
    Calls Tryz.prog 73 #[.agg #[.int .i64 err, .func (.func k) #[] caps, .nilFunc, .nilFunc], .agg cs.toArray, .slice aa an ac] w fun e w' => e = .returned (.int .i64 (if b then 0 else err)) ∧ Kept No w w' := by
  cases b
  · exact findsPn_alone_false err k caps cs hl aa an ac w hen hc
  · exact findsPn_alone_true err k caps cs hl aa an ac w hen hc
def dPn : Pn := ⟨0, 0, 0, 0, 0, 0, [], [], [], 0, 0, 0, 0, 0, 0, 0, 0, 0, [], [], []⟩
def rsCn : Nat → Rw
  | 0 => ⟨100, .func (.func 74) #[] #[], .nilFunc, .nilFunc, rfl, rfl, rfl⟩
  | 1 => ⟨100, .func (.func 76) #[] #[], .nilFunc, .nilFunc, rfl, rfl, rfl⟩
  | 2 => ⟨100, .func (.func 77) #[] #[], .nilFunc, .nilFunc, rfl, rfl, rfl⟩
  | 3 => ⟨100, .func (.func 78) #[] #[], .nilFunc, .nilFunc, rfl, rfl, rfl⟩
  | 4 => ⟨100, .func (.func 79) #[] #[], .nilFunc, .nilFunc, rfl, rfl, rfl⟩
  | _ => ⟨100, .func (.func 80) #[] #[], .nilFunc, .nilFunc, rfl, rfl, rfl⟩
theorem tableCn (w : World) : Calls Tryz.prog 54 #[] w fun e w' => ∃ tb, e = .returned (.slice (some ⟨tb, 0, none⟩) 6 6) ∧ Tb w' tb 6 rsCn ∧ Kept No w w' := by
  have HK : Hid (∀ o, Kept No w (w.alloc o)) := fun o => (Kept.refl No w).alloc o
  go_enter Tryz.func54, Tryz.ntmps54
  go_wp2
  go_ret
  refine ⟨_, rfl, ?_, HK.out _⟩
  intro j hj
  match j, hj with
  | 0, _ => exact ⟨by simp [rsCn], by simp [rsCn], by simp [rsCn], by simp [rsCn]⟩
  | 1, _ => exact ⟨by simp [rsCn], by simp [rsCn], by simp [rsCn], by simp [rsCn]⟩
  | 2, _ => exact ⟨by simp [rsCn], by simp [rsCn], by simp [rsCn], by simp [rsCn]⟩
  | 3, _ => exact ⟨by simp [rsCn], by simp [rsCn], by simp [rsCn], by simp [rsCn]⟩
  | 4, _ => exact ⟨by simp [rsCn], by simp [rsCn], by simp [rsCn], by simp [rsCn]⟩
  | 5, _ => exact ⟨by simp [rsCn], by simp [rsCn], by simp [rsCn], by simp [rsCn]⟩
def bCn (x : Pn) : Nat → Bool
  | 0 => inB x.wo 0 4096
  | 1 => decide ((x.code.length : Int) ≤ 1024)
  | 2 => inB x.procs.length 1 16
  | 3 => decide ((x.sems.length : Int) ≤ 8)
  | 4 => decide ((x.evs.length : Int) ≤ 8)
  | _ => decide ((x.bufs.length : Int) ≤ 8)

/-- the cells of the partitions of a list -/
theorem pn_cells {w : World} {F : Nat → Prop} {a : Option Addr} {n c : Nat} {xs : List Pn} (h : Ls 21 elPn w F a n c xs) :
    ∃ cs : Nat → List Value, ∀ i, i < n → (∃ b o, a = some ⟨b, o, none⟩ ∧ w.rangeAt b (o + i * 21) (cs i)) ∧ (cs i).length = 21 ∧ (∀ v ∈ cs i, v.oneCell' = true) ∧ elPn w F (cs i) (xs.getD i dPn) := by
  have each : ∀ i, ∃ cs : List Value, i < n → (∃ b o, a = some ⟨b, o, none⟩ ∧ w.rangeAt b (o + i * 21) cs) ∧ cs.length = 21 ∧ (∀ v ∈ cs, v.oneCell' = true) ∧ elPn w F cs (xs.getD i dPn) := by
    intro i
    by_cases hi : i < n
    · have hx : xs[i]? = some (xs.getD i dPn) := by rw [List.getD, List.getElem?_eq_getElem (by rw [h.len]; exact hi)]; rfl
      obtain ⟨b, o, cs, e, hb, hl, hr, hE⟩ := h.at' i _ hx
      refine ⟨cs, fun _ => ⟨⟨b, o, e, hr⟩, hl, ?_, hE⟩⟩
      obtain ⟨a0, n0, c0, a1, n1, c1, a2, n2, c2, a3, n3, c3, a4, n4, c4, a5, n5, c5, rfl, _⟩ := hE.sl
      intro v hv
      simp only [List.mem_cons, List.not_mem_nil, or_false] at hv
      rcases hv with rfl | rfl | rfl | rfl | rfl | rfl | rfl | rfl | rfl | rfl | rfl | rfl | rfl | rfl | rfl | rfl | rfl | rfl | rfl | rfl | rfl <;> rfl
    · exact ⟨[], fun h => absurd h hi⟩
  obtain ⟨f, hf⟩ := Classical.axiomOfChoice each
  exact ⟨f, hf⟩

theorem each_Cn (F : Nat → Prop) (a : Option Addr) (n c : Nat) (xs : List Pn) (tb : Nat) (w : World) (h : Ls 21 elPn w F a n c xs) (hT : Tb w tb 6 rsCn) :
    Calls Tryz.prog 53 #[.slice a n c, .int .i64 1, .slice (some ⟨tb, 0, none⟩) 6 6] w fun e w' => e = .returned (fv (eachF (fun i => rowsF (fun j => if bCn (xs.getD i dPn) j then 0 else 100) 6) 1 n)) ∧ Kept No w w' := by
  obtain ⟨cs, hcs⟩ := pn_cells h
  refine eachPn 1 a n c cs tb 6 6 rsCn (fun i j => if bCn (xs.getD i dPn) j then 0 else 100) w h.cap h.max (fun i hi => (hcs i hi).1) (fun i hi => ⟨(hcs i hi).2.1, (hcs i hi).2.2.1⟩) (by omega) hT (by omega) (by omega) ?_
  intro i j w' hi hj hw
  obtain ⟨_, hl, _, hE⟩ := hcs i hi
  obtain ⟨a0, n0, c0, a1, n1, c1, a2, n2, c2, a3, n3, c3, a4, n4, c4, a5, n5, c5, e, l0, l1, l2, l3, l4, l5⟩ := hE.sl
  have q1 := l1.len
  have q2 := l2.len
  have q3 := l3.len
  have q4 := l4.len
  have q5 := l5.len
  generalize xs.getD i dPn = x at *
  generalize cs i = ci at *
  have f4 : ci[4]? = some (.int .i64 x.wo) := by rw [e]; rfl
  have f7 : ci[7]? = some (.slice a1 x.code.length c1) := by rw [e, q1]; rfl
  have f8 : ci[8]? = some (.slice a2 x.procs.length c2) := by rw [e, q2]; rfl
  have f18 : ci[18]? = some (.slice a3 x.sems.length c3) := by rw [e, q3]; rfl
  have f19 : ci[19]? = some (.slice a4 x.evs.length c4) := by rw [e, q4]; rfl
  have f20 : ci[20]? = some (.slice a5 x.bufs.length c5) := by rw [e, q5]; rfl
  match j, hj with
  | 0, _ => exact findsPn_al 100 _ #[] ci hl a i c w' (enters_of Tryz.func74 (by kernel_rfl) rfl) _ (fun w2 _ => cnt1 ci x.wo w2 f4)
  | 1, _ => exact findsPn_al 100 _ #[] ci hl a i c w' (enters_of Tryz.func76 (by kernel_rfl) rfl) _ (fun w2 _ => cnt2 ci a1 _ c1 (by rw [l1.len]; exact Nat.le_trans l1.cap l1.max) w2 f7)
  | 2, _ => exact findsPn_al 100 _ #[] ci hl a i c w' (enters_of Tryz.func77 (by kernel_rfl) rfl) _ (fun w2 _ => cnt3 ci a2 _ c2 (by rw [l2.len]; exact Nat.le_trans l2.cap l2.max) w2 f8)
  | 3, _ => exact findsPn_al 100 _ #[] ci hl a i c w' (enters_of Tryz.func78 (by kernel_rfl) rfl) _ (fun w2 _ => cnt4 ci a3 _ c3 (by rw [l3.len]; exact Nat.le_trans l3.cap l3.max) w2 f18)
  | 4, _ => exact findsPn_al 100 _ #[] ci hl a i c w' (enters_of Tryz.func79 (by kernel_rfl) rfl) _ (fun w2 _ => cnt5 ci a4 _ c4 (by rw [l4.len]; exact Nat.le_trans l4.cap l4.max) w2 f19)
  | 5, _ => exact findsPn_al 100 _ #[] ci hl a i c w' (enters_of Tryz.func80 (by kernel_rfl) rfl) _ (fun w2 _ => cnt6 ci a5 _ c5 (by rw [l5.len]; exact Nat.le_trans l5.cap l5.max) w2 f20)

end Go.Proofs.YtggejpccjmolhaaGreatDoor
