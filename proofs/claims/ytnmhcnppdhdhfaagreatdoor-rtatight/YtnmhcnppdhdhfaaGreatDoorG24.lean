/-
  One text: CChT, CFIm, CEIm.
-/
import Derived.Test.YtnmhcnppdhdhfaaGreatDoorG22
import Derived.Test.YtnmhcnppdhdhfaaGreatDoorG23
import Derived.Test.YtnmhcnppdhdhfaaGreatDoorG02
namespace Go.Proofs.YtnmhcnppdhdhfaaGreatDoor
open Go.RowKit
set_option linter.unusedVariables false
set_option linter.unusedSimpArgs false
set_option maxRecDepth 100000

theorem ls_take {α : Type} {sz : Nat} {El : World → (Nat → Prop) → List Value → α → Prop} {w : World} {F : Nat → Prop} {a : Option Addr} {n c : Nat} {xs : List α} (h : Ls sz El w F a n c xs) {m : Nat} (hm : m ≤ n) : Ls sz El w F a m c (xs.take m) :=
  ⟨by rw [List.length_take, h.len]; omega, by have := h.cap; omega, h.max, h.nil, fun i x hx => h.at' i x (by
    rw [List.getElem?_take] at hx; split at hx; exact hx; cases hx)⟩
theorem crow6 {F : Nat → Prop} {a : Option Addr} {n c : Nat} {ps : List Po} (kd fr : Int) (ta : Option Addr) (tn tc : Nat) (dst : List Int) (ph pe : Int) (g : Nat) (w : World) (h : Ls 6 elPo w F a n c ps) (hT : Ls 1 elI w F ta tn tc dst) (hg : w.cell? ⟨g, 0, none⟩ = some (.slice a n c)) (hfr : fr = 0 ∨ (1 ≤ fr ∧ fr ≤ n)) (hd : ∀ z ∈ dst, 1 ≤ z ∧ z ≤ n) :
    Calls Tryz.prog 142 #[.agg #[.int .i64 kd, .int .i64 fr, .slice ta tn tc, .int .i64 ph, .int .i64 pe], .pointer (some ⟨g, 0, none⟩)] w fun e w' => e = .returned (.bool (oneSizeB ps fr dst)) ∧ Kept No w w' := by
  have HK : Hid (∀ o, Kept No w (w.alloc o)) := fun o => (Kept.refl No w).alloc o
  have hc := hasOneSize_any kd fr ta tn tc dst ph pe (w.alloc (.cells #[.int .i64 kd, .int .i64 fr, .slice ta tn tc, .int .i64 ph, .int .i64 pe] 65)) (lsPo_keep h (HK.out _)) (hT.kept (HK.out _) (fun _ _ h => h) (elI_kept (HK.out _) (fun _ _ h => h))) hfr hd
  have hg' := (HK.out (.cells #[.int .i64 kd, .int .i64 fr, .slice ta tn tc, .int .i64 ph, .int .i64 pe] 65)).cell hg (fun h => h)
  clear h hg hT hfr hd
  generalize oneSizeB ps fr dst = z at *
  go_enter Tryz.func142, Tryz.ntmps142
  go_wp2_with (go_at_call 143; refine hc.mono ?_; rintro e w' ⟨rfl, k2⟩)
  go_ret
  exact ⟨rfl, (HK.out _).trans k2 (fun _ h => h.elim)⟩

def rsCh (g : Nat) : Nat → Rw
  | 0 => ⟨108, .func (.func 135) #[] #[], .nilFunc, .nilFunc, rfl, rfl, rfl⟩
  | 1 => ⟨108, .func (.func 136) #[] #[.pointer (some ⟨g, 0, none⟩)], .nilFunc, .nilFunc, rfl, rfl, rfl⟩
  | 2 => ⟨108, .nilFunc, .func (.func 138) #[] #[], .nilFunc, rfl, rfl, rfl⟩
  | 3 => ⟨108, .func (.func 139) #[] #[.pointer (some ⟨g, 0, none⟩)], .nilFunc, .nilFunc, rfl, rfl, rfl⟩
  | 4 => ⟨108, .nilFunc, .func (.func 141) #[] #[], .nilFunc, rfl, rfl, rfl⟩
  | 5 => ⟨108, .func (.func 142) #[] #[.pointer (some ⟨g, 0, none⟩)], .nilFunc, .nilFunc, rfl, rfl, rfl⟩
  | 6 => ⟨108, .func (.func 144) #[] #[], .nilFunc, .nilFunc, rfl, rfl, rfl⟩
  | _ => ⟨108, .func (.func 145) #[] #[], .nilFunc, .nilFunc, rfl, rfl, rfl⟩
set_option maxHeartbeats 4000000 in
theorem tableCh (a : Option Addr) (n c : Nat) (w : World) : Calls Tryz.prog 78 #[.slice a n c] w fun e w' => ∃ g tb, e = .returned (.slice (some ⟨tb, 0, none⟩) 8 8) ∧ Tb w' tb 8 (rsCh g) ∧ w'.cell? ⟨g, 0, none⟩ = some (.slice a n c) ∧ Kept No w w' := by
  have HK : Hid (∀ o o', Kept No w (w.alloc o) ∧ Kept No w ((w.alloc o').alloc o)) := fun o o' => ⟨(Kept.refl No w).alloc o, ((Kept.refl No w).alloc o').alloc o⟩
  have hmf : ∀ (fn : Fn) (first cap : Array Value) (w : World), (Instr.makeFunc fn first cap).run Tryz.prog w = .ok (.func fn first cap) w := fun _ _ _ _ => rfl
  go_enter Tryz.func78, Tryz.ntmps78
  go_wp2
  go_ret
  refine ⟨w.heap.size, w.heap.size + 1, rfl, ?_, by simp, (HK.out _ _).2⟩
  intro j hj
  match j, hj with
  | 0, _ => exact ⟨by simp [rsCh], by simp [rsCh], by simp [rsCh], by simp [rsCh]⟩
  | 1, _ => exact ⟨by simp [rsCh], by simp [rsCh], by simp [rsCh], by simp [rsCh]⟩
  | 2, _ => exact ⟨by simp [rsCh], by simp [rsCh], by simp [rsCh], by simp [rsCh]⟩
  | 3, _ => exact ⟨by simp [rsCh], by simp [rsCh], by simp [rsCh], by simp [rsCh]⟩
  | 4, _ => exact ⟨by simp [rsCh], by simp [rsCh], by simp [rsCh], by simp [rsCh]⟩
  | 5, _ => exact ⟨by simp [rsCh], by simp [rsCh], by simp [rsCh], by simp [rsCh]⟩
  | 6, _ => exact ⟨by simp [rsCh], by simp [rsCh], by simp [rsCh], by simp [rsCh]⟩
  | 7, _ => exact ⟨by simp [rsCh], by simp [rsCh], by simp [rsCh], by simp [rsCh]⟩

/-- what a row asks of the i-th channel -/
def bCh (ps : List Po) (L : List Ch) (i : Nat) : Nat → Bool
  | 0 => (L.getD i dCh).kd == 0 || (L.getD i dCh).kd == 1
  | 1 => (L.getD i dCh).fr == 0 || fitB ps (L.getD i dCh).fr true (L.getD i dCh).kd
  | 2 => ownFromB (L.take i) (L.getD i dCh).fr
  | 3 => goesB ps (L.getD i dCh).kd 0 (L.getD i dCh).dst
  | 4 => ownToB (L.take i) (L.getD i dCh).dst
  | 5 => oneSizeB ps (L.getD i dCh).fr (L.getD i dCh).dst
  | 6 => (L.getD i dCh).fr != 0 || decide (0 < (L.getD i dCh).dst.length)
  | _ => timesB (L.getD i dCh)
theorem goes_mem {ps : List Po} {kd : Int} : ∀ {dst : List Int} {l : Int}, goesB ps kd l dst = true → ∀ z ∈ dst, fitB ps z false kd = true
  | [], _, _, z, hz => by cases hz
  | x :: r, l, h, z, hz => by
    simp only [goesB, Bool.and_eq_true] at h
    rcases List.mem_cons.1 hz with rfl | hz
    · exact h.1.2
    · exact goes_mem h.2 z hz
theorem fit_in {ps : List Po} {k kd : Int} {out : Bool} (h : fitB ps k out kd = true) : 1 ≤ k ∧ k ≤ ps.length := by
  unfold fitB at h
  simp only [Bool.and_eq_true] at h
  have := h.1
  simpa [inB] using this

set_option maxHeartbeats 4000000 in
theorem each_Ch (F : Nat → Prop) (a : Option Addr) (n c : Nat) (L : List Ch) (pa : Option Addr) (pn pc : Nat) (ps : List Po) (tb g : Nat) (w : World) (h : Ls 5 elCh w F a n c L) (hP : Ls 6 elPo w F pa pn pc ps) (hg : w.cell? ⟨g, 0, none⟩ = some (.slice pa pn pc)) (hT : Tb w tb 8 (rsCh g)) :
    Calls Tryz.prog 77 #[.slice a n c, .int .i64 1, .slice (some ⟨tb, 0, none⟩) 8 8] w fun e w' => e = .returned (fv (eachF (fun i => rowsF (fun j => if bCh ps L i j then 0 else 108) 8) 1 n)) ∧ Kept No w w' := by
  have hx : ∀ i, i < n → L[i]? = some (L.getD i dCh) := fun i hi => by rw [List.getD, List.getElem?_eq_getElem (by rw [h.len]; exact hi)]; rfl
  have hv : ∀ i, ∃ v : Value, i < n → (∃ ta tn tc, v = .slice ta tn tc ∧ Ls 1 elI w F ta tn tc (L.getD i dCh).dst) ∧ ∃ b o, a = some ⟨b, o, none⟩ ∧ F b ∧ w.cell? ⟨b, o + i * 5, none⟩ = some (.int .i64 (L.getD i dCh).kd) ∧ w.cell? ⟨b, o + i * 5 + 1, none⟩ = some (.int .i64 (L.getD i dCh).fr) ∧ w.cell? ⟨b, o + i * 5 + 2, none⟩ = some v ∧ w.cell? ⟨b, o + i * 5 + 3, none⟩ = some (.int .i64 (L.getD i dCh).ph) ∧ w.cell? ⟨b, o + i * 5 + 4, none⟩ = some (.int .i64 (L.getD i dCh).pe) := by
    intro i
    by_cases hi : i < n
    · obtain ⟨b, o, cs, e, hb, hl, hr, hE⟩ := h.at' i _ (hx i hi)
      obtain ⟨⟨ta, tn, tc, rfl, hL⟩, _⟩ := hE
      exact ⟨.slice ta tn tc, fun _ => ⟨⟨ta, tn, tc, rfl, hL⟩, b, o, e, hb, hr 0 _ rfl, hr 1 _ rfl, hr 2 _ rfl, hr 3 _ rfl, hr 4 _ rfl⟩⟩
    · exact ⟨.nilFunc, fun h => absurd h hi⟩
  obtain ⟨fv', hfv⟩ := Classical.axiomOfChoice hv
  refine eachCh 1 a n c (fun i => .int .i64 (L.getD i dCh).kd) (fun i => .int .i64 (L.getD i dCh).fr) fv' (fun i => .int .i64 (L.getD i dCh).ph) (fun i => .int .i64 (L.getD i dCh).pe) tb 8 8 (rsCh g) (fun i j => if bCh ps L i j then 0 else 108) w h.cap h.max ?_ ?_ (by omega) hT (by omega) (by omega) ?_
  · intro i hi
    obtain ⟨_, b, o, e, _, r⟩ := hfv i hi
    exact ⟨b, o, e, r⟩
  · intro i hi
    obtain ⟨⟨ta, tn, tc, e, _⟩, _⟩ := hfv i hi
    rw [e]
    exact ⟨rfl, rfl, rfl, rfl, rfl⟩
  · intro i j w' hi hj hz hw
    obtain ⟨⟨ta, tn, tc, e, hL⟩, _⟩ := hfv i hi
    rw [e]
    have hLw := fun (w2 : World) (k : Kept No w w2) => hL.kept k (fun _ _ h => h) (elI_kept k (fun _ _ h => h))
    have hCw := fun (w2 : World) (k : Kept No w w2) => (ls_take h (m := i) (by omega)).kept k (fun _ _ h => h) (elCh_kept k (fun _ _ h => h))
    have hPw := fun (w2 : World) (k : Kept No w w2) => lsPo_keep hP k
    have tr := fun (w2 : World) (k : Kept No w' w2) => hw.trans k (fun _ h => h.elim)
    match j, hj, hz with
    | 0, _, _ => exact findsCh_alone 108 _ #[] _ _ _ _ _ a i c w' (enters_of Tryz.func135 (by kernel_rfl) rfl) _ (fun w2 k2 => crow1 _ _ _ _ _ _ _ w2)
    | 1, _, _ => exact findsCh_alone 108 _ #[.pointer (some ⟨g, 0, none⟩)] _ _ _ _ _ a i c w' (enters_of Tryz.func136 (by kernel_rfl) rfl) _ (fun w2 k2 => crow2 _ _ _ _ _ _ _ g w2 (hPw w2 (tr w2 k2)) ((tr w2 k2).cell hg (fun h => h)))
    | 2, _, _ => exact findsCh_behind 108 _ #[] _ _ _ _ _ a i c w' (enters_of Tryz.func138 (by kernel_rfl) rfl) _ (fun w2 k2 => hasOwnFrom_any _ _ _ _ _ _ _ w2 (hCw w2 (tr w2 k2)))
    | 3, _, _ => exact findsCh_alone 108 _ #[.pointer (some ⟨g, 0, none⟩)] _ _ _ _ _ a i c w' (enters_of Tryz.func139 (by kernel_rfl) rfl) _ (fun w2 k2 => crow4 _ _ _ _ _ _ _ _ g w2 (hPw w2 (tr w2 k2)) (hLw w2 (tr w2 k2)) ((tr w2 k2).cell hg (fun h => h)))
    | 4, _, _ => exact findsCh_behind 108 _ #[] _ _ _ _ _ a i c w' (enters_of Tryz.func141 (by kernel_rfl) rfl) _ (fun w2 k2 => hasOwnTo_any _ _ _ _ _ _ _ _ w2 (hCw w2 (tr w2 k2)) (hLw w2 (tr w2 k2)))
    | 5, _, hz =>
      have z1 := rowsF_zero hz 1 (by omega)
      have z3 := rowsF_zero hz 3 (by omega)
      have b1 : bCh ps L i 1 = true := by
        cases hb : bCh ps L i 1
        · simp [hb] at z1
        · rfl
      have b3 : bCh ps L i 3 = true := by
        cases hb : bCh ps L i 3
        · simp [hb] at z3
        · rfl
      simp only [bCh, Bool.or_eq_true] at b1 b3
      refine findsCh_alone 108 _ #[.pointer (some ⟨g, 0, none⟩)] _ _ _ _ _ a i c w' (enters_of Tryz.func142 (by kernel_rfl) rfl) _ (fun w2 k2 => crow6 _ _ _ _ _ _ _ _ g w2 (hPw w2 (tr w2 k2)) (hLw w2 (tr w2 k2)) ((tr w2 k2).cell hg (fun h => h)) ?_ ?_)
      · rcases b1 with b1 | b1
        · exact .inl (by simpa using b1)
        · have := fit_in b1; rw [hP.len] at this; exact .inr this
      · intro z hz'
        have := fit_in (goes_mem b3 z hz'); rw [hP.len] at this; exact this
    | 6, _, _ =>
      have hlen := hL.len
      have := hL.max
      have := hL.cap
      have e6 : bCh ps L i 6 = ((L.getD i dCh).fr != 0 || decide (0 < tn)) := by simp only [bCh, hlen]
      show Calls Tryz.prog _ _ w' fun e w'' => e = .returned (.int .i64 (if bCh ps L i 6 then 0 else 108)) ∧ Kept No w' w''
      rw [e6]
      exact findsCh_alone 108 _ #[] _ _ _ _ _ a i c w' (enters_of Tryz.func144 (by kernel_rfl) rfl) _ (fun w2 k2 => crow7 _ _ _ _ _ _ _ w2 (by omega))
    | 7, _, _ => exact findsCh_alone 108 _ #[] _ _ _ _ _ a i c w' (enters_of Tryz.func145 (by kernel_rfl) rfl) _ (fun w2 k2 => hasTimes_any _ _ _ _ _ _ _ (L.getD i dCh).dst w2)

set_option maxHeartbeats 8000000 in
theorem step6 (F : Nat → Prop) (v0 : Value) (a1 : Option Addr) (n1 c1 : Nat) (a2 : Option Addr) (n2 c2 : Nat) (ps : List Po) (L : List Ch) (w : World) (hP : Ls 6 elPo w F a1 n1 c1 ps) (hL : Ls 5 elCh w F a2 n2 c2 L) :
    Calls Tryz.prog 76 #[.agg #[v0, .slice a1 n1 c1, .slice a2 n2 c2]] w fun e w' => e = .returned (fv (eachF (fun i => rowsF (fun j => if bCh ps L i j then 0 else 108) 8) 1 n2)) ∧ Kept No w w' := by
  have HK : Hid (Kept No w (w.alloc (.cells #[v0, .slice a1 n1 c1, .slice a2 n2 c2] 26))) := (Kept.refl No w).alloc _
  have HC : Hid (∀ w' g tb, Kept No w w' → w'.cell? ⟨g, 0, none⟩ = some (.slice a1 n1 c1) → Tb w' tb 8 (rsCh g) → Calls Tryz.prog 77 #[.slice a2 n2 c2, .int .i64 1, .slice (some ⟨tb, 0, none⟩) 8 8] w' fun e w'' => e = .returned (fv (eachF (fun i => rowsF (fun j => if bCh ps L i j then 0 else 108) 8) 1 n2)) ∧ Kept No w' w'') := fun w' g tb hw hg hT => each_Ch F a2 n2 c2 L a1 n1 c1 ps tb g w' (hL.kept hw (fun _ _ h => h) (elCh_kept hw (fun _ _ h => h))) (lsPo_keep hP hw) hg hT
  have HM : Hid (∀ w', Kept No (w.alloc (.cells #[v0, .slice a1 n1 c1, .slice a2 n2 c2] 26)) w' → w'.cell? ⟨w.heap.size, 1, none⟩ = some (.slice a1 n1 c1) ∧ w'.cell? ⟨w.heap.size, 2, none⟩ = some (.slice a2 n2 c2)) := fun w' k => ⟨k.cell (by simp) (fun h => h), k.cell (by simp) (fun h => h)⟩
  clear hL hP
  generalize eachF (fun i => rowsF (fun j => if bCh ps L i j then 0 else 108) 8) 1 n2 = z at *
  go_enter Tryz.func76, Tryz.ntmps76
  go_upto_region 1 with fail
  generalize w.alloc (.cells #[v0, .slice a1 n1 c1, .slice a2 n2 c2] 26) = w0 at *
  obtain ⟨m0, m1⟩ := HM.out w0 (Kept.refl No w0)
  go_region_with (first
    | (go_at_call 78; refine (tableCh _ _ _ _).mono ?_; rintro e w1 ⟨g, tb, rfl, hT, hg, hk1⟩; have HT : Hid (Tb w1 tb 8 (rsCh g)) := hT; have HGG : Hid (w1.cell? ⟨g, 0, none⟩ = some (.slice a1 n1 c1)) := hg; have HK1 : Hid (Kept No w0 w1) := (Kept.refl No w0).drew.trans hk1 (fun _ h => h.elim); obtain ⟨p0, p1⟩ := HM.out w1 HK1.out; clear hT hk1 hg)
    | (go_at_call 77; refine (HC.out _ _ _ (HK.out.trans HK1.out (fun _ h => h.elim)) HGG.out HT.out).mono ?_; rintro e w2 ⟨rfl, hk2⟩; have HK2 : Hid (Kept No w0 w2) := HK1.out.trans hk2 (fun _ h => h.elim); clear hk2))
  all_goals (try go_wp2)
  all_goals (go_ret; exact ⟨rfl, HK.out.trans HK2.out (fun _ h => h.elim)⟩)
end Go.Proofs.YtnmhcnppdhdhfaaGreatDoor

namespace Go.Proofs.YtnmhcnppdhdhfaaGreatDoor
open Go.RowKit
set_option linter.unusedVariables false
set_option maxRecDepth 100000

set_option maxHeartbeats 4000000 in
theorem findsIm_alone_true (err : Int) (k : Nat) (caps : Array Value) (v0 v1 v2 : Value) (aa : Option Addr) (an ac : Nat) (w : World) (hen : Enters Tryz.prog k)
    (hc : ∀ w', Kept No w w' → Calls Tryz.prog k (#[(.agg #[v0, v1, v2])] ++ caps) w' fun e w'' => e = .returned (.bool true) ∧ Kept No w' w'') :
    Calls Tryz.prog 172 #[.agg #[.int .i64 err, .func (.func k) #[] caps, .nilFunc, .nilFunc], (.agg #[v0, v1, v2]), .slice aa an ac] w fun e w' => e = .returned (.int .i64 0) ∧ Kept No w w' := by
  have HK : Hid (Kept No w ((w.alloc (.cells #[.int .i64 err, .func (.func k) #[] caps, .nilFunc, .nilFunc] 183)).alloc (.cells #[v0, v1, v2] 26))) := ((Kept.refl No w).alloc _).alloc _
  have hc1 := hc _ HK.out
  have HM : Hid (∀ w', Kept No ((w.alloc (.cells #[.int .i64 err, .func (.func k) #[] caps, .nilFunc, .nilFunc] 183)).alloc (.cells #[v0, v1, v2] 26)) w' → w'.cell? ⟨w.heap.size, 0, none⟩ = some (.int .i64 err) ∧ w'.cell? ⟨w.heap.size, 1, none⟩ = some (.func (.func k) #[] caps) ∧ w'.cell? ⟨w.heap.size, 2, none⟩ = some (.nilFunc) ∧ w'.cell? ⟨w.heap.size, 3, none⟩ = some (.nilFunc)) := fun w' k => ⟨k.cell (by simp) (fun h => h), k.cell (by simp) (fun h => h), k.cell (by simp) (fun h => h), k.cell (by simp) (fun h => h)⟩
  clear hc
  unfold Enters at hen
  have q1 : ∀ w : World, (binOp .neq 180 (.func (.func k) #[] caps) .nilFunc).run Tryz.prog w = .ok (.bool true) w := fun w => by kernel_rfl
  have q2 : ∀ w : World, (binOp .neq 181 (.nilFunc) .nilFunc).run Tryz.prog w = .ok (.bool false) w := fun w => by kernel_rfl
  have q3 : ∀ w : World, (binOp .neq 107 .nilFunc .nilFunc).run Tryz.prog w = .ok (.bool false) w := fun w => by kernel_rfl
  go_enter Tryz.func172, Tryz.ntmps172
  go_wp2_with (go_at_fn k; refine hc1.mono ?_; rintro e w' ⟨rfl, hk⟩; have HK2 : Hid (Kept No w w') := HK.out.trans hk (fun _ h => h.elim); obtain ⟨m0, m1, m2, m3⟩ := HM.out _ hk; clear hk)
  go_ret
  exact ⟨rfl, HK2.out⟩

set_option maxHeartbeats 4000000 in
theorem findsIm_alone_false (err : Int) (k : Nat) (caps : Array Value) (v0 v1 v2 : Value) (aa : Option Addr) (an ac : Nat) (w : World) (hen : Enters Tryz.prog k)
    (hc : ∀ w', Kept No w w' → Calls Tryz.prog k (#[(.agg #[v0, v1, v2])] ++ caps) w' fun e w'' => e = .returned (.bool false) ∧ Kept No w' w'') :
    Calls Tryz.prog 172 #[.agg #[.int .i64 err, .func (.func k) #[] caps, .nilFunc, .nilFunc], (.agg #[v0, v1, v2]), .slice aa an ac] w fun e w' => e = .returned (.int .i64 err) ∧ Kept No w w' := by
  have HK : Hid (Kept No w ((w.alloc (.cells #[.int .i64 err, .func (.func k) #[] caps, .nilFunc, .nilFunc] 183)).alloc (.cells #[v0, v1, v2] 26))) := ((Kept.refl No w).alloc _).alloc _
  have hc1 := hc _ HK.out
  have HM : Hid (∀ w', Kept No ((w.alloc (.cells #[.int .i64 err, .func (.func k) #[] caps, .nilFunc, .nilFunc] 183)).alloc (.cells #[v0, v1, v2] 26)) w' → w'.cell? ⟨w.heap.size, 0, none⟩ = some (.int .i64 err) ∧ w'.cell? ⟨w.heap.size, 1, none⟩ = some (.func (.func k) #[] caps) ∧ w'.cell? ⟨w.heap.size, 2, none⟩ = some (.nilFunc) ∧ w'.cell? ⟨w.heap.size, 3, none⟩ = some (.nilFunc)) := fun w' k => ⟨k.cell (by simp) (fun h => h), k.cell (by simp) (fun h => h), k.cell (by simp) (fun h => h), k.cell (by simp) (fun h => h)⟩
  clear hc
  unfold Enters at hen
  have q1 : ∀ w : World, (binOp .neq 180 (.func (.func k) #[] caps) .nilFunc).run Tryz.prog w = .ok (.bool true) w := fun w => by kernel_rfl
  have q2 : ∀ w : World, (binOp .neq 181 (.nilFunc) .nilFunc).run Tryz.prog w = .ok (.bool false) w := fun w => by kernel_rfl
  have q3 : ∀ w : World, (binOp .neq 107 .nilFunc .nilFunc).run Tryz.prog w = .ok (.bool false) w := fun w => by kernel_rfl
  go_enter Tryz.func172, Tryz.ntmps172
  go_wp2_with (go_at_fn k; refine hc1.mono ?_; rintro e w' ⟨rfl, hk⟩; have HK2 : Hid (Kept No w w') := HK.out.trans hk (fun _ h => h.elim); obtain ⟨m0, m1, m2, m3⟩ := HM.out _ hk; clear hk)
  go_ret
  exact ⟨rfl, HK2.out⟩

theorem findsIm_alone (err : Int) (k : Nat) (caps : Array Value) (v0 v1 v2 : Value) (aa : Option Addr) (an ac : Nat) (w : World) (hen : Enters Tryz.prog k) (b : Bool)
    (hc : ∀ w', Kept No w w' → Calls Tryz.prog k (#[(.agg #[v0, v1, v2])] ++ caps) w' fun e w'' => e = .returned (.bool b) ∧ Kept No w' w'') :
    Calls Tryz.prog 172 #[.agg #[.int .i64 err, .func (.func k) #[] caps, .nilFunc, .nilFunc], (.agg #[v0, v1, v2]), .slice aa an ac] w fun e w' => e = .returned (.int .i64 (if b then 0 else err)) ∧ Kept No w w' := by
  cases b
  · exact findsIm_alone_false err k caps v0 v1 v2 aa an ac w hen hc
  · exact findsIm_alone_true err k caps v0 v1 v2 aa an ac w hen hc

set_option maxHeartbeats 4000000 in
theorem findsIm_behind_true (err : Int) (k : Nat) (caps : Array Value) (v0 v1 v2 : Value) (aa : Option Addr) (an ac : Nat) (w : World) (hen : Enters Tryz.prog k)
    (hc : ∀ w', Kept No w w' → Calls Tryz.prog k (#[(.agg #[v0, v1, v2]), .slice aa an ac] ++ caps) w' fun e w'' => e = .returned (.bool true) ∧ Kept No w' w'') :
    Calls Tryz.prog 172 #[.agg #[.int .i64 err, .nilFunc, .func (.func k) #[] caps, .nilFunc], (.agg #[v0, v1, v2]), .slice aa an ac] w fun e w' => e = .returned (.int .i64 0) ∧ Kept No w w' := by
  have HK : Hid (Kept No w ((w.alloc (.cells #[.int .i64 err, .nilFunc, .func (.func k) #[] caps, .nilFunc] 183)).alloc (.cells #[v0, v1, v2] 26))) := ((Kept.refl No w).alloc _).alloc _
  have hc1 := hc _ HK.out
  have HM : Hid (∀ w', Kept No ((w.alloc (.cells #[.int .i64 err, .nilFunc, .func (.func k) #[] caps, .nilFunc] 183)).alloc (.cells #[v0, v1, v2] 26)) w' → w'.cell? ⟨w.heap.size, 0, none⟩ = some (.int .i64 err) ∧ w'.cell? ⟨w.heap.size, 1, none⟩ = some (.nilFunc) ∧ w'.cell? ⟨w.heap.size, 2, none⟩ = some (.func (.func k) #[] caps) ∧ w'.cell? ⟨w.heap.size, 3, none⟩ = some (.nilFunc)) := fun w' k => ⟨k.cell (by simp) (fun h => h), k.cell (by simp) (fun h => h), k.cell (by simp) (fun h => h), k.cell (by simp) (fun h => h)⟩
  clear hc
  unfold Enters at hen
  have q1 : ∀ w : World, (binOp .neq 180 (.nilFunc) .nilFunc).run Tryz.prog w = .ok (.bool false) w := fun w => by kernel_rfl
  have q2 : ∀ w : World, (binOp .neq 181 (.func (.func k) #[] caps) .nilFunc).run Tryz.prog w = .ok (.bool true) w := fun w => by kernel_rfl
  have q3 : ∀ w : World, (binOp .neq 107 .nilFunc .nilFunc).run Tryz.prog w = .ok (.bool false) w := fun w => by kernel_rfl
  go_enter Tryz.func172, Tryz.ntmps172
  go_wp2_with (go_at_fn k; refine hc1.mono ?_; rintro e w' ⟨rfl, hk⟩; have HK2 : Hid (Kept No w w') := HK.out.trans hk (fun _ h => h.elim); obtain ⟨m0, m1, m2, m3⟩ := HM.out _ hk; clear hk)
  go_ret
  exact ⟨rfl, HK2.out⟩

set_option maxHeartbeats 4000000 in
theorem findsIm_behind_false (err : Int) (k : Nat) (caps : Array Value) (v0 v1 v2 : Value) (aa : Option Addr) (an ac : Nat) (w : World) (hen : Enters Tryz.prog k)
    (hc : ∀ w', Kept No w w' → Calls Tryz.prog k (#[(.agg #[v0, v1, v2]), .slice aa an ac] ++ caps) w' fun e w'' => e = .returned (.bool false) ∧ Kept No w' w'') :
    Calls Tryz.prog 172 #[.agg #[.int .i64 err, .nilFunc, .func (.func k) #[] caps, .nilFunc], (.agg #[v0, v1, v2]), .slice aa an ac] w fun e w' => e = .returned (.int .i64 err) ∧ Kept No w w' := by
  have HK : Hid (Kept No w ((w.alloc (.cells #[.int .i64 err, .nilFunc, .func (.func k) #[] caps, .nilFunc] 183)).alloc (.cells #[v0, v1, v2] 26))) := ((Kept.refl No w).alloc _).alloc _
  have hc1 := hc _ HK.out
  have HM : Hid (∀ w', Kept No ((w.alloc (.cells #[.int .i64 err, .nilFunc, .func (.func k) #[] caps, .nilFunc] 183)).alloc (.cells #[v0, v1, v2] 26)) w' → w'.cell? ⟨w.heap.size, 0, none⟩ = some (.int .i64 err) ∧ w'.cell? ⟨w.heap.size, 1, none⟩ = some (.nilFunc) ∧ w'.cell? ⟨w.heap.size, 2, none⟩ = some (.func (.func k) #[] caps) ∧ w'.cell? ⟨w.heap.size, 3, none⟩ = some (.nilFunc)) := fun w' k => ⟨k.cell (by simp) (fun h => h), k.cell (by simp) (fun h => h), k.cell (by simp) (fun h => h), k.cell (by simp) (fun h => h)⟩
  clear hc
  unfold Enters at hen
  have q1 : ∀ w : World, (binOp .neq 180 (.nilFunc) .nilFunc).run Tryz.prog w = .ok (.bool false) w := fun w => by kernel_rfl
  have q2 : ∀ w : World, (binOp .neq 181 (.func (.func k) #[] caps) .nilFunc).run Tryz.prog w = .ok (.bool true) w := fun w => by kernel_rfl
  have q3 : ∀ w : World, (binOp .neq 107 .nilFunc .nilFunc).run Tryz.prog w = .ok (.bool false) w := fun w => by kernel_rfl
  go_enter Tryz.func172, Tryz.ntmps172
  go_wp2_with (go_at_fn k; refine hc1.mono ?_; rintro e w' ⟨rfl, hk⟩; have HK2 : Hid (Kept No w w') := HK.out.trans hk (fun _ h => h.elim); obtain ⟨m0, m1, m2, m3⟩ := HM.out _ hk; clear hk)
  go_ret
  exact ⟨rfl, HK2.out⟩

theorem findsIm_behind (err : Int) (k : Nat) (caps : Array Value) (v0 v1 v2 : Value) (aa : Option Addr) (an ac : Nat) (w : World) (hen : Enters Tryz.prog k) (b : Bool)
    (hc : ∀ w', Kept No w w' → Calls Tryz.prog k (#[(.agg #[v0, v1, v2]), .slice aa an ac] ++ caps) w' fun e w'' => e = .returned (.bool b) ∧ Kept No w' w'') :
    Calls Tryz.prog 172 #[.agg #[.int .i64 err, .nilFunc, .func (.func k) #[] caps, .nilFunc], (.agg #[v0, v1, v2]), .slice aa an ac] w fun e w' => e = .returned (.int .i64 (if b then 0 else err)) ∧ Kept No w w' := by
  cases b
  · exact findsIm_behind_false err k caps v0 v1 v2 aa an ac w hen hc
  · exact findsIm_behind_true err k caps v0 v1 v2 aa an ac w hen hc

end Go.Proofs.YtnmhcnppdhdhfaaGreatDoor

namespace Go.Proofs.YtnmhcnppdhdhfaaGreatDoor
open Go.RowKit
set_option linter.unusedVariables false
set_option maxRecDepth 100000

theorem er_cutIm {w : World} {a : Act} {o : Oper} (x y : Operand) (ho : o.op = .slice 179 x none (some y) none) (b off n c k : Nat) (hk : k ≤ c) (hc : c ≤ 9223372036854775807) (hx : a.eval x = .slice (some ⟨b, off, none⟩) n c) (hy : a.eval y = .int .i64 k) : (execOp a.eval o).run Tryz.prog w = .ok (.value (.slice (some ⟨b, off, none⟩) k c)) w := by
  simp only [execOp, ho, Option.map_none, Option.map_some, hx, hy]
  simp [go_sem, hk]
  try omega
theorem quiet_findsIm {C : World → Prop} {a : Act} {o : Oper} {K : Act → Prop} (x0 x1 x2 : Operand) (ho : o.op = .call { callee := .value (.func 172), args := #[x0, x1, x2], argTypes := #[183, 26, 179] }) (v0 v1 v2 v : Value) (h0 : a.eval x0 = v0) (h1 : a.eval x1 = v1) (h2 : a.eval x2 = v2)
    (hc : ∀ w, C w → Calls Tryz.prog 172 #[v0, v1, v2] w fun e w'' => e = .returned v ∧ C w'') (hk : K (a.put o.dst v)) : o.quiet Tryz.prog a C K :=
  quiet_call' (f := 172) (args := #[v0, v1, v2]) (fun w => by subst h0 h1 h2; simp [execOp, ho, go_sem, Act.eval]) hc hk

set_option maxHeartbeats 16000000 in
theorem eachIm (first : Int) (a : Option Addr) (n c : Nat) (f0 f1 f2 : Nat → Value) (tb m mc : Nat) (rs : Nat → Rw) (E : Nat → Nat → Int) (w : World) (hnc : n ≤ c) (hcm : c ≤ 9223372036854775807)
    (h : ∀ i, i < n → ∃ b o, a = some ⟨b, o, none⟩ ∧ w.cell? ⟨b, o + i * 3, none⟩ = some (f0 i) ∧ w.cell? ⟨b, o + i * 3 + 1, none⟩ = some (f1 i) ∧ w.cell? ⟨b, o + i * 3 + 2, none⟩ = some (f2 i)) (ho : ∀ i, i < n → (f0 i).oneCell' = true ∧ (f1 i).oneCell' = true ∧ (f2 i).oneCell' = true) (hm : m ≤ 1000) (hT : Tb w tb m rs) (hf : 0 ≤ first) (hf2 : first ≤ 1)
    (hE : ∀ i j w', i < n → j < m → Kept No w w' → Calls Tryz.prog 172 #[(rs j).v, .agg #[f0 i, f1 i, f2 i], .slice a i c] w' fun e w'' => e = .returned (.int .i64 (E i j)) ∧ Kept No w' w'') :
    Calls Tryz.prog 100 #[.slice a n c, .int .i64 first, .slice (some ⟨tb, 0, none⟩) m mc] w fun e w' => e = .returned (fv (eachF (fun i => rowsF (E i) m) first n)) ∧ Kept No w w' := by
  have hn : n ≤ 9223372036854775807 := Nat.le_trans hnc hcm
  have H : Hid (∀ i, i < n → ∃ b o, a = some ⟨b, o, none⟩ ∧ w.cell? ⟨b, o + i * 3, none⟩ = some (f0 i) ∧ w.cell? ⟨b, o + i * 3 + 1, none⟩ = some (f1 i) ∧ w.cell? ⟨b, o + i * 3 + 2, none⟩ = some (f2 i)) := h
  have HO : Hid (∀ i, i < n → (f0 i).oneCell' = true ∧ (f1 i).oneCell' = true ∧ (f2 i).oneCell' = true) := ho
  have HT : Hid (Tb w tb m rs) := hT
  have HE : Hid (∀ i j w', i < n → j < m → Kept No w w' → Calls Tryz.prog 172 #[(rs j).v, (.agg #[f0 i, f1 i, f2 i]), .slice a i c] w' fun e w'' => e = .returned (.int .i64 (E i j)) ∧ Kept No w' w'') := hE
  clear h ho hT hE
  go_enter Tryz.func100, Tryz.ntmps100
  go_wp2
  go_loopw [14] (fun x wr => ∃ k : Nat, k ≤ n ∧ x = .int .i64 k ∧ Kept No w wr ∧ eachF (fun i => rowsF (E i) m) first k = none) (fun x _ => n - (intOf x).toNat)
  case atStart => exact ⟨0, by omega, rfl, Kept.refl No w, rfl⟩
  case round =>
    obtain ⟨k, hk, rfl, hkr, hno⟩ := hrel
    by_cases hlt : k < n
    · generalize wr = wo at *
      obtain ⟨b, o, rfl, c0, c1, c2⟩ := H.out k hlt
      obtain ⟨p0, p1, p2⟩ := HO.out k hlt
      replace c0 := hkr.cell c0 (fun h => h)
      replace c1 := hkr.cell c1 (fun h => h)
      replace c2 := hkr.cell c2 (fun h => h)
      have HW : Hid (Kept No w (wo.alloc (.cells #[f0 k, f1 k, f2 k] 26))) := hkr.alloc _
      have HEk : Hid (∀ j w', j < m → Kept No w w' → Calls Tryz.prog 172 #[(rs j).v, .agg #[f0 k, f1 k, f2 k], .slice (some ⟨b, o, none⟩) k c] w' fun e w'' => e = .returned (.int .i64 (E k j)) ∧ Kept No w' w'') := fun j w' hj hw => HE.out k j w' hlt hj hw
      have HNO : Hid (eachF (fun i => rowsF (E i) m) first k = none) := hno
      have hcap : k ≤ c := by omega
      clear hno hkr
      generalize f0 k = y0 at *
      generalize f1 k = y1 at *
      generalize f2 k = y2 at *
      have r0 : ∀ (ad : Addr) (mo : Mode) (W : World), (store ad y0 mo).run Tryz.prog W = stored Tryz.prog W ad y0 mo := fun ad mo W => run_store _ _ _ _ _ p0
      have r1 : ∀ (ad : Addr) (mo : Mode) (W : World), (store ad y1 mo).run Tryz.prog W = stored Tryz.prog W ad y1 mo := fun ad mo W => run_store _ _ _ _ _ p1
      have r2 : ∀ (ad : Addr) (mo : Mode) (W : World), (store ad y2 mo).run Tryz.prog W = stored Tryz.prog W ad y2 mo := fun ad mo W => run_store _ _ _ _ _ p2
      go_upto_region 4 with fail
      generalize hW1 : wo.alloc (.cells #[y0, y1, y2] 26) = w1 at *
      have HCY : Hid (w1.cell? ⟨wo.heap.size, 0, none⟩ = some y0 ∧ w1.cell? ⟨wo.heap.size, 1, none⟩ = some y1 ∧ w1.cell? ⟨wo.heap.size, 2, none⟩ = some y2) := by subst hW1; exact ⟨by simp, by simp, by simp⟩
      clear hW1 c0 c1 c2 r0 r1 r2
      go_wp2
      go_loopw [21] (fun y wr => ∃ j : Nat, j ≤ m ∧ y = .int .i64 j ∧ Kept No w1 wr ∧ rowsF (E k) j = 0) (fun y _ => m - (intOf y).toNat)
      case atStart => exact ⟨0, by omega, rfl, Kept.refl No _, rfl⟩
      case round =>
        obtain ⟨j, hj, rfl, hkr2, hno2⟩ := hrel
        have HR0 : Hid (rowsF (E k) j = 0) := hno2
        clear hno2
        by_cases hjt : j < m
        · obtain ⟨t0, t1, t2, t3⟩ := ((HT.out.kept HW.out).kept hkr2) j hjt
          have HK2 : Hid (Kept No w1 (wr.alloc (.cells #[.int .i64 (rs j).err, (rs j).f1, (rs j).f2, (rs j).f3] 183))) := hkr2.alloc _
          have HRC : Hid (∀ w5, Kept No w1 w5 → (Instr.loadAt 26 (.pointer (some ⟨wo.heap.size, 0, none⟩))).run Tryz.prog w5 = .ok (.agg #[y0, y1, y2]) w5) := fun w5 h5 => by
            obtain ⟨z0, z1, z2⟩ := HCY.out
            replace z0 := h5.cell z0 (fun h => h)
            replace z1 := h5.cell z1 (fun h => h)
            replace z2 := h5.cell z2 (fun h => h)
            simp [go_sem, z0, z1, z2]
          have HRW : Hid (∀ w5, Kept No (wr.alloc (.cells #[.int .i64 (rs j).err, (rs j).f1, (rs j).f2, (rs j).f3] 183)) w5 → (Instr.loadAt 183 (.pointer (some ⟨wr.heap.size, 0, none⟩))).run Tryz.prog w5 = .ok (rs j).v w5) := fun w5 h5 => by
            have z0 := h5.cell (p := ⟨wr.heap.size, 0, none⟩) (v := .int .i64 (rs j).err) (by simp) (fun h => h)
            have z1 := h5.cell (p := ⟨wr.heap.size, 1, none⟩) (v := (rs j).f1) (by simp) (fun h => h)
            have z2 := h5.cell (p := ⟨wr.heap.size, 2, none⟩) (v := (rs j).f2) (by simp) (fun h => h)
            have z3 := h5.cell (p := ⟨wr.heap.size, 3, none⟩) (v := (rs j).f3) (by simp) (fun h => h)
            simp [go_sem, z0, z1, z2, z3, Rw.v]
          have HEj : Hid (∀ w', Kept No w1 w' → Calls Tryz.prog 172 #[(rs j).v, .agg #[y0, y1, y2], .slice (some ⟨b, o, none⟩) k c] w' fun e w'' => e = .returned (.int .i64 (E k j)) ∧ Kept No w' w'') := fun w' hw => HEk.out j w' hjt (HW.out.trans hw (fun _ h => h.elim))
          have HW0 : Hid (Kept No w w1) := HW.out
          clear hkr2 HW HEk HT HE H HCY
          have hrc := HRC.out
          have s1 : ∀ (ad : Addr) (mo : Mode) (W : World), (store ad (rs j).f1 mo).run Tryz.prog W = stored Tryz.prog W ad (rs j).f1 mo := fun ad mo W => run_store _ _ _ _ _ (rs j).h1
          have s2 : ∀ (ad : Addr) (mo : Mode) (W : World), (store ad (rs j).f2 mo).run Tryz.prog W = stored Tryz.prog W ad (rs j).f2 mo := fun ad mo W => run_store _ _ _ _ _ (rs j).h2
          have s3 : ∀ (ad : Addr) (mo : Mode) (W : World), (store ad (rs j).f3 mo).run Tryz.prog W = stored Tryz.prog W ad (rs j).f3 mo := fun ad mo W => run_store _ _ _ _ _ (rs j).h3
          go_upto_region 7 with fail
          clear t0 t1 t2 t3 hrc s1 s2 s3
          generalize hW2 : wr.alloc (.cells #[.int .i64 (rs j).err, (rs j).f1, (rs j).f2, (rs j).f3] 183) = w2 at *
          clear hW2
          refine wp_region_kept w2 (by kernel_rfl) (by kernel_rfl) (Kept.refl No w2) ?_
          refine BigFrame.wpQuiet_want rfl (fun K hK => ?_)
          refine quiet_val' (fun w5 hw5 => er_ld _ _ rfl _ _ rfl (HRW.out w5 hw5)) ?_
          refine hK _ ?_
          clear hK K
          simp only [Act.put, List.setIfInBounds_toArray, List.set_cons_zero, List.set_cons_succ]
          refine BigFrame.wpQuiet_want rfl (fun K hK => ?_)
          refine quiet_val' (fun w5 hw5 => er_ld _ _ rfl _ _ rfl (HRC.out w5 (HK2.out.trans hw5 (fun _ h => h.elim)))) ?_
          refine hK _ ?_
          clear hK K
          simp only [Act.put, List.setIfInBounds_toArray, List.set_cons_zero, List.set_cons_succ]
          refine BigFrame.wpQuiet_want rfl (fun K hK => ?_)
          refine quiet_val' (fun w5 hw5 => er_mv _ rfl (.slice (some ⟨b, o, none⟩) n c) rfl) ?_
          refine hK _ ?_
          clear hK K
          simp only [Act.put, List.setIfInBounds_toArray, List.set_cons_zero, List.set_cons_succ]
          refine BigFrame.wpQuiet_want rfl (fun K hK => ?_)
          refine quiet_val' (fun w5 hw5 => er_mv _ rfl (.int .i64 k) rfl) ?_
          refine hK _ ?_
          clear hK K
          simp only [Act.put, List.setIfInBounds_toArray, List.set_cons_zero, List.set_cons_succ]
          refine BigFrame.wpQuiet_want rfl (fun K hK => ?_)
          refine quiet_val' (fun w5 hw5 => er_cutIm _ _ rfl b o n c k hcap hcm rfl rfl) ?_
          refine hK _ ?_
          clear hK K
          simp only [Act.put, List.setIfInBounds_toArray, List.set_cons_zero, List.set_cons_succ]
          refine BigFrame.wpQuiet_want rfl (fun K hK => ?_)
          refine quiet_findsIm _ _ _ rfl (rs j).v (.agg #[y0, y1, y2]) (.slice (some ⟨b, o, none⟩) k c) (.int .i64 (E k j)) rfl rfl rfl (fun w5 hw5 => (HEj.out w5 (HK2.out.trans hw5 (fun _ h => h.elim))).mono (fun e w6 he => ⟨he.1, hw5.trans he.2 (fun _ h => h.elim)⟩)) ?_
          refine hK _ ?_
          clear hK K
          simp only [Act.put, List.setIfInBounds_toArray, List.set_cons_zero, List.set_cons_succ]
          refine BigFrame.wpQuiet_want rfl (fun K hK => ?_)
          refine quiet_val' (fun w5 hw5 => er_as _ rfl (.int .i64 (E k j)) rfl) ?_
          refine hK _ ?_
          clear hK K
          simp only [Act.put, List.setIfInBounds_toArray, List.set_cons_zero, List.set_cons_succ]
          refine wpQuiet_nil ?_
          intro w6 hw6
          have HW6 : Hid (Kept No w1 w6) := HK2.out.trans hw6 (fun _ h => h.elim)
          clear hw6 HRC HRW HEj HK2
          by_cases he : E k j = 0
          · have HR1 : Hid (rowsF (E k) (j + 1) = 0) := rowsF_miss HR0.out he
            have HE0 : Hid (E k j = 0) := he
            go_wp2
            go_roundw
            case rel => exact ⟨j + 1, by omega, by go_num, HW6.out, HR1.out⟩
            case measure => simp [intOf]; omega
          · have HF : Hid (eachF (fun i => rowsF (E i) m) first n = some (E k j, first + k)) := by
              have e1 := rowsF_hit HR0.out he m hjt
              have e2 := eachF_hit (r := fun i => rowsF (E i) m) HNO.out (by simp only [e1]; exact he) n hlt
              have e3 : eachF (fun i => rowsF (E i) m) first n = some (E k j, first + k) := by rw [e2]; simp only [e1]
              exact e3
            go_wp2
            go_ret
            exact ⟨by rw [HF.out]; rfl, HW0.out.trans HW6.out (fun _ h => h.elim)⟩
        · have hje : j = m := by omega
          subst hje
          have HN1 : Hid (eachF (fun i => rowsF (E i) j) first (k + 1) = none) := eachF_miss HNO.out HR0.out
          have HW6 : Hid (Kept No w wr) := HW.out.trans hkr2 (fun _ h => h.elim)
          clear hkr2 HW HEk HT HE H HCY
          go_wp2
          go_roundw
          case rel => exact ⟨k + 1, by omega, by go_num, HW6.out, HN1.out⟩
          case measure => simp [intOf]; omega
    · have hke : k = n := by omega
      subst hke
      have HF : Hid (eachF (fun i => rowsF (E i) m) first k = none) := hno
      have HW6 : Hid (Kept No w wr) := hkr
      clear hno hkr
      go_wp2
      go_ret
      exact ⟨by rw [HF.out]; rfl, HW6.out⟩

end Go.Proofs.YtnmhcnppdhdhfaaGreatDoor
