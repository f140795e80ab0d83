/-
  The table of channels, the sixth step of the look at an image.
-/
import Derived.Test.YtggejpccjmolhaaGreatDoorCChG
import Derived.Test.YtggejpccjmolhaaGreatDoorCECh
import Derived.Test.YtggejpccjmolhaaGreatDoorCFCh
import Derived.Test.YtggejpccjmolhaaGreatDoorG10
namespace Go.Proofs.YtggejpccjmolhaaGreatDoor
open Go.RowKit
set_option linter.unusedVariables false
set_option linter.unusedSimpArgs false
set_option maxRecDepth 100000

theorem ls_take {α : Type} {sz : Nat} {El : World → (Nat → Prop) → List Value → α → Prop} {w : World} {F : Nat → Prop} {a : Option Addr} {n c : Nat} {xs : List α} (h : Ls sz El w F a n c xs) {m : Nat} (hm : m ≤ n) : Ls sz El w F a m c (xs.take m) :=
  ⟨by rw [List.length_take, h.len]; omega, by have := h.cap; omega, h.max, h.nil, fun i x hx => h.at' i x (by
    rw [List.getElem?_take] at hx; split at hx; exact hx; cases hx)⟩
theorem crow6 {F : Nat → Prop} {a : Option Addr} {n c : Nat} {ps : List Po} (kd fr : Int) (ta : Option Addr) (tn tc : Nat) (dst : List Int) (ph pe : Int) (g : Nat) (w : World) (h : Ls 6 elPo w F a n c ps) (hT : Ls 1 elI w F ta tn tc dst) (hg : w.cell? ⟨g, 0, none⟩ = some (.slice a n c)) (hfr : fr = 0 ∨ (1 ≤ fr ∧ fr ≤ n)) (hd : ∀ z ∈ dst, 1 ≤ z ∧ z ≤ n) :
    Calls Tryz.prog 114 #[.agg #[.int .i64 kd, .int .i64 fr, .slice ta tn tc, .int .i64 ph, .int .i64 pe], .pointer (some ⟨g, 0, none⟩)] w fun e w' => e = .returned (.bool (oneSizeB ps fr dst)) ∧ Kept No w w' := by
  have HK : Hid (∀ o, Kept No w (w.alloc o)) := fun o => (Kept.refl No w).alloc o
  have hc := hasOneSize_any kd fr ta tn tc dst ph pe (w.alloc (.cells #[.int .i64 kd, .int .i64 fr, .slice ta tn tc, .int .i64 ph, .int .i64 pe] 34)) (lsPo_keep h (HK.out _)) (hT.kept (HK.out _) (fun _ _ h => h) (elI_kept (HK.out _) (fun _ _ h => h))) hfr hd
  have hg' := (HK.out (.cells #[.int .i64 kd, .int .i64 fr, .slice ta tn tc, .int .i64 ph, .int .i64 pe] 34)).cell hg (fun h => h)
  clear h hg hT hfr hd
  generalize oneSizeB ps fr dst = z at *
  go_enter Tryz.func114, Tryz.ntmps114
  go_wp2_with (go_at_call 115; refine hc.mono ?_; rintro e w' ⟨rfl, k2⟩)
  go_ret
  exact ⟨rfl, (HK.out _).trans k2 (fun _ h => h.elim)⟩

def rsCh (g : Nat) : Nat → Rw
  | 0 => ⟨108, .func (.func 107) #[] #[], .nilFunc, .nilFunc, rfl, rfl, rfl⟩
  | 1 => ⟨108, .func (.func 108) #[] #[.pointer (some ⟨g, 0, none⟩)], .nilFunc, .nilFunc, rfl, rfl, rfl⟩
  | 2 => ⟨108, .nilFunc, .func (.func 110) #[] #[], .nilFunc, rfl, rfl, rfl⟩
  | 3 => ⟨108, .func (.func 111) #[] #[.pointer (some ⟨g, 0, none⟩)], .nilFunc, .nilFunc, rfl, rfl, rfl⟩
  | 4 => ⟨108, .nilFunc, .func (.func 113) #[] #[], .nilFunc, rfl, rfl, rfl⟩
  | 5 => ⟨108, .func (.func 114) #[] #[.pointer (some ⟨g, 0, none⟩)], .nilFunc, .nilFunc, rfl, rfl, rfl⟩
  | 6 => ⟨108, .func (.func 116) #[] #[], .nilFunc, .nilFunc, rfl, rfl, rfl⟩
  | _ => ⟨108, .func (.func 117) #[] #[], .nilFunc, .nilFunc, rfl, rfl, rfl⟩
set_option maxHeartbeats 4000000 in
theorem tableCh (a : Option Addr) (n c : Nat) (w : World) : Calls Tryz.prog 65 #[.slice a n c] w fun e w' => ∃ g tb, e = .returned (.slice (some ⟨tb, 0, none⟩) 8 8) ∧ Tb w' tb 8 (rsCh g) ∧ w'.cell? ⟨g, 0, none⟩ = some (.slice a n c) ∧ Kept No w w' := by
  have HK : Hid (∀ o o', Kept No w (w.alloc o) ∧ Kept No w ((w.alloc o').alloc o)) := fun o o' => ⟨(Kept.refl No w).alloc o, ((Kept.refl No w).alloc o').alloc o⟩
  have hmf : ∀ (fn : Fn) (first cap : Array Value) (w : World), (Instr.makeFunc fn first cap).run Tryz.prog w = .ok (.func fn first cap) w := fun _ _ _ _ => rfl
  go_enter Tryz.func65, Tryz.ntmps65
  go_wp2
  go_ret
  refine ⟨w.heap.size, w.heap.size + 1, rfl, ?_, by simp, (HK.out _ _).2⟩
  intro j hj
  match j, hj with
  | 0, _ => exact ⟨by simp [rsCh], by simp [rsCh], by simp [rsCh], by simp [rsCh]⟩
  | 1, _ => exact ⟨by simp [rsCh], by simp [rsCh], by simp [rsCh], by simp [rsCh]⟩
  | 2, _ => exact ⟨by simp [rsCh], by simp [rsCh], by simp [rsCh], by simp [rsCh]⟩
  | 3, _ => exact ⟨by simp [rsCh], by simp [rsCh], by simp [rsCh], by simp [rsCh]⟩
  | 4, _ => exact ⟨by simp [rsCh], by simp [rsCh], by simp [rsCh], by simp [rsCh]⟩
  | 5, _ => exact ⟨by simp [rsCh], by simp [rsCh], by simp [rsCh], by simp [rsCh]⟩
  | 6, _ => exact ⟨by simp [rsCh], by simp [rsCh], by simp [rsCh], by simp [rsCh]⟩
  | 7, _ => exact ⟨by simp [rsCh], by simp [rsCh], by simp [rsCh], by simp [rsCh]⟩

/-- what a row asks of the i-th channel -/
def bCh (ps : List Po) (L : List Ch) (i : Nat) : Nat → Bool
  | 0 => (L.getD i dCh).kd == 0 || (L.getD i dCh).kd == 1
  | 1 => (L.getD i dCh).fr == 0 || fitB ps (L.getD i dCh).fr true (L.getD i dCh).kd
  | 2 => ownFromB (L.take i) (L.getD i dCh).fr
  | 3 => goesB ps (L.getD i dCh).kd 0 (L.getD i dCh).dst
  | 4 => ownToB (L.take i) (L.getD i dCh).dst
  | 5 => oneSizeB ps (L.getD i dCh).fr (L.getD i dCh).dst
  | 6 => (L.getD i dCh).fr != 0 || decide (0 < (L.getD i dCh).dst.length)
  | _ => timesB (L.getD i dCh)
theorem goes_mem {ps : List Po} {kd : Int} : ∀ {dst : List Int} {l : Int}, goesB ps kd l dst = true → ∀ z ∈ dst, fitB ps z false kd = true
  | [], _, _, z, hz => by cases hz
  | x :: r, l, h, z, hz => by
    simp only [goesB, Bool.and_eq_true] at h
    rcases List.mem_cons.1 hz with rfl | hz
    · exact h.1.2
    · exact goes_mem h.2 z hz
theorem fit_in {ps : List Po} {k kd : Int} {out : Bool} (h : fitB ps k out kd = true) : 1 ≤ k ∧ k ≤ ps.length := by
  unfold fitB at h
  simp only [Bool.and_eq_true] at h
  have := h.1
  simpa [inB] using this

set_option maxHeartbeats 4000000 in
theorem each_Ch (F : Nat → Prop) (a : Option Addr) (n c : Nat) (L : List Ch) (pa : Option Addr) (pn pc : Nat) (ps : List Po) (tb g : Nat) (w : World) (h : Ls 5 elCh w F a n c L) (hP : Ls 6 elPo w F pa pn pc ps) (hg : w.cell? ⟨g, 0, none⟩ = some (.slice pa pn pc)) (hT : Tb w tb 8 (rsCh g)) :
    Calls Tryz.prog 64 #[.slice a n c, .int .i64 1, .slice (some ⟨tb, 0, none⟩) 8 8] w fun e w' => e = .returned (fv (eachF (fun i => rowsF (fun j => if bCh ps L i j then 0 else 108) 8) 1 n)) ∧ Kept No w w' := by
  have hx : ∀ i, i < n → L[i]? = some (L.getD i dCh) := fun i hi => by rw [List.getD, List.getElem?_eq_getElem (by rw [h.len]; exact hi)]; rfl
  have hv : ∀ i, ∃ v : Value, i < n → (∃ ta tn tc, v = .slice ta tn tc ∧ Ls 1 elI w F ta tn tc (L.getD i dCh).dst) ∧ ∃ b o, a = some ⟨b, o, none⟩ ∧ F b ∧ w.cell? ⟨b, o + i * 5, none⟩ = some (.int .i64 (L.getD i dCh).kd) ∧ w.cell? ⟨b, o + i * 5 + 1, none⟩ = some (.int .i64 (L.getD i dCh).fr) ∧ w.cell? ⟨b, o + i * 5 + 2, none⟩ = some v ∧ w.cell? ⟨b, o + i * 5 + 3, none⟩ = some (.int .i64 (L.getD i dCh).ph) ∧ w.cell? ⟨b, o + i * 5 + 4, none⟩ = some (.int .i64 (L.getD i dCh).pe) := by
    intro i
    by_cases hi : i < n
    · obtain ⟨b, o, cs, e, hb, hl, hr, hE⟩ := h.at' i _ (hx i hi)
      obtain ⟨⟨ta, tn, tc, rfl, hL⟩, _⟩ := hE
      exact ⟨.slice ta tn tc, fun _ => ⟨⟨ta, tn, tc, rfl, hL⟩, b, o, e, hb, hr 0 _ rfl, hr 1 _ rfl, hr 2 _ rfl, hr 3 _ rfl, hr 4 _ rfl⟩⟩
    · exact ⟨.nilFunc, fun h => absurd h hi⟩
  obtain ⟨fv', hfv⟩ := Classical.axiomOfChoice hv
  refine eachCh 1 a n c (fun i => .int .i64 (L.getD i dCh).kd) (fun i => .int .i64 (L.getD i dCh).fr) fv' (fun i => .int .i64 (L.getD i dCh).ph) (fun i => .int .i64 (L.getD i dCh).pe) tb 8 8 (rsCh g) (fun i j => if bCh ps L i j then 0 else 108) w h.cap h.max ?_ ?_ (by omega) hT (by omega) (by omega) ?_
  · intro i hi
    obtain ⟨_, b, o, e, _, r⟩ := hfv i hi
    exact ⟨b, o, e, r⟩
  · intro i hi
    obtain ⟨⟨ta, tn, tc, e, _⟩, _⟩ := hfv i hi
    rw [e]
    exact ⟨rfl, rfl, rfl, rfl, rfl⟩
  · intro i j w' hi hj hz hw
    obtain ⟨⟨ta, tn, tc, e, hL⟩, _⟩ := hfv i hi
    rw [e]
    have hLw := fun (w2 : World) (k : Kept No w w2) => hL.kept k (fun _ _ h => h) (elI_kept k (fun _ _ h => h))
    have hCw := fun (w2 : World) (k : Kept No w w2) => (ls_take h (m := i) (by omega)).kept k (fun _ _ h => h) (elCh_kept k (fun _ _ h => h))
    have hPw := fun (w2 : World) (k : Kept No w w2) => lsPo_keep hP k
    have tr := fun (w2 : World) (k : Kept No w' w2) => hw.trans k (fun _ h => h.elim)
    match j, hj, hz with
    | 0, _, _ => exact findsCh_alone 108 _ #[] _ _ _ _ _ a i c w' (enters_of Tryz.func107 (by kernel_rfl) rfl) _ (fun w2 k2 => crow1 _ _ _ _ _ _ _ w2)
    | 1, _, _ => exact findsCh_alone 108 _ #[.pointer (some ⟨g, 0, none⟩)] _ _ _ _ _ a i c w' (enters_of Tryz.func108 (by kernel_rfl) rfl) _ (fun w2 k2 => crow2 _ _ _ _ _ _ _ g w2 (hPw w2 (tr w2 k2)) ((tr w2 k2).cell hg (fun h => h)))
    | 2, _, _ => exact findsCh_behind 108 _ #[] _ _ _ _ _ a i c w' (enters_of Tryz.func110 (by kernel_rfl) rfl) _ (fun w2 k2 => hasOwnFrom_any _ _ _ _ _ _ _ w2 (hCw w2 (tr w2 k2)))
    | 3, _, _ => exact findsCh_alone 108 _ #[.pointer (some ⟨g, 0, none⟩)] _ _ _ _ _ a i c w' (enters_of Tryz.func111 (by kernel_rfl) rfl) _ (fun w2 k2 => crow4 _ _ _ _ _ _ _ _ g w2 (hPw w2 (tr w2 k2)) (hLw w2 (tr w2 k2)) ((tr w2 k2).cell hg (fun h => h)))
    | 4, _, _ => exact findsCh_behind 108 _ #[] _ _ _ _ _ a i c w' (enters_of Tryz.func113 (by kernel_rfl) rfl) _ (fun w2 k2 => hasOwnTo_any _ _ _ _ _ _ _ _ w2 (hCw w2 (tr w2 k2)) (hLw w2 (tr w2 k2)))
    | 5, _, hz =>
      have z1 := rowsF_zero hz 1 (by omega)
      have z3 := rowsF_zero hz 3 (by omega)
      have b1 : bCh ps L i 1 = true := by
        cases hb : bCh ps L i 1
        · simp [hb] at z1
        · rfl
      have b3 : bCh ps L i 3 = true := by
        cases hb : bCh ps L i 3
        · simp [hb] at z3
        · rfl
      simp only [bCh, Bool.or_eq_true] at b1 b3
      refine findsCh_alone 108 _ #[.pointer (some ⟨g, 0, none⟩)] _ _ _ _ _ a i c w' (enters_of Tryz.func114 (by kernel_rfl) rfl) _ (fun w2 k2 => crow6 _ _ _ _ _ _ _ _ g w2 (hPw w2 (tr w2 k2)) (hLw w2 (tr w2 k2)) ((tr w2 k2).cell hg (fun h => h)) ?_ ?_)
      · rcases b1 with b1 | b1
        · exact .inl (by simpa using b1)
        · have := fit_in b1; rw [hP.len] at this; exact .inr this
      · intro z hz'
        have := fit_in (goes_mem b3 z hz'); rw [hP.len] at this; exact this
    | 6, _, _ =>
      have hlen := hL.len
      have := hL.max
      have := hL.cap
      have e6 : bCh ps L i 6 = ((L.getD i dCh).fr != 0 || decide (0 < tn)) := by simp only [bCh, hlen]
      show Calls Tryz.prog _ _ w' fun e w'' => e = .returned (.int .i64 (if bCh ps L i 6 then 0 else 108)) ∧ Kept No w' w''
      rw [e6]
      exact findsCh_alone 108 _ #[] _ _ _ _ _ a i c w' (enters_of Tryz.func116 (by kernel_rfl) rfl) _ (fun w2 k2 => crow7 _ _ _ _ _ _ _ w2 (by omega))
    | 7, _, _ => exact findsCh_alone 108 _ #[] _ _ _ _ _ a i c w' (enters_of Tryz.func117 (by kernel_rfl) rfl) _ (fun w2 k2 => hasTimes_any _ _ _ _ _ _ _ (L.getD i dCh).dst w2)

set_option maxHeartbeats 8000000 in
theorem step6 (F : Nat → Prop) (v0 : Value) (a1 : Option Addr) (n1 c1 : Nat) (a2 : Option Addr) (n2 c2 : Nat) (ps : List Po) (L : List Ch) (w : World) (hP : Ls 6 elPo w F a1 n1 c1 ps) (hL : Ls 5 elCh w F a2 n2 c2 L) :
    Calls Tryz.prog 63 #[.agg #[v0, .slice a1 n1 c1, .slice a2 n2 c2]] w fun e w' => e = .returned (fv (eachF (fun i => rowsF (fun j => if bCh ps L i j then 0 else 108) 8) 1 n2)) ∧ Kept No w w' := by
  have HK : Hid (Kept No w (w.alloc (.cells #[v0, .slice a1 n1 c1, .slice a2 n2 c2] 26))) := (Kept.refl No w).alloc _
  have HC : Hid (∀ w' g tb, Kept No w w' → w'.cell? ⟨g, 0, none⟩ = some (.slice a1 n1 c1) → Tb w' tb 8 (rsCh g) → Calls Tryz.prog 64 #[.slice a2 n2 c2, .int .i64 1, .slice (some ⟨tb, 0, none⟩) 8 8] w' fun e w'' => e = .returned (fv (eachF (fun i => rowsF (fun j => if bCh ps L i j then 0 else 108) 8) 1 n2)) ∧ Kept No w' w'') := fun w' g tb hw hg hT => each_Ch F a2 n2 c2 L a1 n1 c1 ps tb g w' (hL.kept hw (fun _ _ h => h) (elCh_kept hw (fun _ _ h => h))) (lsPo_keep hP hw) hg hT
  have HM : Hid (∀ w', Kept No (w.alloc (.cells #[v0, .slice a1 n1 c1, .slice a2 n2 c2] 26)) w' → w'.cell? ⟨w.heap.size, 1, none⟩ = some (.slice a1 n1 c1) ∧ w'.cell? ⟨w.heap.size, 2, none⟩ = some (.slice a2 n2 c2)) := fun w' k => ⟨k.cell (by simp) (fun h => h), k.cell (by simp) (fun h => h)⟩
  clear hL hP
  generalize eachF (fun i => rowsF (fun j => if bCh ps L i j then 0 else 108) 8) 1 n2 = z at *
  go_enter Tryz.func63, Tryz.ntmps63
  go_upto_region 1 with fail
  generalize w.alloc (.cells #[v0, .slice a1 n1 c1, .slice a2 n2 c2] 26) = w0 at *
  obtain ⟨m0, m1⟩ := HM.out w0 (Kept.refl No w0)
  go_region_with (first
    | (go_at_call 65; refine (tableCh _ _ _ _).mono ?_; rintro e w1 ⟨g, tb, rfl, hT, hg, hk1⟩; have HT : Hid (Tb w1 tb 8 (rsCh g)) := hT; have HGG : Hid (w1.cell? ⟨g, 0, none⟩ = some (.slice a1 n1 c1)) := hg; have HK1 : Hid (Kept No w0 w1) := (Kept.refl No w0).drew.trans hk1 (fun _ h => h.elim); obtain ⟨p0, p1⟩ := HM.out w1 HK1.out; clear hT hk1 hg)
    | (go_at_call 64; refine (HC.out _ _ _ (HK.out.trans HK1.out (fun _ h => h.elim)) HGG.out HT.out).mono ?_; rintro e w2 ⟨rfl, hk2⟩; have HK2 : Hid (Kept No w0 w2) := HK1.out.trans hk2 (fun _ h => h.elim); clear hk2))
  all_goals (try go_wp2)
  all_goals (go_ret; exact ⟨rfl, HK.out.trans HK2.out (fun _ h => h.elim)⟩)
end Go.Proofs.YtggejpccjmolhaaGreatDoor
