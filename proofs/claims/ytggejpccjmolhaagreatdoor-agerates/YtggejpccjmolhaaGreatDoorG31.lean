/-
  One text: CPtTab, CStep4, OSrvs, CPsv.
-/
import Derived.Test.YtggejpccjmolhaaGreatDoorG16
import Derived.Test.YtggejpccjmolhaaGreatDoorG29
import Derived.Test.YtggejpccjmolhaaGreatDoorCAct
import Derived.Test.YtggejpccjmolhaaGreatDoorG23
import Derived.Test.YtggejpccjmolhaaGreatDoorCHyp
namespace Go.Proofs.YtggejpccjmolhaaGreatDoor
open Go.RowKit
set_option linter.unusedVariables false
set_option linter.unusedSimpArgs false
set_option maxRecDepth 100000

def rsPt : Nat → Rw
  | 0 => ⟨110, .func (.func 84) #[] #[], .nilFunc, .nilFunc, rfl, rfl, rfl⟩
  | 1 => ⟨110, .func (.func 85) #[] #[], .nilFunc, .nilFunc, rfl, rfl, rfl⟩
  | 2 => ⟨104, .func (.func 86) #[] #[], .nilFunc, .nilFunc, rfl, rfl, rfl⟩
  | 3 => ⟨0, .nilFunc, .nilFunc, .func (.func 87) #[] #[], rfl, rfl, rfl⟩
  | 4 => ⟨0, .nilFunc, .nilFunc, .func (.func 90) #[] #[], rfl, rfl, rfl⟩
  | 5 => ⟨0, .nilFunc, .nilFunc, .func (.func 93) #[] #[], rfl, rfl, rfl⟩
  | 6 => ⟨109, .func (.func 96) #[] #[], .nilFunc, .nilFunc, rfl, rfl, rfl⟩
  | 7 => ⟨109, .func (.func 97) #[] #[], .nilFunc, .nilFunc, rfl, rfl, rfl⟩
  | _ => ⟨109, .func (.func 98) #[] #[], .nilFunc, .nilFunc, rfl, rfl, rfl⟩
theorem tablePt (w : World) : Calls Tryz.prog 59 #[] w fun e w' => ∃ tb, e = .returned (.slice (some ⟨tb, 0, none⟩) 9 9) ∧ Tb w' tb 9 rsPt ∧ Kept No w w' := by
  have HK : Hid (∀ o, Kept No w (w.alloc o)) := fun o => (Kept.refl No w).alloc o
  go_enter Tryz.func59, Tryz.ntmps59
  go_wp2
  go_ret
  refine ⟨_, rfl, ?_, HK.out _⟩
  intro j hj
  match j, hj with
  | 0, _ => exact ⟨by simp [rsPt], by simp [rsPt], by simp [rsPt], by simp [rsPt]⟩
  | 1, _ => exact ⟨by simp [rsPt], by simp [rsPt], by simp [rsPt], by simp [rsPt]⟩
  | 2, _ => exact ⟨by simp [rsPt], by simp [rsPt], by simp [rsPt], by simp [rsPt]⟩
  | 3, _ => exact ⟨by simp [rsPt], by simp [rsPt], by simp [rsPt], by simp [rsPt]⟩
  | 4, _ => exact ⟨by simp [rsPt], by simp [rsPt], by simp [rsPt], by simp [rsPt]⟩
  | 5, _ => exact ⟨by simp [rsPt], by simp [rsPt], by simp [rsPt], by simp [rsPt]⟩
  | 6, _ => exact ⟨by simp [rsPt], by simp [rsPt], by simp [rsPt], by simp [rsPt]⟩
  | 7, _ => exact ⟨by simp [rsPt], by simp [rsPt], by simp [rsPt], by simp [rsPt]⟩
  | 8, _ => exact ⟨by simp [rsPt], by simp [rsPt], by simp [rsPt], by simp [rsPt]⟩
/-- the error of a partition by each rule -/
def ePt (x : Pn) : Nat → Int
  | 0 => if inB x.fi 0 x.wo then 0 else 110
  | 1 => if decide ((x.init.length : Int) ≤ x.wo) then 0 else 110
  | 2 => if decide ((x.code.length : Int) > 0) then 0 else 104
  | 3 => fe (eachF (fun i => rowsF (fun j => if bPrc x.code.length (x.procs.getD i ⟨0, 0, 0, 0, 0, false⟩) j then 0 else 105) 6) 1 x.procs.length)
  | 4 => fe (eachF (fun i => rowsF (fun j => if bSm (x.sems.getD i ⟨0, 0⟩) j then 0 else 106) 2) 1 x.sems.length)
  | 5 => fe (eachF (fun i => rowsF (fun j => if bBf (x.bufs.getD i ⟨0, 0⟩) j then 0 else 106) 2) 1 x.bufs.length)
  | 6 => if x.h0 == 0 then 0 else 109
  | 7 => if actF (hv8 x.h0 x.h1 x.h2 x.h3 x.h4 x.h5 x.h6 x.h7) 8 then 0 else 109
  | _ => if hanF x.ha x.procs x.procs.length then 0 else 109

set_option maxHeartbeats 2000000 in
theorem each_Pt (F : Nat → Prop) (a : Option Addr) (n c : Nat) (xs : List Pn) (tb : Nat) (w : World) (hg : Gl w) (h : Ls 21 elPn w F a n c xs) (hT : Tb w tb 9 rsPt) :
    Calls Tryz.prog 53 #[.slice a n c, .int .i64 1, .slice (some ⟨tb, 0, none⟩) 9 9] w fun e w' => e = .returned (fv (eachF (fun i => rowsF (ePt (xs.getD i dPn)) 9) 1 n)) ∧ Kept No w w' := by
  obtain ⟨cs, hcs⟩ := pn_cells h
  refine eachPn 1 a n c cs tb 9 9 rsPt (fun i j => ePt (xs.getD i dPn) j) w h.cap h.max (fun i hi => (hcs i hi).1) (fun i hi => ⟨(hcs i hi).2.1, (hcs i hi).2.2.1⟩) (by omega) hT (by omega) (by omega) ?_
  intro i j w' hi hj hw
  obtain ⟨_, hl, _, hE⟩ := hcs i hi
  have hE' := elPn_kept hw (fun _ _ h => h) _ _ hE
  have hg' : Gl w' := hg.kept hw
  obtain ⟨a0, n0, c0, a1, n1, c1, a2, n2, c2, a3, n3, c3, a4, n4, c4, a5, n5, c5, e, l0, l1, l2, l3, l4, l5⟩ := hE'.sl
  have q0 := l0.len
  have q1 := l1.len
  have q2 := l2.len
  have q3 := l3.len
  have q5 := l5.len
  clear hE hE'
  generalize xs.getD i dPn = x at *
  generalize cs i = ci at *
  subst q0 q1 q2 q3 q5
  have f4 : ci[4]? = some (.int .i64 x.wo) := by rw [e]; rfl
  have f5 : ci[5]? = some (.int .i64 x.fi) := by rw [e]; rfl
  have f6 : ci[6]? = some (.slice a0 x.init.length c0) := by rw [e]; rfl
  have f7 : ci[7]? = some (.slice a1 x.code.length c1) := by rw [e]; rfl
  have f8 : ci[8]? = some (.slice a2 x.procs.length c2) := by rw [e]; rfl
  have f9 : ci[9]? = some (.int .i64 x.ha) := by rw [e]; rfl
  have f18 : ci[18]? = some (.slice a3 x.sems.length c3) := by rw [e]; rfl
  have f20 : ci[20]? = some (.slice a5 x.bufs.length c5) := by rw [e]; rfl
  match j, hj with
  | 0, _ => exact findsPn_al 110 _ #[] ci hl a i c w' (enters_of Tryz.func84 (by kernel_rfl) rfl) _ (fun w2 _ => part1 ci x.wo x.fi w2 f4 f5)
  | 1, _ => exact findsPn_al 110 _ #[] ci hl a i c w' (enters_of Tryz.func85 (by kernel_rfl) rfl) _ (fun w2 _ => part2 ci x.wo a0 _ c0 (Nat.le_trans l0.cap l0.max) w2 f4 f6)
  | 2, _ => exact findsPn_al 104 _ #[] ci hl a i c w' (enters_of Tryz.func86 (by kernel_rfl) rfl) _ (fun w2 _ => part3 ci a1 _ c1 (Nat.le_trans l1.cap l1.max) w2 f7)
  | 3, _ => exact findsPn_inner 0 _ #[] ci hl a i c w' hg' (enters_of Tryz.func87 (by kernel_rfl) rfl) _ (fun w2 hw2 => part4 F ci a1 _ c1 a2 _ c2 x.procs w2 (Nat.le_trans l1.cap l1.max) f7 f8 (lsPrc_keep l2 hw2))
  | 4, _ => exact findsPn_inner 0 _ #[] ci hl a i c w' hg' (enters_of Tryz.func90 (by kernel_rfl) rfl) _ (fun w2 hw2 => part5 F ci a3 _ c3 x.sems w2 f18 (lsSm_keep l3 hw2))
  | 5, _ => exact findsPn_inner 0 _ #[] ci hl a i c w' hg' (enters_of Tryz.func93 (by kernel_rfl) rfl) _ (fun w2 hw2 => part6 F ci a5 _ c5 x.bufs w2 f20 (lsBf_keep l5 hw2))
  | 6, _ => exact findsPn_al 109 _ #[] ci hl a i c w' (enters_of Tryz.func96 (by kernel_rfl) rfl) _ (fun w2 _ => part7 ci x.h0 w2 (by rw [e]; rfl))
  | 7, _ => exact findsPn_al 109 _ #[] ci hl a i c w' (enters_of Tryz.func97 (by kernel_rfl) rfl) _ (fun w2 _ => hasActions_any ci x.h0 x.h1 x.h2 x.h3 x.h4 x.h5 x.h6 x.h7 w2 (by rw [e]; rfl) (by rw [e]; rfl) (by rw [e]; rfl) (by rw [e]; rfl) (by rw [e]; rfl) (by rw [e]; rfl) (by rw [e]; rfl) (by rw [e]; rfl))
  | 8, _ => exact findsPn_al 109 _ #[] ci hl a i c w' (enters_of Tryz.func98 (by kernel_rfl) rfl) _ (fun w2 hw2 => hasHandler_any F ci x.ha a2 _ c2 x.procs w2 f9 f8 (lsPrc_keep l2 hw2))
end Go.Proofs.YtggejpccjmolhaaGreatDoor

namespace Go.Proofs.YtggejpccjmolhaaGreatDoor
open Go.RowKit
set_option linter.unusedVariables false
set_option linter.unusedSimpArgs false
set_option maxRecDepth 100000

set_option maxHeartbeats 4000000 in
theorem step4 (F : Nat → Prop) (a0 : Option Addr) (n0 c0 : Nat) (v1 v2 : Value) (xs : List Pn) (w : World) (hg : Gl w) (hL : Ls 21 elPn w F a0 n0 c0 xs) :
    Calls Tryz.prog 58 #[.agg #[.slice a0 n0 c0, v1, v2]] w fun e w' => e = .returned (fv (eachF (fun i => rowsF (ePt (xs.getD i dPn)) 9) 1 n0)) ∧ Kept No w w' := by
  have HK : Hid (Kept No w (w.alloc (.cells #[.slice a0 n0 c0, v1, v2] 26))) := (Kept.refl No w).alloc _
  have HC : Hid (∀ w' tb, Kept No w w' → Tb w' tb 9 rsPt → Calls Tryz.prog 53 #[.slice a0 n0 c0, .int .i64 1, .slice (some ⟨tb, 0, none⟩) 9 9] w' fun e w'' => e = .returned (fv (eachF (fun i => rowsF (ePt (xs.getD i dPn)) 9) 1 n0)) ∧ Kept No w' w'') := fun w' tb hw hT => each_Pt F a0 n0 c0 xs tb w' (hg.kept hw) (lsPn_keep hL hw) hT
  have HM : Hid (∀ w', Kept No (w.alloc (.cells #[.slice a0 n0 c0, v1, v2] 26)) w' → w'.cell? ⟨w.heap.size, 0, none⟩ = some (.slice a0 n0 c0)) := fun w' k => k.cell (by simp) (fun h => h)
  clear hL hg
  generalize eachF (fun i => rowsF (ePt (xs.getD i dPn)) 9) 1 n0 = z at *
  go_enter Tryz.func58, Tryz.ntmps58
  go_upto_region 1 with fail
  generalize w.alloc (.cells #[.slice a0 n0 c0, v1, v2] 26) = w0 at *
  have m0 := HM.out w0 (Kept.refl No w0)
  go_region_with (first
    | (go_at_call 59; refine (tablePt _).mono ?_; rintro e w1 ⟨tb, rfl, hT, hk1⟩; have HT : Hid (Tb w1 tb 9 rsPt) := hT; have HK1 : Hid (Kept No w0 w1) := (Kept.refl No w0).drew.trans hk1 (fun _ h => h.elim); have p0 := HM.out w1 HK1.out; clear hT hk1)
    | (go_at_call 53; refine (HC.out _ _ (HK.out.trans HK1.out (fun _ h => h.elim)) HT.out).mono ?_; rintro e w2 ⟨rfl, hk2⟩; have HK2 : Hid (Kept No w0 w2) := HK1.out.trans hk2 (fun _ h => h.elim); clear hk2))
  all_goals (try go_wp2)
  all_goals (go_ret; exact ⟨rfl, HK.out.trans HK2.out (fun _ h => h.elim)⟩)

end Go.Proofs.YtggejpccjmolhaaGreatDoor

namespace Go.Proofs.YtggejpccjmolhaaGreatDoor
open Go.RowKit Plain
set_option linter.unusedVariables false
set_option linter.unusedSimpArgs false
set_option maxRecDepth 100000

/-- cells of a block by a function -/
def Mf (w : World) (g N : Nat) (f : Nat → Srv) : Prop :=
  ∀ i, i < N → w.cell? ⟨g, i * 4, none⟩ = some (.int .i64 (f i).p) ∧ w.cell? ⟨g, i * 4 + 1, none⟩ = some (.int .i64 (f i).b) ∧ w.cell? ⟨g, i * 4 + 2, none⟩ = some (.int .i64 (f i).o) ∧ w.cell? ⟨g, i * 4 + 3, none⟩ = some (.int .i64 (f i).q)
def Fz (w : World) (g : Nat) : Prop := ∀ i, w.frozen? ⟨g, i, none⟩ = false
theorem Mf.kept {w w' : World} {g N : Nat} {f : Nat → Srv} {G : Nat → Prop} (h : Mf w g N f) (k : Kept G w w') (hg : ¬ G g) : Mf w' g N f := fun i hi => by
  obtain ⟨h0, h1, h2, h3⟩ := h i hi
  exact ⟨k.cell h0 hg, k.cell h1 hg, k.cell h2 hg, k.cell h3 hg⟩
theorem Mf.sv {w : World} {g N : Nat} {f : Nat → Srv} (h : Mf w g N f) (n c : Nat) (hn : n ≤ N) (hc : n ≤ c) (hm : c ≤ 9223372036854775807) (hok : ∀ i, i < n → (f i).ok) : Sv w (fun b => b = g) (some ⟨g, 0, none⟩) n c ((List.range n).map f) :=
  ⟨by simp, hc, hm, fun e => (by cases e), fun i x hx => by
    have hi : i < n := by
      apply Decidable.byContradiction
      intro hn
      rw [List.getElem?_eq_none (by simp; omega)] at hx
      cases hx
    rw [List.getElem?_map, List.getElem?_range hi] at hx
    simp at hx
    subst hx
    obtain ⟨h0, h1, h2, h3⟩ := h i (by omega)
    exact ⟨hok i hi, g, 0, rfl, rfl, by rw [Nat.zero_add]; exact h0, by rw [Nat.zero_add]; exact h1, by rw [Nat.zero_add]; exact h2, by rw [Nat.zero_add]; exact h3⟩⟩
theorem Sv.eq {w : World} {F : Nat → Prop} {a : Option Addr} {n c : Nat} {xs : List Srv} (h : Sv w F a n c xs) : xs = (List.range n).map (fun i => xs.getD i ⟨0, 0, 0, 0⟩) := by
  apply List.ext_getElem?
  intro i
  by_cases hi : i < n
  · rw [List.getElem?_map, List.getElem?_range hi, List.getElem?_eq_getElem (by rw [h.len]; exact hi)]
    simp [h.len, hi]
  · rw [List.getElem?_eq_none (by rw [h.len]; omega), List.getElem?_eq_none (by simp; omega)]
theorem Sv.ok {w : World} {F : Nat → Prop} {a : Option Addr} {n c : Nat} {xs : List Srv} (h : Sv w F a n c xs) (i : Nat) (hi : i < n) : (xs.getD i ⟨0, 0, 0, 0⟩).ok :=
  (h.at' i _ (by rw [List.getD, List.getElem?_eq_getElem (by rw [h.len]; exact hi)]; rfl)).1

/-- the cells of a list, one behind the other -/
def fl : List Srv → List Value
  | [] => []
  | x :: r => .int .i64 x.p :: .int .i64 x.b :: .int .i64 x.o :: .int .i64 x.q :: fl r
theorem fl_len : ∀ xs : List Srv, (fl xs).length = xs.length * 4
  | [] => rfl
  | x :: r => by simp only [fl, List.length_cons, fl_len r]; omega
theorem fl_app : ∀ xs ys : List Srv, fl (xs ++ ys) = fl xs ++ fl ys
  | [], ys => rfl
  | x :: r, ys => by simp only [fl, List.cons_append, fl_app r ys]
theorem fl_one : ∀ xs : List Srv, ∀ u ∈ fl xs, u.oneCell' = true
  | [], u, h => by cases h
  | x :: r, u, h => by
    simp only [fl, List.mem_cons] at h
    rcases h with rfl | rfl | rfl | rfl | h
    · rfl
    · rfl
    · rfl
    · rfl
    · exact fl_one r u h
theorem fl_get : ∀ (xs : List Srv) (i : Nat) (x : Srv), xs[i]? = some x → (fl xs)[i * 4]? = some (.int .i64 x.p) ∧ (fl xs)[i * 4 + 1]? = some (.int .i64 x.b) ∧ (fl xs)[i * 4 + 2]? = some (.int .i64 x.o) ∧ (fl xs)[i * 4 + 3]? = some (.int .i64 x.q)
  | [], i, x, h => by cases h
  | y :: r, 0, x, h => by simp at h; subst h; exact ⟨rfl, rfl, rfl, rfl⟩
  | y :: r, i + 1, x, h => by
    obtain ⟨h0, h1, h2, h3⟩ := fl_get r i x (by simpa using h)
    rw [show (i + 1) * 4 = i * 4 + 4 by omega]
    exact ⟨h0, h1, h2, h3⟩
theorem Sv.news {w : World} {F : Nat → Prop} {ad : Addr} {n c : Nat} {xs : List Srv} (h : Sv w F (some ad) n c xs) : ∀ j u, (fl xs)[j]? = some u → w.cell? (ad.add j) = some u := by
  intro j u hj
  have hlt : j < xs.length * 4 := by
    rw [← fl_len]
    exact (List.getElem?_eq_some_iff.1 hj).1
  obtain ⟨x, hx⟩ : ∃ x, xs[j / 4]? = some x := ⟨_, List.getElem?_eq_getElem (by omega)⟩
  obtain ⟨g0, g1, g2, g3⟩ := fl_get xs (j / 4) x hx
  obtain ⟨_, b, o, e, _, c0, c1, c2, c3⟩ := h.at' (j / 4) x hx
  simp only [Option.some.injEq] at e
  subst e
  rw [add_none]
  have h4 : j % 4 < 4 := Nat.mod_lt _ (by omega)
  rcases (by omega : j % 4 = 0 ∨ j % 4 = 1 ∨ j % 4 = 2 ∨ j % 4 = 3) with h4 | h4 | h4 | h4
  · rw [show j = j / 4 * 4 by omega] at hj; rw [g0] at hj; rw [show o + j = o + j / 4 * 4 by omega, c0]; exact hj
  · rw [show j = j / 4 * 4 + 1 by omega] at hj; rw [g1] at hj; rw [show o + j = o + j / 4 * 4 + 1 by omega, c1]; exact hj
  · rw [show j = j / 4 * 4 + 2 by omega] at hj; rw [g2] at hj; rw [show o + j = o + j / 4 * 4 + 2 by omega, c2]; exact hj
  · rw [show j = j / 4 * 4 + 3 by omega] at hj; rw [g3] at hj; rw [show o + j = o + j / 4 * 4 + 3 by omega, c3]; exact hj

theorem Tryz.infoS : (Tryz.prog.info? 50).map (fun i => (i.zero, i.size, i.bytes)) = some (some (.agg #[.int .i64 0, .int .i64 0, .int .i64 0, .int .i64 0]), 4, 32) := by kernel_rfl

/-- an owned row of servers, as cells -/
theorem own_mf {w : World} {B : Nat} {v : Value} {N : Nat} {xs : List Srv} (h : w.ownsRow B 50 4 v N (fl xs)) (hl : xs.length = N) :
    (v = .slice none 0 0 ∧ N = 0) ∨ ∃ g cap, v = .slice (some ⟨g, 0, none⟩) N cap ∧ B ≤ g ∧ g < w.heap.size ∧ N ≤ cap ∧ cap ≤ 9223372036854775807 ∧ Mf w g N (fun i => xs.getD i ⟨0, 0, 0, 0⟩) ∧ Fz w g := by
  have hc := h
  obtain ⟨_, h1 | ⟨g, cap, cur, rfl, hb, hg, hn, hm, _, _⟩⟩ := h
  · exact .inl h1
  · refine .inr ⟨g, cap, rfl, hb, (hc.lt g rfl).2, hn, Nat.le_trans hm (by unfold maxLen; omega), ?_, fun i => by simp [World.frozen?, hg]⟩
    intro i hi
    have hx : xs[i]? = some (xs.getD i ⟨0, 0, 0, 0⟩) := by rw [List.getD, List.getElem?_eq_getElem (by omega)]; rfl
    obtain ⟨g0, g1, g2, g3⟩ := fl_get xs i _ hx
    have key := hc.cells (g := g) rfl
    have k0 := key _ _ g0
    have k1 := key _ _ g1
    have k2 := key _ _ g2
    have k3 := key _ _ g3
    rw [add_none, Nat.zero_add] at k0 k1 k2 k3
    exact ⟨k0, k1, k2, k3⟩
theorem own_sv {w : World} {B : Nat} {v : Value} {N : Nat} {xs : List Srv} (h : w.ownsRow B 50 4 v N (fl xs)) (hl : xs.length = N) (hok : ∀ i, i < N → (xs.getD i ⟨0, 0, 0, 0⟩).ok) :
    ∃ a c, v = .slice a N c ∧ Sv w (fun g => v.ownBlock = some g) a N c xs := by
  rcases own_mf h hl with ⟨rfl, h0⟩ | ⟨g, cap, rfl, _, _, hn, hm, hf, _⟩
  · refine ⟨none, 0, by rw [h0], ⟨hl, by omega, by omega, fun _ => rfl, fun i x hx => ?_⟩⟩
    have := (List.getElem?_eq_some_iff.1 hx).1
    omega
  · refine ⟨_, cap, rfl, ?_⟩
    have h1 := hf.sv N cap (Nat.le_refl _) hn hm hok
    have h2 : xs = (List.range N).map (fun i => xs.getD i ⟨0, 0, 0, 0⟩) := by
      apply List.ext_getElem?
      intro i
      by_cases hi : i < N
      · rw [List.getElem?_map, List.getElem?_range hi, List.getElem?_eq_getElem (by omega)]
        simp [hl, hi]
      · rw [List.getElem?_eq_none (by omega), List.getElem?_eq_none (by simp; omega)]
    rw [← h2] at h1
    exact ⟨h1.len, h1.cap, h1.max, h1.nil, fun i x hx => by
      obtain ⟨ok, b, o, e, hb, r⟩ := h1.at' i x hx
      exact ⟨ok, b, o, e, by rw [hb]; rfl, r⟩⟩

theorem made0 (w : World) : (w.alloc (.cells #[] 50)).ownsRow w.heap.size 50 4 (.slice (some ⟨w.heap.size, 0, none⟩) 0 0) 0 [] := World.ownsRow_made w #[] 0 (Nat.le_refl _) (by unfold maxLen; omega) rfl
theorem cell_four (w : World) (x : Srv) (t : TypeId) : ∀ j u, (fl [x])[j]? = some u → (w.alloc (.cells #[.int .i64 x.p, .int .i64 x.b, .int .i64 x.o, .int .i64 x.q] t)).cell? (Addr.add ⟨w.heap.size, 0, none⟩ j) = some u := by
  intro j u hj
  match j, hj with
  | 0, hj => simp [fl] at hj; subst hj; simp [Addr.add]
  | 1, hj => simp [fl] at hj; subst hj; simp [Addr.add]
  | 2, hj => simp [fl] at hj; subst hj; simp [Addr.add]
  | 3, hj => simp [fl] at hj; subst hj; simp [Addr.add]
  | j + 4, hj => simp [fl] at hj
end Go.Proofs.YtggejpccjmolhaaGreatDoor

namespace Go.Proofs.YtggejpccjmolhaaGreatDoor
open Go.RowKit Plain
set_option linter.unusedVariables false
set_option linter.unusedSimpArgs false
set_option maxRecDepth 100000

def pnSv (x : Pn) : Srv := ⟨x.pe, x.bu, x.off, x.pr⟩
def svs (xs : List Pn) : List Srv := xs.map pnSv
theorem svs_len (xs : List Pn) : (svs xs).length = xs.length := by rw [svs, List.length_map]


set_option maxHeartbeats 8000000 in
theorem psrv_any (F : Nat → Prop) (a : Option Addr) (n c : Nat) (xs : List Pn) (w : World) (h : Ls 21 elPn w F a n c xs) (hn : n ≤ 70000) :
    Calls Tryz.prog 57 #[.slice a n c] w fun e w' => ∃ v, e = .returned v ∧ w'.ownsRow w.heap.size 50 4 v n (fl (svs xs)) ∧ Kept No w w' := by
  obtain ⟨i0, hi, hz0, hz1, hz2⟩ := info_parts Tryz.infoS
  have H : Hid (Ls 21 elPn w F a n c xs) := h
  clear h
  go_enter Tryz.func57, Tryz.ntmps57
  go_wp2
  go_loopw [3, 8] (fun v x wr => ∃ k : Nat, k ≤ n ∧ x = .int .i64 k ∧ Kept No w wr ∧ wr.ownsRow w.heap.size 50 4 v k (fl ((svs xs).take k))) (fun _ x _ => n - (intOf x).toNat)
  case atStart => exact ⟨0, by omega, rfl, Kept.refl No w, ⟨rfl, .inl ⟨rfl, rfl⟩⟩⟩
  case round =>
    obtain ⟨k, hk, rfl, hkr, hown⟩ := hrel
    by_cases hlt : k < n
    · have hx : xs[k]? = some (xs.getD k dPn) := by rw [List.getD, List.getElem?_eq_getElem (by rw [H.out.len]; exact hlt)]; rfl
      obtain ⟨b, o, cs, rfl, hb, hl, hr, hE⟩ := H.out.at' k _ hx
      have HNX : Hid (fl ((svs xs).take (k + 1)) = fl ((svs xs).take k) ++ fl [pnSv (xs.getD k dPn)]) := by
        show fl ((svs xs).take (k + 1)) = _
        rw [← fl_app, List.take_add_one, svs, List.getElem?_map, hx]
        rfl
      have HL : Hid ((fl ((svs xs).take k)).length = k * 4) := by show (fl ((svs xs).take k)).length = k * 4; rw [fl_len, List.length_take, svs, List.length_map, H.out.len]; congr 1; omega
      generalize fl ((svs xs).take k) = L0 at *
      generalize xs.getD k dPn = y at *
      obtain ⟨ya, yb, yc, yd, cs0, he⟩ : ∃ ya yb yc yd cs0, cs = .int .i64 ya :: .int .i64 yb :: .int .i64 yc :: .int .i64 yd :: cs0 := by
        obtain ⟨a0, n0, c0, a1, n1, c1, a2, n2, c2, a3, n3, c3, a4, n4, c4, a5, n5, c5, e, _⟩ := hE.sl
        exact ⟨_, _, _, _, _, e⟩
      have hy : pnSv y = ⟨ya, yb, yc, yd⟩ := by
        obtain ⟨a0, n0, c0, a1, n1, c1, a2, n2, c2, a3, n3, c3, a4, n4, c4, a5, n5, c5, e, _⟩ := hE.sl
        rw [he] at e
        simp only [List.cons.injEq, Value.int.injEq, true_and] at e
        obtain ⟨e1, e2, e3, e4, _⟩ := e
        rw [pnSv, e1, e2, e3, e4]
      rw [hy] at HNX
      have h1 : ∀ v ∈ cs, v.oneCell' = true := by
        obtain ⟨a0, n0, c0, a1, n1, c1, a2, n2, c2, a3, n3, c3, a4, n4, c4, a5, n5, c5, e, _⟩ := hE.sl
        rw [e]
        simp [Value.oneCell']
      generalize wr = wo at *
      obtain ⟨w1, hst, hrg, hk1⟩ := box_PnE wo cs hl h1
      have HLD : Hid ((Instr.loadAt 59 (.pointer (some ⟨b, o + k * 21, none⟩))).run Tryz.prog wo = .ok (.agg cs.toArray) wo) := run_loadAt_mid wo b (o + k * 21) _ cs _ (rangeAt_kept hr hkr (fun h => h)) Tryz.underlying59 rfl (by rw [hl]; exact sizeEPn)
      have HST : Hid ((Instr.storeAt 59 (.pointer (some ⟨wo.heap.size, 0, none⟩)) (.agg cs.toArray)).run Tryz.prog (wo.alloc (.cells #[.int .i64 0, .int .i64 0, .int .i64 0, .int .i64 0, .int .i64 0, .int .i64 0, .slice none 0 0, .slice none 0 0, .slice none 0 0, .int .i64 0, .int .i64 0, .int .i64 0, .int .i64 0, .int .i64 0, .int .i64 0, .int .i64 0, .int .i64 0, .int .i64 0, .slice none 0 0, .slice none 0 0, .slice none 0 0] 59)) = .ok () w1) := hst
      have HW : Hid (Kept No w w1) := hkr.trans hk1 (fun _ h => h.elim)
      have HOW : Hid (w1.ownsRow w.heap.size 50 4 u3 k L0) := hk1.owns hown (fun _ _ h => h)
      have hcap : k ≤ c := by have := H.out.cap; omega
      have hn' : n ≤ 9223372036854775807 := by omega
      rw [he] at hrg
      have d0 := hrg 0 _ rfl
      have d1 := hrg 1 _ rfl
      have d2 := hrg 2 _ rfl
      have d3 := hrg 3 _ rfl
      rw [Nat.add_zero] at d0
      simp only [Nat.zero_add] at d1 d2 d3
      clear hkr hr hl h1 hst hrg hk1 hE hx hown hb he hy
      generalize Value.agg cs.toArray = av at *
      go_upto_region 4 with fail
      refine wp_region_lit ?_
      refine l_take 10 rfl rfl (er_idxPn _ _ rfl b o n c k hlt hn' rfl rfl) ?_
      simp only [Act.put, List.setIfInBounds_toArray, List.set_cons_zero, List.set_cons_succ]
      refine l_take 11 rfl rfl (er_ld _ _ rfl _ _ rfl HLD.out) ?_
      simp only [Act.put, List.setIfInBounds_toArray, List.set_cons_zero, List.set_cons_succ]
      refine l_make 5 rfl rfl (er_alPn rfl) ?_
      simp only [Act.put, List.setIfInBounds_toArray, List.set_cons_zero, List.set_cons_succ]
      refine l_turn rfl rfl (er_st _ _ _ rfl _ _ rfl rfl HST.out) ?_
      clear HST HLD
      go_wp2_with (at_builtin; refine wpList_append_own_at _ rfl _ _ 61 rfl w.heap.size 50 i0 (.agg #[.int .i64 0, .int .i64 0, .int .i64 0, .int .i64 0]) 4 32 Tryz.underlying61 hi hz0 hz1 hz2 rfl (by decide) _ _ _ rfl (HOW.out.alloc _) ⟨w1.heap.size, 0, none⟩ 1 1 (fl [⟨ya, yb, yc, yd⟩]) rfl rfl (cell_four w1 ⟨ya, yb, yc, yd⟩ _) (fl_one _) (by unfold maxLen; omega) (by omega) (by have := HW.out.size; simp; omega) ?_; intro v1 w6 own1 grow1 _ at1)
      have HK6 : Hid (Kept No w w6 ∧ w6.ownsRow w.heap.size 50 4 v1 (k + 1) (fl ((svs xs).take (k + 1)))) := by
        exact ⟨(HW.out.alloc _).grown grow1 (fun g e => .inr (HOW.out.lt g e).1), by rw [HNX.out]; exact own1⟩
      clear own1 grow1 at1
      go_wp2
      go_roundw
      case rel => exact ⟨k + 1, by omega, by go_num, HK6.out.1, HK6.out.2⟩
      case measure => simp [intOf]; omega
    · have hke : k = n := by omega
      subst hke
      have HO : Hid (wr.ownsRow w.heap.size 50 4 u3 k (fl (svs xs))) := by
        rw [List.take_of_length_le (by rw [svs, List.length_map, H.out.len]; exact Nat.le_refl _)] at hown
        exact hown
      have HKR : Hid (Kept No w wr) := hkr
      clear hown hkr
      go_wp2
      go_ret
      exact ⟨_, rfl, HO.out, HKR.out⟩
end Go.Proofs.YtggejpccjmolhaaGreatDoor
