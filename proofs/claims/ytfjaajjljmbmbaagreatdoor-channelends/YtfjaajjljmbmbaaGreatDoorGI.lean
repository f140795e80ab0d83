/-
  One text: CInner, CInner2, CHand.
-/
import Derived.Test.YtfjaajjljmbmbaaGreatDoorCObj
import Derived.Test.YtfjaajjljmbmbaaGreatDoorGC
import Derived.Deep.RegionWith
namespace Go.Proofs.YtfjaajjljmbmbaaGreatDoor.Ck
open Go.RowKit
set_option linter.unusedVariables false
set_option linter.unusedSimpArgs false
set_option maxRecDepth 100000

theorem lsSm_keep {w w' : World} {F : Nat → Prop} {a : Option Addr} {n c : Nat} {xs : List Sm} (h : Ls 2 elSm w F a n c xs) (k : Kept No w w') : Ls 2 elSm w' F a n c xs := h.kept k (fun _ _ h => h) (elSm_kept k (fun _ _ h => h))
theorem lsBf_keep {w w' : World} {F : Nat → Prop} {a : Option Addr} {n c : Nat} {xs : List Bf} (h : Ls 2 elBf w F a n c xs) (k : Kept No w w') : Ls 2 elBf w' F a n c xs := h.kept k (fun _ _ h => h) (elBf_kept k (fun _ _ h => h))

set_option maxHeartbeats 4000000 in
theorem part5 (F : Nat → Prop) (cs : List Value) (a : Option Addr) (n c : Nat) (xs : List Sm) (w : World) (h : cs[18]? = some (.slice a n c)) (hL : Ls 2 elSm w F a n c xs) :
    Calls Tryz.prog 91 #[.agg cs.toArray] w fun e w' => e = .returned (fv (eachF (fun i => rowsF (fun j => if bSm (xs.getD i ⟨0, 0⟩) j then 0 else 106) 2) 1 n)) ∧ Kept No w w' := by
  have HK : Hid (Kept No w (w.alloc (.cells cs.toArray 86))) := (Kept.refl No w).alloc _
  have HC : Hid (∀ w' tb, Kept No w w' → Tb w' tb 2 rsSm → Calls Tryz.prog 92 #[.slice a n c, .int .i64 1, .slice (some ⟨tb, 0, none⟩) 2 2] w' fun e w'' => e = .returned (fv (eachF (fun i => rowsF (fun j => if bSm (xs.getD i ⟨0, 0⟩) j then 0 else 106) 2) 1 n)) ∧ Kept No w' w'') := fun w' tb hw hT => each_Sm F a n c xs tb w' (lsSm_keep hL hw) hT
  have HM : Hid (∀ w', Kept No (w.alloc (.cells cs.toArray 86)) w' → w'.cell? ⟨w.heap.size, 18, none⟩ = some (.slice a n c)) := fun w' k => k.cell (pn_cell w cs _ 18 _ h) (fun h => h)
  clear h hL
  generalize eachF (fun i => rowsF (fun j => if bSm (xs.getD i ⟨0, 0⟩) j then 0 else 106) 2) 1 n = z at *
  go_enter Tryz.func91, Tryz.ntmps91
  go_upto_region 1 with fail
  generalize w.alloc (.cells cs.toArray 86) = w0 at *
  generalize Value.agg cs.toArray = av at *
  have m0 := HM.out w0 (Kept.refl No w0)
  go_region_with (first
    | (go_at_call 93; refine (tableSm _).mono ?_; rintro e w1 ⟨tb, rfl, hT, hk1⟩; have HT : Hid (Tb w1 tb 2 rsSm) := hT; have HK1 : Hid (Kept No w0 w1) := (Kept.refl No w0).drew.trans hk1 (fun _ h => h.elim); have p0 := HM.out w1 HK1.out; clear hT hk1)
    | (go_at_call 92; refine (HC.out _ _ (HK.out.trans HK1.out (fun _ h => h.elim)) HT.out).mono ?_; rintro e w2 ⟨rfl, hk2⟩; have HK2 : Hid (Kept No w0 w2) := HK1.out.trans hk2 (fun _ h => h.elim); clear hk2))
  all_goals (try go_wp2)
  all_goals (go_ret; exact ⟨rfl, HK.out.trans HK2.out (fun _ h => h.elim)⟩)

set_option maxHeartbeats 4000000 in
theorem part6 (F : Nat → Prop) (cs : List Value) (a : Option Addr) (n c : Nat) (xs : List Bf) (w : World) (h : cs[20]? = some (.slice a n c)) (hL : Ls 2 elBf w F a n c xs) :
    Calls Tryz.prog 94 #[.agg cs.toArray] w fun e w' => e = .returned (fv (eachF (fun i => rowsF (fun j => if bBf (xs.getD i ⟨0, 0⟩) j then 0 else 106) 2) 1 n)) ∧ Kept No w w' := by
  have HK : Hid (Kept No w (w.alloc (.cells cs.toArray 86))) := (Kept.refl No w).alloc _
  have HC : Hid (∀ w' tb, Kept No w w' → Tb w' tb 2 rsBf → Calls Tryz.prog 95 #[.slice a n c, .int .i64 1, .slice (some ⟨tb, 0, none⟩) 2 2] w' fun e w'' => e = .returned (fv (eachF (fun i => rowsF (fun j => if bBf (xs.getD i ⟨0, 0⟩) j then 0 else 106) 2) 1 n)) ∧ Kept No w' w'') := fun w' tb hw hT => each_Bf F a n c xs tb w' (lsBf_keep hL hw) hT
  have HM : Hid (∀ w', Kept No (w.alloc (.cells cs.toArray 86)) w' → w'.cell? ⟨w.heap.size, 20, none⟩ = some (.slice a n c)) := fun w' k => k.cell (pn_cell w cs _ 20 _ h) (fun h => h)
  clear h hL
  generalize eachF (fun i => rowsF (fun j => if bBf (xs.getD i ⟨0, 0⟩) j then 0 else 106) 2) 1 n = z at *
  go_enter Tryz.func94, Tryz.ntmps94
  go_upto_region 1 with fail
  generalize w.alloc (.cells cs.toArray 86) = w0 at *
  generalize Value.agg cs.toArray = av at *
  have m0 := HM.out w0 (Kept.refl No w0)
  go_region_with (first
    | (go_at_call 96; refine (tableBf _).mono ?_; rintro e w1 ⟨tb, rfl, hT, hk1⟩; have HT : Hid (Tb w1 tb 2 rsBf) := hT; have HK1 : Hid (Kept No w0 w1) := (Kept.refl No w0).drew.trans hk1 (fun _ h => h.elim); have p0 := HM.out w1 HK1.out; clear hT hk1)
    | (go_at_call 95; refine (HC.out _ _ (HK.out.trans HK1.out (fun _ h => h.elim)) HT.out).mono ?_; rintro e w2 ⟨rfl, hk2⟩; have HK2 : Hid (Kept No w0 w2) := HK1.out.trans hk2 (fun _ h => h.elim); clear hk2))
  all_goals (try go_wp2)
  all_goals (go_ret; exact ⟨rfl, HK.out.trans HK2.out (fun _ h => h.elim)⟩)

end Go.Proofs.YtfjaajjljmbmbaaGreatDoor.Ck

namespace Go.Proofs.YtfjaajjljmbmbaaGreatDoor.Ck
open Go.RowKit
set_option linter.unusedVariables false
set_option linter.unusedSimpArgs false
set_option maxRecDepth 100000

theorem lsPrc_keep {w w' : World} {F : Nat → Prop} {a : Option Addr} {n c : Nat} {xs : List Prc} (h : Ls 6 elPrc w F a n c xs) (k : Kept No w w') : Ls 6 elPrc w' F a n c xs := h.kept k (fun _ _ h => h) (elPrc_kept k (fun _ _ h => h))

set_option maxHeartbeats 8000000 in
theorem part4 (F : Nat → Prop) (cs : List Value) (ca : Option Addr) (cn cc : Nat) (a : Option Addr) (n c : Nat) (xs : List Prc) (w : World) (hcn : cn ≤ 9223372036854775807) (h7 : cs[7]? = some (.slice ca cn cc)) (h8 : cs[8]? = some (.slice a n c)) (hL : Ls 6 elPrc w F a n c xs) :
    Calls Tryz.prog 88 #[.agg cs.toArray] w fun e w' => e = .returned (fv (eachF (fun i => rowsF (fun j => if bPrc cn (xs.getD i ⟨0, 0, 0, 0, 0, false⟩) j then 0 else 105) 6) 1 n)) ∧ Kept No w w' := by
  have HK : Hid (Kept No w (w.alloc (.cells cs.toArray 86))) := (Kept.refl No w).alloc _
  have HC : Hid (∀ w' g tb, Kept No w w' → w'.cell? ⟨g, 0, none⟩ = some (.int .i64 cn) → Tb w' tb 6 (rsPrc g) → Calls Tryz.prog 89 #[.slice a n c, .int .i64 1, .slice (some ⟨tb, 0, none⟩) 6 6] w' fun e w'' => e = .returned (fv (eachF (fun i => rowsF (fun j => if bPrc cn (xs.getD i ⟨0, 0, 0, 0, 0, false⟩) j then 0 else 105) 6) 1 n)) ∧ Kept No w' w'') := fun w' g tb hw hg hT => each_Prc F a n c xs tb g cn w' (lsPrc_keep hL hw) hg hT
  have HM : Hid (∀ w', Kept No (w.alloc (.cells cs.toArray 86)) w' → w'.cell? ⟨w.heap.size, 7, none⟩ = some (.slice ca cn cc) ∧ w'.cell? ⟨w.heap.size, 8, none⟩ = some (.slice a n c)) := fun w' k => ⟨k.cell (pn_cell w cs _ 7 _ h7) (fun h => h), k.cell (pn_cell w cs _ 8 _ h8) (fun h => h)⟩
  clear h7 h8 hL
  generalize eachF (fun i => rowsF (fun j => if bPrc cn (xs.getD i ⟨0, 0, 0, 0, 0, false⟩) j then 0 else 105) 6) 1 n = z at *
  go_enter Tryz.func88, Tryz.ntmps88
  go_upto_region 1 with fail
  generalize w.alloc (.cells cs.toArray 86) = w0 at *
  generalize Value.agg cs.toArray = av at *
  obtain ⟨m0, m1⟩ := HM.out w0 (Kept.refl No w0)
  go_region_with (first
    | (go_at_call 90; refine (tablePrc _ _).mono ?_; rintro e w1 ⟨g, tb, rfl, hT, hg, hk1⟩; have HT : Hid (Tb w1 tb 6 (rsPrc g)) := hT; have HGG : Hid (w1.cell? ⟨g, 0, none⟩ = some (.int .i64 cn)) := hg; have HK1 : Hid (Kept No w0 w1) := (Kept.refl No w0).drew.trans hk1 (fun _ h => h.elim); obtain ⟨p0, p1⟩ := HM.out w1 HK1.out; clear hT hk1 hg)
    | (go_at_call 89; refine (HC.out _ _ _ (HK.out.trans HK1.out (fun _ h => h.elim)) HGG.out HT.out).mono ?_; rintro e w2 ⟨rfl, hk2⟩; have HK2 : Hid (Kept No w0 w2) := HK1.out.trans hk2 (fun _ h => h.elim); clear hk2))
  all_goals (try go_wp2)
  all_goals (go_ret; exact ⟨rfl, HK.out.trans HK2.out (fun _ h => h.elim)⟩)
end Go.Proofs.YtfjaajjljmbmbaaGreatDoor.Ck

namespace Go.Proofs.YtfjaajjljmbmbaaGreatDoor.Ck
open Go.RowKit
set_option linter.unusedVariables false
set_option linter.unusedSimpArgs false
set_option maxRecDepth 100000

def hanF (ha : Int) (xs : List Prc) (n : Nat) : Bool :=
  if ha = 0 then true else if inB ha 1 n then ((xs.getD (ha.toNat - 1) ⟨0, 0, 0, 0, 0, false⟩).pe == 0 && ((xs.getD (ha.toNat - 1) ⟨0, 0, 0, 0, 0, false⟩).li == 0 && !(xs.getD (ha.toNat - 1) ⟨0, 0, 0, 0, 0, false⟩).auto)) else false

set_option maxHeartbeats 4000000 in
theorem hasHandler_any (F : Nat → Prop) (cs : List Value) (ha : Int) (a : Option Addr) (n c : Nat) (xs : List Prc) (w : World) (h9 : cs[9]? = some (.int .i64 ha)) (h8 : cs[8]? = some (.slice a n c)) (hL : Ls 6 elPrc w F a n c xs) :
    Calls Tryz.prog 99 #[.agg cs.toArray] w fun e w' => e = .returned (.bool (hanF ha xs n)) ∧ Kept No w w' := by
  have hn : n ≤ 9223372036854775807 := Nat.le_trans hL.cap hL.max
  have HK : Hid (Kept No w (w.alloc (.cells cs.toArray 86))) := (Kept.refl No w).alloc _
  have d9 := pn_cell w cs 86 9 _ h9
  have d8 := pn_cell w cs 86 8 _ h8
  by_cases hz : ha = 0
  · rw [show hanF ha xs n = true by unfold hanF; rw [if_pos hz]]
    subst hz
    clear h8 h9 hL
    go_enter Tryz.func99, Tryz.ntmps99
    go_wp2
    go_ret
    exact ⟨rfl, HK.out⟩
  have q := within_any ha 1 n
  cases hb : inB ha 1 n
  · rw [show hanF ha xs n = false by unfold hanF; rw [if_neg hz, hb]; rfl]
    rw [hb] at q
    clear h8 h9 hL hb
    go_enter Tryz.func99, Tryz.ntmps99
    go_wp2_with (go_at_call 76; refine (q _).mono ?_; rintro e w' ⟨rfl, rfl⟩)
    go_ret
    exact ⟨rfl, HK.out⟩
  · have hr : 1 ≤ ha ∧ ha ≤ n := by simp [inB] at hb; exact hb
    obtain ⟨k, hk⟩ : ∃ k : Nat, ha = k + 1 := ⟨(ha - 1).toNat, by omega⟩
    subst hk
    have hkn : k < n := by omega
    have hx : xs[k]? = some (xs.getD k ⟨0, 0, 0, 0, 0, false⟩) := by rw [List.getD, List.getElem?_eq_getElem (by rw [hL.len]; exact hkn)]; rfl
    obtain ⟨b, o, ds, rfl, hb2, hl, hrg, hE⟩ := hL.at' k _ hx
    have hds := hE.1
    have hHan : hanF ((k : Int) + 1) xs n = ((xs.getD k ⟨0, 0, 0, 0, 0, false⟩).pe == 0 && ((xs.getD k ⟨0, 0, 0, 0, 0, false⟩).li == 0 && !(xs.getD k ⟨0, 0, 0, 0, 0, false⟩).auto)) := by
      unfold hanF
      rw [if_neg hz, hb, show ((k : Int) + 1).toNat - 1 = k by omega]
      rfl
    rw [hHan]
    rw [hb] at q
    subst hds
    have kk := HK.out
    have r0 := kk.cell (hrg 0 _ rfl) (fun h => h)
    have r1 := kk.cell (hrg 1 _ rfl) (fun h => h)
    have r2 := kk.cell (hrg 2 _ rfl) (fun h => h)
    have r3 := kk.cell (hrg 3 _ rfl) (fun h => h)
    have r4 := kk.cell (hrg 4 _ rfl) (fun h => h)
    have r5 := kk.cell (hrg 5 _ rfl) (fun h => h)
    rw [Nat.add_zero] at r0
    clear h8 h9 hL hb hx hE hl hrg hHan kk hz
    generalize xs.getD k ⟨0, 0, 0, 0, 0, false⟩ = y at *
    obtain ⟨en, pr, pe, li, ca, auto⟩ := y
    simp only at r0 r1 r2 r3 r4 r5
    have HK2 : Hid (∀ o, Kept No w ((w.alloc (.cells cs.toArray 86)).alloc o)) := fun o => HK.out.alloc o
    cases h1 : (pe == 0)
    · go_enter Tryz.func99, Tryz.ntmps99
      go_wp2_with (go_at_call 76; refine (q _).mono ?_; rintro e w' ⟨rfl, rfl⟩)
      go_ret
      exact ⟨rfl, HK2.out _⟩
    cases h2 : (li == 0)
    · go_enter Tryz.func99, Tryz.ntmps99
      go_wp2_with (go_at_call 76; refine (q _).mono ?_; rintro e w' ⟨rfl, rfl⟩)
      go_ret
      exact ⟨rfl, HK2.out _⟩
    · go_enter Tryz.func99, Tryz.ntmps99
      go_wp2_with (go_at_call 76; refine (q _).mono ?_; rintro e w' ⟨rfl, rfl⟩)
      go_ret
      exact ⟨rfl, HK2.out _⟩
end Go.Proofs.YtfjaajjljmbmbaaGreatDoor.Ck
