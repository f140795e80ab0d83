/-
  The steps of the look at an image: the second (counts) and the fifth (ports).
-/
import Derived.Test.YtfjaajjljmbmbaaGreatDoorGC
import Derived.Test.YtfjaajjljmbmbaaGreatDoorCObj
import Derived.Deep.RegionWith
namespace Go.Proofs.YtfjaajjljmbmbaaGreatDoor.Ck
open Go.RowKit
set_option linter.unusedVariables false
set_option linter.unusedSimpArgs false
set_option maxRecDepth 100000

theorem lsPn_keep {w w' : World} {F : Nat → Prop} {a : Option Addr} {n c : Nat} {xs : List Pn} (h : Ls 21 elPn w F a n c xs) (k : Kept No w w') : Ls 21 elPn w' F a n c xs := h.kept k (fun _ _ h => h) (elPn_kept k (fun _ _ h => h))
theorem lsPo_keep {w w' : World} {F : Nat → Prop} {a : Option Addr} {n c : Nat} {xs : List Po} (h : Ls 6 elPo w F a n c xs) (k : Kept No w w') : Ls 6 elPo w' F a n c xs := h.kept k (fun _ _ h => h) (elPo_kept k (fun _ _ h => h))

set_option maxHeartbeats 4000000 in
theorem step2 (F : Nat → Prop) (a0 : Option Addr) (n0 c0 : Nat) (v1 v2 : Value) (xs : List Pn) (w : World) (hL : Ls 21 elPn w F a0 n0 c0 xs) :
    Calls Tryz.prog 40 #[.agg #[.slice a0 n0 c0, v1, v2]] w fun e w' => e = .returned (fv (eachF (fun i => rowsF (fun j => if bCn (xs.getD i dPn) j then 0 else 100) 6) 1 n0)) ∧ Kept No w w' := by
  have HK : Hid (Kept No w (w.alloc (.cells #[.slice a0 n0 c0, v1, v2] 26))) := (Kept.refl No w).alloc _
  have HC : Hid (∀ w' tb, Kept No w w' → Tb w' tb 6 rsCn → Calls Tryz.prog 41 #[.slice a0 n0 c0, .int .i64 1, .slice (some ⟨tb, 0, none⟩) 6 6] w' fun e w'' => e = .returned (fv (eachF (fun i => rowsF (fun j => if bCn (xs.getD i dPn) j then 0 else 100) 6) 1 n0)) ∧ Kept No w' w'') := fun w' tb hw hT => each_Cn F a0 n0 c0 xs tb w' (lsPn_keep hL hw) hT
  have HM : Hid (∀ w', Kept No (w.alloc (.cells #[.slice a0 n0 c0, v1, v2] 26)) w' → w'.cell? ⟨w.heap.size, 0, none⟩ = some (.slice a0 n0 c0)) := fun w' k => k.cell (by simp) (fun h => h)
  clear hL
  generalize eachF (fun i => rowsF (fun j => if bCn (xs.getD i dPn) j then 0 else 100) 6) 1 n0 = z at *
  go_enter Tryz.func40, Tryz.ntmps40
  go_upto_region 1 with fail
  generalize w.alloc (.cells #[.slice a0 n0 c0, v1, v2] 26) = w0 at *
  have m0 := HM.out w0 (Kept.refl No w0)
  go_region_with (first
    | (go_at_call 42; refine (tableCn _).mono ?_; rintro e w1 ⟨tb, rfl, hT, hk1⟩; have HT : Hid (Tb w1 tb 6 rsCn) := hT; have HK1 : Hid (Kept No w0 w1) := (Kept.refl No w0).drew.trans hk1 (fun _ h => h.elim); have p0 := HM.out w1 HK1.out; clear hT hk1)
    | (go_at_call 41; refine (HC.out _ _ (HK.out.trans HK1.out (fun _ h => h.elim)) HT.out).mono ?_; rintro e w2 ⟨rfl, hk2⟩; have HK2 : Hid (Kept No w0 w2) := HK1.out.trans hk2 (fun _ h => h.elim); clear hk2))
  all_goals (try go_wp2)
  all_goals (go_ret; exact ⟨rfl, HK.out.trans HK2.out (fun _ h => h.elim)⟩)

set_option maxHeartbeats 8000000 in
theorem step5 (F : Nat → Prop) (a0 : Option Addr) (n0 c0 : Nat) (a1 : Option Addr) (n1 c1 : Nat) (v2 : Value) (xs : List Po) (w : World) (h0 : n0 ≤ 9223372036854775807) (hL : Ls 6 elPo w F a1 n1 c1 xs) :
    Calls Tryz.prog 48 #[.agg #[.slice a0 n0 c0, .slice a1 n1 c1, v2]] w fun e w' => e = .returned (fv (eachF (fun i => rowsF (fun j => if bPo n0 (xs.getD i ⟨0, 0, false, 0, 0, 0⟩) j then 0 else 107) 5) 1 n1)) ∧ Kept No w w' := by
  have HK : Hid (Kept No w (w.alloc (.cells #[.slice a0 n0 c0, .slice a1 n1 c1, v2] 26))) := (Kept.refl No w).alloc _
  have HC : Hid (∀ w' g tb, Kept No w w' → w'.cell? ⟨g, 0, none⟩ = some (.int .i64 n0) → Tb w' tb 5 (rsPo g) → Calls Tryz.prog 49 #[.slice a1 n1 c1, .int .i64 1, .slice (some ⟨tb, 0, none⟩) 5 5] w' fun e w'' => e = .returned (fv (eachF (fun i => rowsF (fun j => if bPo n0 (xs.getD i ⟨0, 0, false, 0, 0, 0⟩) j then 0 else 107) 5) 1 n1)) ∧ Kept No w' w'') := fun w' g tb hw hg hT => each_Po F a1 n1 c1 xs tb g n0 w' (lsPo_keep hL hw) hg hT
  have HM : Hid (∀ w', Kept No (w.alloc (.cells #[.slice a0 n0 c0, .slice a1 n1 c1, v2] 26)) w' → w'.cell? ⟨w.heap.size, 0, none⟩ = some (.slice a0 n0 c0) ∧ w'.cell? ⟨w.heap.size, 1, none⟩ = some (.slice a1 n1 c1)) := fun w' k => ⟨k.cell (by simp) (fun h => h), k.cell (by simp) (fun h => h)⟩
  clear hL
  generalize eachF (fun i => rowsF (fun j => if bPo n0 (xs.getD i ⟨0, 0, false, 0, 0, 0⟩) j then 0 else 107) 5) 1 n1 = z at *
  go_enter Tryz.func48, Tryz.ntmps48
  go_upto_region 1 with fail
  generalize w.alloc (.cells #[.slice a0 n0 c0, .slice a1 n1 c1, v2] 26) = w0 at *
  obtain ⟨m0, m1⟩ := HM.out w0 (Kept.refl No w0)
  go_region_with (first
    | (go_at_call 50; refine (tablePo _ _).mono ?_; rintro e w1 ⟨g, tb, rfl, hT, hg, hk1⟩; have HT : Hid (Tb w1 tb 5 (rsPo g)) := hT; have HGG : Hid (w1.cell? ⟨g, 0, none⟩ = some (.int .i64 n0)) := hg; have HK1 : Hid (Kept No w0 w1) := (Kept.refl No w0).drew.trans hk1 (fun _ h => h.elim); obtain ⟨p0, p1⟩ := HM.out w1 HK1.out; clear hT hk1 hg)
    | (go_at_call 49; refine (HC.out _ _ _ (HK.out.trans HK1.out (fun _ h => h.elim)) HGG.out HT.out).mono ?_; rintro e w2 ⟨rfl, hk2⟩; have HK2 : Hid (Kept No w0 w2) := HK1.out.trans hk2 (fun _ h => h.elim); clear hk2))
  all_goals (try go_wp2)
  all_goals (go_ret; exact ⟨rfl, HK.out.trans HK2.out (fun _ h => h.elim)⟩)
end Go.Proofs.YtfjaajjljmbmbaaGreatDoor.Ck
