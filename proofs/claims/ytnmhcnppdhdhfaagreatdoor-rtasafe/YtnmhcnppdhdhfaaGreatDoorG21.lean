/-
  One text: CInner, CHand, RFits, CCnt, CStep2.
-/
import Derived.Test.YtnmhcnppdhdhfaaGreatDoorG20
import Derived.Deep.RegionWith
import Derived.Test.YtnmhcnppdhdhfaaGreatDoorHRLeg
import Derived.Test.YtnmhcnppdhdhfaaGreatDoorG16
namespace Go.Proofs.YtnmhcnppdhdhfaaGreatDoor
open Go.RowKit
set_option linter.unusedVariables false
set_option linter.unusedSimpArgs false
set_option maxRecDepth 100000

theorem lsSm_keep {w w' : World} {F : Nat → Prop} {a : Option Addr} {n c : Nat} {xs : List Sm} (h : Ls 2 elSm w F a n c xs) (k : Kept No w w') : Ls 2 elSm w' F a n c xs := h.kept k (fun _ _ h => h) (elSm_kept k (fun _ _ h => h))
theorem lsBf_keep {w w' : World} {F : Nat → Prop} {a : Option Addr} {n c : Nat} {xs : List Bf} (h : Ls 2 elBf w F a n c xs) (k : Kept No w w') : Ls 2 elBf w' F a n c xs := h.kept k (fun _ _ h => h) (elBf_kept k (fun _ _ h => h))

set_option maxHeartbeats 4000000 in
theorem part5 (F : Nat → Prop) (cs : List Value) (a : Option Addr) (n c : Nat) (xs : List Sm) (w : World) (h : cs[18]? = some (.slice a n c)) (hL : Ls 2 elSm w F a n c xs) :
    Calls Tryz.prog 118 #[.agg cs.toArray] w fun e w' => e = .returned (fv (eachF (fun i => rowsF (fun j => if bSm (xs.getD i ⟨0, 0⟩) j then 0 else 106) 2) 1 n)) ∧ Kept No w w' := by
  have HK : Hid (Kept No w (w.alloc (.cells cs.toArray 48))) := (Kept.refl No w).alloc _
  have HC : Hid (∀ w' tb, Kept No w w' → Tb w' tb 2 rsSm → Calls Tryz.prog 119 #[.slice a n c, .int .i64 1, .slice (some ⟨tb, 0, none⟩) 2 2] w' fun e w'' => e = .returned (fv (eachF (fun i => rowsF (fun j => if bSm (xs.getD i ⟨0, 0⟩) j then 0 else 106) 2) 1 n)) ∧ Kept No w' w'') := fun w' tb hw hT => each_Sm F a n c xs tb w' (lsSm_keep hL hw) hT
  have HM : Hid (∀ w', Kept No (w.alloc (.cells cs.toArray 48)) w' → w'.cell? ⟨w.heap.size, 18, none⟩ = some (.slice a n c)) := fun w' k => k.cell (pn_cell w cs _ 18 _ h) (fun h => h)
  clear h hL
  generalize eachF (fun i => rowsF (fun j => if bSm (xs.getD i ⟨0, 0⟩) j then 0 else 106) 2) 1 n = z at *
  go_enter Tryz.func118, Tryz.ntmps118
  go_upto_region 1 with fail
  generalize w.alloc (.cells cs.toArray 48) = w0 at *
  generalize Value.agg cs.toArray = av at *
  have m0 := HM.out w0 (Kept.refl No w0)
  go_region_with (first
    | (go_at_call 120; refine (tableSm _).mono ?_; rintro e w1 ⟨tb, rfl, hT, hk1⟩; have HT : Hid (Tb w1 tb 2 rsSm) := hT; have HK1 : Hid (Kept No w0 w1) := (Kept.refl No w0).drew.trans hk1 (fun _ h => h.elim); have p0 := HM.out w1 HK1.out; clear hT hk1)
    | (go_at_call 119; refine (HC.out _ _ (HK.out.trans HK1.out (fun _ h => h.elim)) HT.out).mono ?_; rintro e w2 ⟨rfl, hk2⟩; have HK2 : Hid (Kept No w0 w2) := HK1.out.trans hk2 (fun _ h => h.elim); clear hk2))
  all_goals (try go_wp2)
  all_goals (go_ret; exact ⟨rfl, HK.out.trans HK2.out (fun _ h => h.elim)⟩)

set_option maxHeartbeats 4000000 in
theorem part6 (F : Nat → Prop) (cs : List Value) (a : Option Addr) (n c : Nat) (xs : List Bf) (w : World) (h : cs[20]? = some (.slice a n c)) (hL : Ls 2 elBf w F a n c xs) :
    Calls Tryz.prog 121 #[.agg cs.toArray] w fun e w' => e = .returned (fv (eachF (fun i => rowsF (fun j => if bBf (xs.getD i ⟨0, 0⟩) j then 0 else 106) 2) 1 n)) ∧ Kept No w w' := by
  have HK : Hid (Kept No w (w.alloc (.cells cs.toArray 48))) := (Kept.refl No w).alloc _
  have HC : Hid (∀ w' tb, Kept No w w' → Tb w' tb 2 rsBf → Calls Tryz.prog 122 #[.slice a n c, .int .i64 1, .slice (some ⟨tb, 0, none⟩) 2 2] w' fun e w'' => e = .returned (fv (eachF (fun i => rowsF (fun j => if bBf (xs.getD i ⟨0, 0⟩) j then 0 else 106) 2) 1 n)) ∧ Kept No w' w'') := fun w' tb hw hT => each_Bf F a n c xs tb w' (lsBf_keep hL hw) hT
  have HM : Hid (∀ w', Kept No (w.alloc (.cells cs.toArray 48)) w' → w'.cell? ⟨w.heap.size, 20, none⟩ = some (.slice a n c)) := fun w' k => k.cell (pn_cell w cs _ 20 _ h) (fun h => h)
  clear h hL
  generalize eachF (fun i => rowsF (fun j => if bBf (xs.getD i ⟨0, 0⟩) j then 0 else 106) 2) 1 n = z at *
  go_enter Tryz.func121, Tryz.ntmps121
  go_upto_region 1 with fail
  generalize w.alloc (.cells cs.toArray 48) = w0 at *
  generalize Value.agg cs.toArray = av at *
  have m0 := HM.out w0 (Kept.refl No w0)
  go_region_with (first
    | (go_at_call 123; refine (tableBf _).mono ?_; rintro e w1 ⟨tb, rfl, hT, hk1⟩; have HT : Hid (Tb w1 tb 2 rsBf) := hT; have HK1 : Hid (Kept No w0 w1) := (Kept.refl No w0).drew.trans hk1 (fun _ h => h.elim); have p0 := HM.out w1 HK1.out; clear hT hk1)
    | (go_at_call 122; refine (HC.out _ _ (HK.out.trans HK1.out (fun _ h => h.elim)) HT.out).mono ?_; rintro e w2 ⟨rfl, hk2⟩; have HK2 : Hid (Kept No w0 w2) := HK1.out.trans hk2 (fun _ h => h.elim); clear hk2))
  all_goals (try go_wp2)
  all_goals (go_ret; exact ⟨rfl, HK.out.trans HK2.out (fun _ h => h.elim)⟩)

end Go.Proofs.YtnmhcnppdhdhfaaGreatDoor

namespace Go.Proofs.YtnmhcnppdhdhfaaGreatDoor
open Go.RowKit
set_option linter.unusedVariables false
set_option linter.unusedSimpArgs false
set_option maxRecDepth 100000

def hanF (ha : Int) (xs : List Prc) (n : Nat) : Bool :=
  if ha = 0 then true else if inB ha 1 n then ((xs.getD (ha.toNat - 1) ⟨0, 0, 0, 0, 0, false⟩).pe == 0 && ((xs.getD (ha.toNat - 1) ⟨0, 0, 0, 0, 0, false⟩).li == 0 && !(xs.getD (ha.toNat - 1) ⟨0, 0, 0, 0, 0, false⟩).auto)) else false

set_option maxHeartbeats 4000000 in
theorem hasHandler_any (F : Nat → Prop) (cs : List Value) (ha : Int) (a : Option Addr) (n c : Nat) (xs : List Prc) (w : World) (h9 : cs[9]? = some (.int .i64 ha)) (h8 : cs[8]? = some (.slice a n c)) (hL : Ls 6 elPrc w F a n c xs) :
    Calls Tryz.prog 126 #[.agg cs.toArray] w fun e w' => e = .returned (.bool (hanF ha xs n)) ∧ Kept No w w' := by
  have hn : n ≤ 9223372036854775807 := Nat.le_trans hL.cap hL.max
  have HK : Hid (Kept No w (w.alloc (.cells cs.toArray 48))) := (Kept.refl No w).alloc _
  have d9 := pn_cell w cs 48 9 _ h9
  have d8 := pn_cell w cs 48 8 _ h8
  by_cases hz : ha = 0
  · rw [show hanF ha xs n = true by unfold hanF; rw [if_pos hz]]
    subst hz
    clear h8 h9 hL
    go_enter Tryz.func126, Tryz.ntmps126
    go_wp2
    go_ret
    exact ⟨rfl, HK.out⟩
  have q := within_any ha 1 n
  cases hb : inB ha 1 n
  · rw [show hanF ha xs n = false by unfold hanF; rw [if_neg hz, hb]; rfl]
    rw [hb] at q
    clear h8 h9 hL hb
    go_enter Tryz.func126, Tryz.ntmps126
    go_wp2_with (go_at_call 106; refine (q _).mono ?_; rintro e w' ⟨rfl, rfl⟩)
    go_ret
    exact ⟨rfl, HK.out⟩
  · have hr : 1 ≤ ha ∧ ha ≤ n := by simp [inB] at hb; exact hb
    obtain ⟨k, hk⟩ : ∃ k : Nat, ha = k + 1 := ⟨(ha - 1).toNat, by omega⟩
    subst hk
    have hkn : k < n := by omega
    have hx : xs[k]? = some (xs.getD k ⟨0, 0, 0, 0, 0, false⟩) := by rw [List.getD, List.getElem?_eq_getElem (by rw [hL.len]; exact hkn)]; rfl
    obtain ⟨b, o, ds, rfl, hb2, hl, hrg, hE⟩ := hL.at' k _ hx
    have hds := hE.1
    have hHan : hanF ((k : Int) + 1) xs n = ((xs.getD k ⟨0, 0, 0, 0, 0, false⟩).pe == 0 && ((xs.getD k ⟨0, 0, 0, 0, 0, false⟩).li == 0 && !(xs.getD k ⟨0, 0, 0, 0, 0, false⟩).auto)) := by
      unfold hanF
      rw [if_neg hz, hb, show ((k : Int) + 1).toNat - 1 = k by omega]
      rfl
    rw [hHan]
    rw [hb] at q
    subst hds
    have kk := HK.out
    have r0 := kk.cell (hrg 0 _ rfl) (fun h => h)
    have r1 := kk.cell (hrg 1 _ rfl) (fun h => h)
    have r2 := kk.cell (hrg 2 _ rfl) (fun h => h)
    have r3 := kk.cell (hrg 3 _ rfl) (fun h => h)
    have r4 := kk.cell (hrg 4 _ rfl) (fun h => h)
    have r5 := kk.cell (hrg 5 _ rfl) (fun h => h)
    rw [Nat.add_zero] at r0
    clear h8 h9 hL hb hx hE hl hrg hHan kk hz
    generalize xs.getD k ⟨0, 0, 0, 0, 0, false⟩ = y at *
    obtain ⟨en, pr, pe, li, ca, auto⟩ := y
    simp only at r0 r1 r2 r3 r4 r5
    have HK2 : Hid (∀ o, Kept No w ((w.alloc (.cells cs.toArray 48)).alloc o)) := fun o => HK.out.alloc o
    cases h1 : (pe == 0)
    · go_enter Tryz.func126, Tryz.ntmps126
      go_wp2_with (go_at_call 106; refine (q _).mono ?_; rintro e w' ⟨rfl, rfl⟩)
      go_ret
      exact ⟨rfl, HK2.out _⟩
    cases h2 : (li == 0)
    · go_enter Tryz.func126, Tryz.ntmps126
      go_wp2_with (go_at_call 106; refine (q _).mono ?_; rintro e w' ⟨rfl, rfl⟩)
      go_ret
      exact ⟨rfl, HK2.out _⟩
    · go_enter Tryz.func126, Tryz.ntmps126
      go_wp2_with (go_at_call 106; refine (q _).mono ?_; rintro e w' ⟨rfl, rfl⟩)
      go_ret
      exact ⟨rfl, HK2.out _⟩
end Go.Proofs.YtnmhcnppdhdhfaaGreatDoor

namespace Go.Proofs.YtnmhcnppdhdhfaaGreatDoor
open Go.RowKit
set_option linter.unusedVariables false
set_option linter.unusedSimpArgs false
set_option maxRecDepth 100000

def mwB (o a b c n : Int) : Bool := !Lg.lg o a b c n || (o == 27 && !(n == 1 || n == 3 || n == 12 || n == 14 || n == 15 || n == 16 || n == 19))
theorem ops_kept {G : Nat → Prop} {w w' : World} (h : Lg.Ops w) (k : Kept G w w') (hG : ¬ G 1) : Lg.Ops w' := fun i hi => by
  obtain ⟨h1, h2⟩ := h i hi
  exact ⟨k.cell h1 hG, k.cell h2 hG⟩

set_option maxHeartbeats 4000000 in
theorem mayWait_any (o a b c n : Int) (ho : 0 ≤ o ∧ o < 256) (ha : 0 ≤ a ∧ a < 256) (hb : 0 ≤ b ∧ b < 256) (hc : 0 ≤ c ∧ c < 256) (w : World) (hO : Lg.Ops w) :
    Calls Tryz.prog 44 #[.agg #[.int .u8 o, .int .u8 a, .int .u8 b, .int .u8 c, .int .i32 n]] w fun e w' => e = .returned (.bool (mwB o a b c n)) ∧ Kept No w w' := by
  have KA : Kept No w (w.alloc (.cells #[.int .u8 o, .int .u8 a, .int .u8 b, .int .u8 c, .int .i32 n] 84)) := (Kept.refl No w).alloc _
  have cl := Lg.legal_any o a b c n ho ha hb hc _ (ops_kept hO KA (fun h => h))
  have HM : Hid (∀ W, Below (w.alloc (.cells #[.int .u8 o, .int .u8 a, .int .u8 b, .int .u8 c, .int .i32 n] 84)).heap.size (w.alloc (.cells #[.int .u8 o, .int .u8 a, .int .u8 b, .int .u8 c, .int .i32 n] 84)) W → W.cell? ⟨w.heap.size, 0, none⟩ = some (.int .u8 o) ∧ W.cell? ⟨w.heap.size, 4, none⟩ = some (.int .i32 n) ∧ Kept No w W) := fun W bel => by
    have k : Kept No _ W := Kept.of_below bel
    exact ⟨k.cell (by simp) (fun h => h), k.cell (by simp) (fun h => h), KA.trans k (fun _ h => h.elim)⟩
  unfold Lg.insV at cl
  have e : mwB o a b c n = (!Lg.lg o a b c n || (o == 27 && !(n == 1 || n == 3 || n == 12 || n == 14 || n == 15 || n == 16 || n == 19))) := rfl
  rw [e]
  clear e KA hO ho ha hb hc
  generalize Lg.lg o a b c n = B at *
  cases B with
  | false =>
    go_enter Tryz.func44, Tryz.ntmps44
    go_wp2_with (go_at_call 80; refine cl.mono ?_; rintro e w' ⟨rfl, bel⟩; obtain ⟨c0, c4, K⟩ := HM.out _ bel; clear bel)
    go_ret
    exact ⟨rfl, K⟩
  | true =>
    by_cases h27 : o = 27
    · subst h27
      have hen : (!true || ((27 : Int) == 27 && !(n == 1 || n == 3 || n == 12 || n == 14 || n == 15 || n == 16 || n == 19))) = !(n == 1 || n == 3 || n == 12 || n == 14 || n == 15 || n == 16 || n == 19) := by simp
      rw [hen]
      clear hen
      by_cases h1 : n = 1 ∨ n = 3 ∨ n = 12 ∨ n = 14 ∨ n = 15 ∨ n = 16 ∨ n = 19
      · rcases h1 with rfl | rfl | rfl | rfl | rfl | rfl | rfl <;>
        · go_enter Tryz.func44, Tryz.ntmps44
          go_wp2_with (go_at_call 80; refine cl.mono ?_; rintro e w' ⟨rfl, bel⟩; obtain ⟨c0, c4, K⟩ := HM.out _ bel; clear bel)
          go_ret
          exact ⟨rfl, K⟩
      · have g1 : (n == 1) = false := by simp; omega
        have g2 : (n == 3) = false := by simp; omega
        have g3 : (n == 12) = false := by simp; omega
        have g4 : (n == 14) = false := by simp; omega
        have g5 : (n == 15) = false := by simp; omega
        have g6 : (n == 16) = false := by simp; omega
        have g7 : (n == 19) = false := by simp; omega
        have k1 : ¬ n = 1 := by omega
        have k2 : ¬ n = 3 := by omega
        have k3 : ¬ n = 12 := by omega
        have k4 : ¬ n = 14 := by omega
        have k5 : ¬ n = 15 := by omega
        have k6 : ¬ n = 16 := by omega
        have k7 : ¬ n = 19 := by omega
        rw [g1, g2, g3, g4, g5, g6, g7]
        go_enter Tryz.func44, Tryz.ntmps44
        go_wp2_with (go_at_call 80; refine cl.mono ?_; rintro e w' ⟨rfl, bel⟩; obtain ⟨c0, c4, K⟩ := HM.out _ bel; clear bel)
        go_ret
        exact ⟨rfl, K⟩
    · have g : (o == 27) = false := by simpa using h27
      rw [g]
      go_enter Tryz.func44, Tryz.ntmps44
      go_wp2_with (go_at_call 80; refine cl.mono ?_; rintro e w' ⟨rfl, bel⟩; obtain ⟨c0, c4, K⟩ := HM.out _ bel; clear bel)
      go_ret
      exact ⟨rfl, K⟩

def mwI (x : Ins) : Bool := mwB x.op x.a x.b x.c x.imm
theorem ins_ok {w : World} {F : Nat → Prop} {a : Option Addr} {n c : Nat} {xs : List Ins} (h : Ls 5 elIns w F a n c xs) {x : Ins} (hx : x ∈ xs) : okIns x := by
  obtain ⟨i, hi, rfl⟩ := List.getElem_of_mem hx
  obtain ⟨_, _, _, _, _, _, _, _, ho⟩ := h.at' i _ (List.getElem?_eq_getElem hi)
  exact ho
theorem mayWaits_any {F : Nat → Prop} {a : Option Addr} {n c : Nat} {xs : List Ins} (w : World) (h : Ls 5 elIns w F a n c xs) (hO : Lg.Ops w) :
    Calls Tryz.prog 43 #[.slice a n c, .func (.func 44) #[] #[]] w fun e w' => e = .returned (.bool (xs.any mwI)) ∧ Kept No w w' :=
  containsIn_any (p := mwI) (enters_of Tryz.func44 (by kernel_rfl) rfl) w (lb := #[]) (fun W x hx K => by
    obtain ⟨h0, h1, h2, h3, _⟩ := ins_ok h hx
    unfold U8 at h0 h1 h2 h3
    exact mayWait_any x.op x.a x.b x.c x.imm (by omega) (by omega) (by omega) (by omega) W (ops_kept hO K (fun h => h))) h
def rfitB (y : Pn) : Bool := y.ha == 0 && (!(y.code.any mwI) && hjB y.procs y.procs.length)

set_option maxHeartbeats 4000000 in
theorem rfits_any (F : Nat → Prop) (cs : List Value) (y : Pn) (w : World) (h : elPn w F cs y) (hO : Lg.Ops w) :
    Calls Tryz.prog 26 #[.agg cs.toArray] w fun e w' => e = .returned (.bool (rfitB y)) ∧ Kept No w w' := by
  obtain ⟨a0, n0, c0, a1, n1, c1, a2, n2, c2, a3, n3, c3, a4, n4, c4, a5, n5, c5, he, _, hC, hP, _⟩ := h.sl
  have KA : Kept No w (w.alloc (.cells cs.toArray 48)) := (Kept.refl No w).alloc _
  have d7 := pn_cell w cs 48 7 (.slice a1 n1 c1) (by rw [he]; rfl)
  have d8 := pn_cell w cs 48 8 (.slice a2 n2 c2) (by rw [he]; rfl)
  have d9 := pn_cell w cs 48 9 (.int .i64 y.ha) (by rw [he]; rfl)
  have cm := mayWaits_any _ (hC.kept KA (fun _ _ h => h) (fun _ _ h => h)) (ops_kept hO KA (fun h => h))
  have HM : Hid (∀ W, Kept No (w.alloc (.cells cs.toArray 48)) W → W.cell? ⟨w.heap.size, 8, none⟩ = some (.slice a2 n2 c2) ∧ Kept No w W ∧ Calls Tryz.prog 45 #[.slice a2 n2 c2] W fun e w' => e = .returned (.bool (hjB y.procs y.procs.length)) ∧ Kept No W w') := fun W k => by
    have kk := KA.trans k (fun _ h => h.elim)
    refine ⟨k.cell d8 (fun h => h), kk, ?_⟩
    rw [hP.len]
    exact haveJobs_any F a2 n2 c2 y.procs W (hP.kept kk (fun _ _ h => h) (elPrc_kept kk (fun _ _ h => h)))
  have HK : Hid (Kept No w (w.alloc (.cells cs.toArray 48))) := KA
  have e : rfitB y = (y.ha == 0 && (!(y.code.any mwI) && hjB y.procs y.procs.length)) := rfl
  rw [e]
  clear e KA hC hP he h hO
  generalize hjB y.procs y.procs.length = J at *
  generalize y.code.any mwI = M at *
  generalize y.ha = z at *
  generalize cs.toArray = av at *
  by_cases hz : z = 0
  · subst hz
    cases M with
    | true =>
      go_enter Tryz.func26, Tryz.ntmps26
      go_wp2_with (go_at_call 43; refine cm.mono ?_; rintro e w' ⟨rfl, k⟩; obtain ⟨m8, K, cj⟩ := HM.out _ k; clear k)
      go_ret
      exact ⟨rfl, K⟩
    | false =>
      cases J with
      | true =>
        go_enter Tryz.func26, Tryz.ntmps26
        go_wp2_with (first
          | (go_at_call 43; refine cm.mono ?_; rintro e w' ⟨rfl, k⟩; obtain ⟨m8, K, cj⟩ := HM.out _ k; clear k)
          | (go_at_call 45; refine cj.mono ?_; rintro e w2 ⟨rfl, k2⟩))
        go_ret
        exact ⟨rfl, K.trans k2 (fun _ h => h.elim)⟩
      | false =>
        go_enter Tryz.func26, Tryz.ntmps26
        go_wp2_with (first
          | (go_at_call 43; refine cm.mono ?_; rintro e w' ⟨rfl, k⟩; obtain ⟨m8, K, cj⟩ := HM.out _ k; clear k)
          | (go_at_call 45; refine cj.mono ?_; rintro e w2 ⟨rfl, k2⟩))
        go_ret
        exact ⟨rfl, K.trans k2 (fun _ h => h.elim)⟩
  · have g : (z == 0) = false := by simpa using hz
    rw [g]
    go_enter Tryz.func26, Tryz.ntmps26
    go_wp2
    go_ret
    exact ⟨rfl, HK.out⟩
end Go.Proofs.YtnmhcnppdhdhfaaGreatDoor

namespace Go.Proofs.YtnmhcnppdhdhfaaGreatDoor
open Go.RowKit
set_option linter.unusedVariables false
set_option linter.unusedSimpArgs false
set_option maxRecDepth 100000

theorem findsPn_al (err : Int) (k : Nat) (caps : Array Value) (cs : List Value) (hl : cs.length = 21) (aa : Option Addr) (an ac : Nat) (w : World) (hen : Enters Tryz.prog k) (b : Bool)
    (hc : ∀ w', Kept No w w' → Calls Tryz.prog k (#[.agg cs.toArray] ++ caps) w' fun e w'' => e = .returned (.bool b) ∧ Kept No w' w'') :
    Calls Tryz.prog 104 #[.agg #[.int .i64 err, .func (.func k) #[] caps, .nilFunc, .nilFunc], .agg cs.toArray, .slice aa an ac] w fun e w' => e = .returned (.int .i64 (if b then 0 else err)) ∧ Kept No w w' := by
  cases b
  · exact findsPn_alone_false err k caps cs hl aa an ac w hen hc
  · exact findsPn_alone_true err k caps cs hl aa an ac w hen hc
def dPn : Pn := ⟨0, 0, 0, 0, 0, 0, [], [], [], 0, 0, 0, 0, 0, 0, 0, 0, 0, [], [], []⟩
def rsCn : Nat → Rw
  | 0 => ⟨100, .func (.func 105) #[] #[], .nilFunc, .nilFunc, rfl, rfl, rfl⟩
  | 1 => ⟨100, .func (.func 107) #[] #[], .nilFunc, .nilFunc, rfl, rfl, rfl⟩
  | 2 => ⟨100, .func (.func 108) #[] #[], .nilFunc, .nilFunc, rfl, rfl, rfl⟩
  | 3 => ⟨100, .func (.func 109) #[] #[], .nilFunc, .nilFunc, rfl, rfl, rfl⟩
  | 4 => ⟨100, .func (.func 110) #[] #[], .nilFunc, .nilFunc, rfl, rfl, rfl⟩
  | _ => ⟨100, .func (.func 111) #[] #[], .nilFunc, .nilFunc, rfl, rfl, rfl⟩
theorem tableCn (w : World) : Calls Tryz.prog 68 #[] w fun e w' => ∃ tb, e = .returned (.slice (some ⟨tb, 0, none⟩) 6 6) ∧ Tb w' tb 6 rsCn ∧ Kept No w w' := by
  have HK : Hid (∀ o, Kept No w (w.alloc o)) := fun o => (Kept.refl No w).alloc o
  go_enter Tryz.func68, Tryz.ntmps68
  go_wp2
  go_ret
  refine ⟨_, rfl, ?_, HK.out _⟩
  intro j hj
  match j, hj with
  | 0, _ => exact ⟨by simp [rsCn], by simp [rsCn], by simp [rsCn], by simp [rsCn]⟩
  | 1, _ => exact ⟨by simp [rsCn], by simp [rsCn], by simp [rsCn], by simp [rsCn]⟩
  | 2, _ => exact ⟨by simp [rsCn], by simp [rsCn], by simp [rsCn], by simp [rsCn]⟩
  | 3, _ => exact ⟨by simp [rsCn], by simp [rsCn], by simp [rsCn], by simp [rsCn]⟩
  | 4, _ => exact ⟨by simp [rsCn], by simp [rsCn], by simp [rsCn], by simp [rsCn]⟩
  | 5, _ => exact ⟨by simp [rsCn], by simp [rsCn], by simp [rsCn], by simp [rsCn]⟩
def bCn (x : Pn) : Nat → Bool
  | 0 => inB x.wo 0 4096
  | 1 => decide ((x.code.length : Int) ≤ 1024)
  | 2 => inB x.procs.length 1 16
  | 3 => decide ((x.sems.length : Int) ≤ 8)
  | 4 => decide ((x.evs.length : Int) ≤ 8)
  | _ => decide ((x.bufs.length : Int) ≤ 8)

/-- the cells of the partitions of a list -/
theorem pn_cells {w : World} {F : Nat → Prop} {a : Option Addr} {n c : Nat} {xs : List Pn} (h : Ls 21 elPn w F a n c xs) :
    ∃ cs : Nat → List Value, ∀ i, i < n → (∃ b o, a = some ⟨b, o, none⟩ ∧ w.rangeAt b (o + i * 21) (cs i)) ∧ (cs i).length = 21 ∧ (∀ v ∈ cs i, v.oneCell' = true) ∧ elPn w F (cs i) (xs.getD i dPn) := by
  have each : ∀ i, ∃ cs : List Value, i < n → (∃ b o, a = some ⟨b, o, none⟩ ∧ w.rangeAt b (o + i * 21) cs) ∧ cs.length = 21 ∧ (∀ v ∈ cs, v.oneCell' = true) ∧ elPn w F cs (xs.getD i dPn) := by
    intro i
    by_cases hi : i < n
    · have hx : xs[i]? = some (xs.getD i dPn) := by rw [List.getD, List.getElem?_eq_getElem (by rw [h.len]; exact hi)]; rfl
      obtain ⟨b, o, cs, e, hb, hl, hr, hE⟩ := h.at' i _ hx
      refine ⟨cs, fun _ => ⟨⟨b, o, e, hr⟩, hl, ?_, hE⟩⟩
      obtain ⟨a0, n0, c0, a1, n1, c1, a2, n2, c2, a3, n3, c3, a4, n4, c4, a5, n5, c5, rfl, _⟩ := hE.sl
      intro v hv
      simp only [List.mem_cons, List.not_mem_nil, or_false] at hv
      rcases hv with rfl | rfl | rfl | rfl | rfl | rfl | rfl | rfl | rfl | rfl | rfl | rfl | rfl | rfl | rfl | rfl | rfl | rfl | rfl | rfl | rfl <;> rfl
    · exact ⟨[], fun h => absurd h hi⟩
  obtain ⟨f, hf⟩ := Classical.axiomOfChoice each
  exact ⟨f, hf⟩

theorem each_Cn (F : Nat → Prop) (a : Option Addr) (n c : Nat) (xs : List Pn) (tb : Nat) (w : World) (h : Ls 21 elPn w F a n c xs) (hT : Tb w tb 6 rsCn) :
    Calls Tryz.prog 67 #[.slice a n c, .int .i64 1, .slice (some ⟨tb, 0, none⟩) 6 6] w fun e w' => e = .returned (fv (eachF (fun i => rowsF (fun j => if bCn (xs.getD i dPn) j then 0 else 100) 6) 1 n)) ∧ Kept No w w' := by
  obtain ⟨cs, hcs⟩ := pn_cells h
  refine eachPn 1 a n c cs tb 6 6 rsCn (fun i j => if bCn (xs.getD i dPn) j then 0 else 100) w h.cap h.max (fun i hi => (hcs i hi).1) (fun i hi => ⟨(hcs i hi).2.1, (hcs i hi).2.2.1⟩) (by omega) hT (by omega) (by omega) ?_
  intro i j w' hi hj hw
  obtain ⟨_, hl, _, hE⟩ := hcs i hi
  obtain ⟨a0, n0, c0, a1, n1, c1, a2, n2, c2, a3, n3, c3, a4, n4, c4, a5, n5, c5, e, l0, l1, l2, l3, l4, l5⟩ := hE.sl
  have q1 := l1.len
  have q2 := l2.len
  have q3 := l3.len
  have q4 := l4.len
  have q5 := l5.len
  generalize xs.getD i dPn = x at *
  generalize cs i = ci at *
  have f4 : ci[4]? = some (.int .i64 x.wo) := by rw [e]; rfl
  have f7 : ci[7]? = some (.slice a1 x.code.length c1) := by rw [e, q1]; rfl
  have f8 : ci[8]? = some (.slice a2 x.procs.length c2) := by rw [e, q2]; rfl
  have f18 : ci[18]? = some (.slice a3 x.sems.length c3) := by rw [e, q3]; rfl
  have f19 : ci[19]? = some (.slice a4 x.evs.length c4) := by rw [e, q4]; rfl
  have f20 : ci[20]? = some (.slice a5 x.bufs.length c5) := by rw [e, q5]; rfl
  match j, hj with
  | 0, _ => exact findsPn_al 100 _ #[] ci hl a i c w' (enters_of Tryz.func105 (by kernel_rfl) rfl) _ (fun w2 _ => cnt1 ci x.wo w2 f4)
  | 1, _ => exact findsPn_al 100 _ #[] ci hl a i c w' (enters_of Tryz.func107 (by kernel_rfl) rfl) _ (fun w2 _ => cnt2 ci a1 _ c1 (by rw [l1.len]; exact Nat.le_trans l1.cap l1.max) w2 f7)
  | 2, _ => exact findsPn_al 100 _ #[] ci hl a i c w' (enters_of Tryz.func108 (by kernel_rfl) rfl) _ (fun w2 _ => cnt3 ci a2 _ c2 (by rw [l2.len]; exact Nat.le_trans l2.cap l2.max) w2 f8)
  | 3, _ => exact findsPn_al 100 _ #[] ci hl a i c w' (enters_of Tryz.func109 (by kernel_rfl) rfl) _ (fun w2 _ => cnt4 ci a3 _ c3 (by rw [l3.len]; exact Nat.le_trans l3.cap l3.max) w2 f18)
  | 4, _ => exact findsPn_al 100 _ #[] ci hl a i c w' (enters_of Tryz.func110 (by kernel_rfl) rfl) _ (fun w2 _ => cnt5 ci a4 _ c4 (by rw [l4.len]; exact Nat.le_trans l4.cap l4.max) w2 f19)
  | 5, _ => exact findsPn_al 100 _ #[] ci hl a i c w' (enters_of Tryz.func111 (by kernel_rfl) rfl) _ (fun w2 _ => cnt6 ci a5 _ c5 (by rw [l5.len]; exact Nat.le_trans l5.cap l5.max) w2 f20)

end Go.Proofs.YtnmhcnppdhdhfaaGreatDoor

namespace Go.Proofs.YtnmhcnppdhdhfaaGreatDoor
open Go.RowKit
set_option linter.unusedVariables false
set_option linter.unusedSimpArgs false
set_option maxRecDepth 100000

theorem lsPn_keep {w w' : World} {F : Nat → Prop} {a : Option Addr} {n c : Nat} {xs : List Pn} (h : Ls 21 elPn w F a n c xs) (k : Kept No w w') : Ls 21 elPn w' F a n c xs := h.kept k (fun _ _ h => h) (elPn_kept k (fun _ _ h => h))
theorem lsPo_keep {w w' : World} {F : Nat → Prop} {a : Option Addr} {n c : Nat} {xs : List Po} (h : Ls 6 elPo w F a n c xs) (k : Kept No w w') : Ls 6 elPo w' F a n c xs := h.kept k (fun _ _ h => h) (elPo_kept k (fun _ _ h => h))

set_option maxHeartbeats 4000000 in
theorem step2 (F : Nat → Prop) (a0 : Option Addr) (n0 c0 : Nat) (v1 v2 : Value) (xs : List Pn) (w : World) (hL : Ls 21 elPn w F a0 n0 c0 xs) :
    Calls Tryz.prog 66 #[.agg #[.slice a0 n0 c0, v1, v2]] w fun e w' => e = .returned (fv (eachF (fun i => rowsF (fun j => if bCn (xs.getD i dPn) j then 0 else 100) 6) 1 n0)) ∧ Kept No w w' := by
  have HK : Hid (Kept No w (w.alloc (.cells #[.slice a0 n0 c0, v1, v2] 26))) := (Kept.refl No w).alloc _
  have HC : Hid (∀ w' tb, Kept No w w' → Tb w' tb 6 rsCn → Calls Tryz.prog 67 #[.slice a0 n0 c0, .int .i64 1, .slice (some ⟨tb, 0, none⟩) 6 6] w' fun e w'' => e = .returned (fv (eachF (fun i => rowsF (fun j => if bCn (xs.getD i dPn) j then 0 else 100) 6) 1 n0)) ∧ Kept No w' w'') := fun w' tb hw hT => each_Cn F a0 n0 c0 xs tb w' (lsPn_keep hL hw) hT
  have HM : Hid (∀ w', Kept No (w.alloc (.cells #[.slice a0 n0 c0, v1, v2] 26)) w' → w'.cell? ⟨w.heap.size, 0, none⟩ = some (.slice a0 n0 c0)) := fun w' k => k.cell (by simp) (fun h => h)
  clear hL
  generalize eachF (fun i => rowsF (fun j => if bCn (xs.getD i dPn) j then 0 else 100) 6) 1 n0 = z at *
  go_enter Tryz.func66, Tryz.ntmps66
  go_upto_region 1 with fail
  generalize w.alloc (.cells #[.slice a0 n0 c0, v1, v2] 26) = w0 at *
  have m0 := HM.out w0 (Kept.refl No w0)
  go_region_with (first
    | (go_at_call 68; refine (tableCn _).mono ?_; rintro e w1 ⟨tb, rfl, hT, hk1⟩; have HT : Hid (Tb w1 tb 6 rsCn) := hT; have HK1 : Hid (Kept No w0 w1) := (Kept.refl No w0).drew.trans hk1 (fun _ h => h.elim); have p0 := HM.out w1 HK1.out; clear hT hk1)
    | (go_at_call 67; refine (HC.out _ _ (HK.out.trans HK1.out (fun _ h => h.elim)) HT.out).mono ?_; rintro e w2 ⟨rfl, hk2⟩; have HK2 : Hid (Kept No w0 w2) := HK1.out.trans hk2 (fun _ h => h.elim); clear hk2))
  all_goals (try go_wp2)
  all_goals (go_ret; exact ⟨rfl, HK.out.trans HK2.out (fun _ h => h.elim)⟩)

set_option maxHeartbeats 8000000 in
theorem step5 (F : Nat → Prop) (a0 : Option Addr) (n0 c0 : Nat) (a1 : Option Addr) (n1 c1 : Nat) (v2 : Value) (xs : List Po) (w : World) (h0 : n0 ≤ 9223372036854775807) (hL : Ls 6 elPo w F a1 n1 c1 xs) :
    Calls Tryz.prog 73 #[.agg #[.slice a0 n0 c0, .slice a1 n1 c1, v2]] w fun e w' => e = .returned (fv (eachF (fun i => rowsF (fun j => if bPo n0 (xs.getD i ⟨0, 0, false, 0, 0, 0⟩) j then 0 else 107) 5) 1 n1)) ∧ Kept No w w' := by
  have HK : Hid (Kept No w (w.alloc (.cells #[.slice a0 n0 c0, .slice a1 n1 c1, v2] 26))) := (Kept.refl No w).alloc _
  have HC : Hid (∀ w' g tb, Kept No w w' → w'.cell? ⟨g, 0, none⟩ = some (.int .i64 n0) → Tb w' tb 5 (rsPo g) → Calls Tryz.prog 74 #[.slice a1 n1 c1, .int .i64 1, .slice (some ⟨tb, 0, none⟩) 5 5] w' fun e w'' => e = .returned (fv (eachF (fun i => rowsF (fun j => if bPo n0 (xs.getD i ⟨0, 0, false, 0, 0, 0⟩) j then 0 else 107) 5) 1 n1)) ∧ Kept No w' w'') := fun w' g tb hw hg hT => each_Po F a1 n1 c1 xs tb g n0 w' (lsPo_keep hL hw) hg hT
  have HM : Hid (∀ w', Kept No (w.alloc (.cells #[.slice a0 n0 c0, .slice a1 n1 c1, v2] 26)) w' → w'.cell? ⟨w.heap.size, 0, none⟩ = some (.slice a0 n0 c0) ∧ w'.cell? ⟨w.heap.size, 1, none⟩ = some (.slice a1 n1 c1)) := fun w' k => ⟨k.cell (by simp) (fun h => h), k.cell (by simp) (fun h => h)⟩
  clear hL
  generalize eachF (fun i => rowsF (fun j => if bPo n0 (xs.getD i ⟨0, 0, false, 0, 0, 0⟩) j then 0 else 107) 5) 1 n1 = z at *
  go_enter Tryz.func73, Tryz.ntmps73
  go_upto_region 1 with fail
  generalize w.alloc (.cells #[.slice a0 n0 c0, .slice a1 n1 c1, v2] 26) = w0 at *
  obtain ⟨m0, m1⟩ := HM.out w0 (Kept.refl No w0)
  go_region_with (first
    | (go_at_call 75; refine (tablePo _ _).mono ?_; rintro e w1 ⟨g, tb, rfl, hT, hg, hk1⟩; have HT : Hid (Tb w1 tb 5 (rsPo g)) := hT; have HGG : Hid (w1.cell? ⟨g, 0, none⟩ = some (.int .i64 n0)) := hg; have HK1 : Hid (Kept No w0 w1) := (Kept.refl No w0).drew.trans hk1 (fun _ h => h.elim); obtain ⟨p0, p1⟩ := HM.out w1 HK1.out; clear hT hk1 hg)
    | (go_at_call 74; refine (HC.out _ _ _ (HK.out.trans HK1.out (fun _ h => h.elim)) HGG.out HT.out).mono ?_; rintro e w2 ⟨rfl, hk2⟩; have HK2 : Hid (Kept No w0 w2) := HK1.out.trans hk2 (fun _ h => h.elim); clear hk2))
  all_goals (try go_wp2)
  all_goals (go_ret; exact ⟨rfl, HK.out.trans HK2.out (fun _ h => h.elim)⟩)
end Go.Proofs.YtnmhcnppdhdhfaaGreatDoor
