/-
  One text: CStep2, CChF.
-/
import Derived.Test.YtggejpccjmolhaaGreatDoorG16
import Derived.Test.YtggejpccjmolhaaGreatDoorCObj
import Derived.Deep.RegionWith
import Derived.Test.YtggejpccjmolhaaGreatDoorCSch
namespace Go.Proofs.YtggejpccjmolhaaGreatDoor
open Go.RowKit
set_option linter.unusedVariables false
set_option linter.unusedSimpArgs false
set_option maxRecDepth 100000

theorem lsPn_keep {w w' : World} {F : Nat → Prop} {a : Option Addr} {n c : Nat} {xs : List Pn} (h : Ls 21 elPn w F a n c xs) (k : Kept No w w') : Ls 21 elPn w' F a n c xs := h.kept k (fun _ _ h => h) (elPn_kept k (fun _ _ h => h))
theorem lsPo_keep {w w' : World} {F : Nat → Prop} {a : Option Addr} {n c : Nat} {xs : List Po} (h : Ls 6 elPo w F a n c xs) (k : Kept No w w') : Ls 6 elPo w' F a n c xs := h.kept k (fun _ _ h => h) (elPo_kept k (fun _ _ h => h))

set_option maxHeartbeats 4000000 in
theorem step2 (F : Nat → Prop) (a0 : Option Addr) (n0 c0 : Nat) (v1 v2 : Value) (xs : List Pn) (w : World) (hL : Ls 21 elPn w F a0 n0 c0 xs) :
    Calls Tryz.prog 52 #[.agg #[.slice a0 n0 c0, v1, v2]] w fun e w' => e = .returned (fv (eachF (fun i => rowsF (fun j => if bCn (xs.getD i dPn) j then 0 else 100) 6) 1 n0)) ∧ Kept No w w' := by
  have HK : Hid (Kept No w (w.alloc (.cells #[.slice a0 n0 c0, v1, v2] 26))) := (Kept.refl No w).alloc _
  have HC : Hid (∀ w' tb, Kept No w w' → Tb w' tb 6 rsCn → Calls Tryz.prog 53 #[.slice a0 n0 c0, .int .i64 1, .slice (some ⟨tb, 0, none⟩) 6 6] w' fun e w'' => e = .returned (fv (eachF (fun i => rowsF (fun j => if bCn (xs.getD i dPn) j then 0 else 100) 6) 1 n0)) ∧ Kept No w' w'') := fun w' tb hw hT => each_Cn F a0 n0 c0 xs tb w' (lsPn_keep hL hw) hT
  have HM : Hid (∀ w', Kept No (w.alloc (.cells #[.slice a0 n0 c0, v1, v2] 26)) w' → w'.cell? ⟨w.heap.size, 0, none⟩ = some (.slice a0 n0 c0)) := fun w' k => k.cell (by simp) (fun h => h)
  clear hL
  generalize eachF (fun i => rowsF (fun j => if bCn (xs.getD i dPn) j then 0 else 100) 6) 1 n0 = z at *
  go_enter Tryz.func52, Tryz.ntmps52
  go_upto_region 1 with fail
  generalize w.alloc (.cells #[.slice a0 n0 c0, v1, v2] 26) = w0 at *
  have m0 := HM.out w0 (Kept.refl No w0)
  go_region_with (first
    | (go_at_call 54; refine (tableCn _).mono ?_; rintro e w1 ⟨tb, rfl, hT, hk1⟩; have HT : Hid (Tb w1 tb 6 rsCn) := hT; have HK1 : Hid (Kept No w0 w1) := (Kept.refl No w0).drew.trans hk1 (fun _ h => h.elim); have p0 := HM.out w1 HK1.out; clear hT hk1)
    | (go_at_call 53; refine (HC.out _ _ (HK.out.trans HK1.out (fun _ h => h.elim)) HT.out).mono ?_; rintro e w2 ⟨rfl, hk2⟩; have HK2 : Hid (Kept No w0 w2) := HK1.out.trans hk2 (fun _ h => h.elim); clear hk2))
  all_goals (try go_wp2)
  all_goals (go_ret; exact ⟨rfl, HK.out.trans HK2.out (fun _ h => h.elim)⟩)

set_option maxHeartbeats 8000000 in
theorem step5 (F : Nat → Prop) (a0 : Option Addr) (n0 c0 : Nat) (a1 : Option Addr) (n1 c1 : Nat) (v2 : Value) (xs : List Po) (w : World) (h0 : n0 ≤ 9223372036854775807) (hL : Ls 6 elPo w F a1 n1 c1 xs) :
    Calls Tryz.prog 60 #[.agg #[.slice a0 n0 c0, .slice a1 n1 c1, v2]] w fun e w' => e = .returned (fv (eachF (fun i => rowsF (fun j => if bPo n0 (xs.getD i ⟨0, 0, false, 0, 0, 0⟩) j then 0 else 107) 5) 1 n1)) ∧ Kept No w w' := by
  have HK : Hid (Kept No w (w.alloc (.cells #[.slice a0 n0 c0, .slice a1 n1 c1, v2] 26))) := (Kept.refl No w).alloc _
  have HC : Hid (∀ w' g tb, Kept No w w' → w'.cell? ⟨g, 0, none⟩ = some (.int .i64 n0) → Tb w' tb 5 (rsPo g) → Calls Tryz.prog 61 #[.slice a1 n1 c1, .int .i64 1, .slice (some ⟨tb, 0, none⟩) 5 5] w' fun e w'' => e = .returned (fv (eachF (fun i => rowsF (fun j => if bPo n0 (xs.getD i ⟨0, 0, false, 0, 0, 0⟩) j then 0 else 107) 5) 1 n1)) ∧ Kept No w' w'') := fun w' g tb hw hg hT => each_Po F a1 n1 c1 xs tb g n0 w' (lsPo_keep hL hw) hg hT
  have HM : Hid (∀ w', Kept No (w.alloc (.cells #[.slice a0 n0 c0, .slice a1 n1 c1, v2] 26)) w' → w'.cell? ⟨w.heap.size, 0, none⟩ = some (.slice a0 n0 c0) ∧ w'.cell? ⟨w.heap.size, 1, none⟩ = some (.slice a1 n1 c1)) := fun w' k => ⟨k.cell (by simp) (fun h => h), k.cell (by simp) (fun h => h)⟩
  clear hL
  generalize eachF (fun i => rowsF (fun j => if bPo n0 (xs.getD i ⟨0, 0, false, 0, 0, 0⟩) j then 0 else 107) 5) 1 n1 = z at *
  go_enter Tryz.func60, Tryz.ntmps60
  go_upto_region 1 with fail
  generalize w.alloc (.cells #[.slice a0 n0 c0, .slice a1 n1 c1, v2] 26) = w0 at *
  obtain ⟨m0, m1⟩ := HM.out w0 (Kept.refl No w0)
  go_region_with (first
    | (go_at_call 62; refine (tablePo _ _).mono ?_; rintro e w1 ⟨g, tb, rfl, hT, hg, hk1⟩; have HT : Hid (Tb w1 tb 5 (rsPo g)) := hT; have HGG : Hid (w1.cell? ⟨g, 0, none⟩ = some (.int .i64 n0)) := hg; have HK1 : Hid (Kept No w0 w1) := (Kept.refl No w0).drew.trans hk1 (fun _ h => h.elim); obtain ⟨p0, p1⟩ := HM.out w1 HK1.out; clear hT hk1 hg)
    | (go_at_call 61; refine (HC.out _ _ _ (HK.out.trans HK1.out (fun _ h => h.elim)) HGG.out HT.out).mono ?_; rintro e w2 ⟨rfl, hk2⟩; have HK2 : Hid (Kept No w0 w2) := HK1.out.trans hk2 (fun _ h => h.elim); clear hk2))
  all_goals (try go_wp2)
  all_goals (go_ret; exact ⟨rfl, HK.out.trans HK2.out (fun _ h => h.elim)⟩)
end Go.Proofs.YtggejpccjmolhaaGreatDoor

namespace Go.Proofs.YtggejpccjmolhaaGreatDoor
open Go.RowKit
set_option linter.unusedVariables false
set_option linter.unusedSimpArgs false
set_option maxRecDepth 100000

def dPo : Po := ⟨0, 0, false, 0, 0, 0⟩
def poAt (ps : List Po) (k : Int) : Po := ps.getD (k.toNat - 1) dPo
def fitB (ps : List Po) (k : Int) (out : Bool) (kd : Int) : Bool := inB k 1 ps.length && ((poAt ps k).out == out && (poAt ps k).kd == kd)
def goesB (ps : List Po) (kd : Int) : Int → List Int → Bool
  | _, [] => true
  | l, x :: r => (decide (l < x) && fitB ps x false kd) && goesB ps kd x r
def ownFromB (L : List Ch) (fr : Int) : Bool := fr == 0 || !(L.any (fun o => o.fr == fr))
def ownToB (L : List Ch) (dst : List Int) : Bool := !(dst.any (fun k => L.any (fun o => o.dst.any (fun x => k == x))))
def oneSizeB (ps : List Po) (fr : Int) : List Int → Bool
  | [] => true
  | x :: r => (fr == 0 || (poAt ps fr).sz == (poAt ps x).sz) && !((x :: r).any (fun k => (poAt ps k).sz != (poAt ps x).sz))
def timesB (c : Ch) : Bool := if c.kd = 1 ∧ c.fr ≠ 0 then inB c.pe 1 1048576 && inB c.ph 0 (wrap64 (c.pe - 1)) else (c.pe == 0 && c.ph == 0)

theorem po_at {F : Nat → Prop} {a : Option Addr} {n c : Nat} {ps : List Po} {w : World} (h : Ls 6 elPo w F a n c ps) {k : Int} (h1 : 1 ≤ k) (h2 : k ≤ n) :
    ∃ (i : Nat) (b o : Nat), k = i + 1 ∧ i < n ∧ a = some ⟨b, o, none⟩ ∧ okPo (poAt ps k) ∧ w.cell? ⟨b, o + i * 6, none⟩ = some (.int .i64 (poAt ps k).pt) ∧ w.cell? ⟨b, o + i * 6 + 1, none⟩ = some (.int .i64 (poAt ps k).kd) ∧ w.cell? ⟨b, o + i * 6 + 2, none⟩ = some (.bool (poAt ps k).out) ∧ w.cell? ⟨b, o + i * 6 + 3, none⟩ = some (.int .i64 (poAt ps k).sz) ∧ w.cell? ⟨b, o + i * 6 + 4, none⟩ = some (.int .i64 (poAt ps k).dp) ∧ w.cell? ⟨b, o + i * 6 + 5, none⟩ = some (.int .i64 (poAt ps k).rf) := by
  obtain ⟨i, rfl⟩ : ∃ i : Nat, k = i + 1 := ⟨(k - 1).toNat, by omega⟩
  have hin : i < n := by omega
  have hp : poAt ps ((i : Int) + 1) = ps.getD i dPo := by unfold poAt; rw [show ((i : Int) + 1).toNat - 1 = i by omega]
  have hx : ps[i]? = some (ps.getD i dPo) := by rw [List.getD, List.getElem?_eq_getElem (by rw [h.len]; exact hin)]; rfl
  obtain ⟨b, o, cs, e, hb, hl, hr, hE⟩ := h.at' i _ hx
  obtain ⟨rfl, hok⟩ := hE
  rw [hp]
  have r0 := hr 0 _ rfl
  rw [Nat.add_zero] at r0
  exact ⟨i, b, o, rfl, hin, e, hok, r0, hr 1 _ rfl, hr 2 _ rfl, hr 3 _ rfl, hr 4 _ rfl, hr 5 _ rfl⟩

set_option maxHeartbeats 4000000 in
theorem fits_any {F : Nat → Prop} {a : Option Addr} {n c : Nat} {ps : List Po} (k kd : Int) (out : Bool) (w : World) (h : Ls 6 elPo w F a n c ps) :
    Calls Tryz.prog 145 #[.slice a n c, .int .i64 k, .bool out, .int .i64 kd] w fun e w' => e = .returned (.bool (fitB ps k out kd)) ∧ Kept No w w' := by
  have hn : n ≤ 9223372036854775807 := Nat.le_trans h.cap h.max
  have q := within_any k 1 n
  have hl := h.len
  cases hb : inB k 1 n
  · rw [show fitB ps k out kd = false by unfold fitB; rw [hl, hb]; rfl]
    rw [hb] at q
    have HK : Hid (Kept No w w) := Kept.refl No w
    clear h hb
    go_enter Tryz.func145, Tryz.ntmps145
    go_wp2_with (go_at_call 75; refine (q _).mono ?_; rintro e w' ⟨rfl, rfl⟩)
    go_ret
    exact ⟨rfl, HK.out⟩
  · have hr : 1 ≤ k ∧ k ≤ n := by simp [inB] at hb; exact hb
    obtain ⟨i, b, o, rfl, hin, rfl, hok, r0, r1, r2, r3, r4, r5⟩ := po_at h hr.1 hr.2
    rw [show fitB ps ((i : Int) + 1) out kd = ((poAt ps ((i : Int) + 1)).out == out && (poAt ps ((i : Int) + 1)).kd == kd) by unfold fitB; rw [hl, hb]; rfl]
    rw [hb] at q
    generalize poAt ps ((i : Int) + 1) = y at *
    obtain ⟨y0, y1, y2, y3, y4, y5⟩ := y
    simp only at r0 r1 r2 r3 r4 r5 ⊢
    have HK : Hid (∀ o, Kept No w (w.alloc o)) := fun o => (Kept.refl No w).alloc o
    clear h hb hl hok hr
    cases h1 : (y2 == out)
    · go_enter Tryz.func145, Tryz.ntmps145
      go_wp2_with (go_at_call 75; refine (q _).mono ?_; rintro e w' ⟨rfl, rfl⟩)
      go_ret
      exact ⟨rfl, HK.out _⟩
    cases h2 : (y1 == kd)
    · go_enter Tryz.func145, Tryz.ntmps145
      go_wp2_with (go_at_call 75; refine (q _).mono ?_; rintro e w' ⟨rfl, rfl⟩)
      go_ret
      exact ⟨rfl, HK.out _⟩
    · go_enter Tryz.func145, Tryz.ntmps145
      go_wp2_with (go_at_call 75; refine (q _).mono ?_; rintro e w' ⟨rfl, rfl⟩)
      go_ret
      exact ⟨rfl, HK.out _⟩

theorem crow1 (kd fr : Int) (ta : Option Addr) (tn tc : Nat) (ph pe : Int) (w : World) :
    Calls Tryz.prog 107 #[.agg #[.int .i64 kd, .int .i64 fr, .slice ta tn tc, .int .i64 ph, .int .i64 pe]] w fun e w' => e = .returned (.bool (kd == 0 || kd == 1)) ∧ Kept No w w' := by
  have HK : Hid (∀ o, Kept No w (w.alloc o)) := fun o => (Kept.refl No w).alloc o
  have hc := fun w => isKind_any kd w
  generalize (kd == 0 || kd == 1) = z at *
  go_enter Tryz.func107, Tryz.ntmps107
  go_wp2_with (go_at_call 102; refine (hc _).mono ?_; rintro e w' ⟨rfl, rfl⟩)
  go_ret
  exact ⟨rfl, HK.out _⟩
theorem comesFrom_any {F : Nat → Prop} {a : Option Addr} {n c : Nat} {ps : List Po} (kd fr : Int) (ta : Option Addr) (tn tc : Nat) (ph pe : Int) (w : World) (h : Ls 6 elPo w F a n c ps) :
    Calls Tryz.prog 109 #[.slice a n c, .agg #[.int .i64 kd, .int .i64 fr, .slice ta tn tc, .int .i64 ph, .int .i64 pe]] w fun e w' => e = .returned (.bool (fr == 0 || fitB ps fr true kd)) ∧ Kept No w w' := by
  have HK : Hid (∀ o, Kept No w (w.alloc o)) := fun o => (Kept.refl No w).alloc o
  have hc := fits_any fr kd true (w.alloc (.cells #[.int .i64 kd, .int .i64 fr, .slice ta tn tc, .int .i64 ph, .int .i64 pe] 34)) (lsPo_keep h (HK.out _))
  clear h
  cases hz : (fr == 0)
  · generalize fitB ps fr true kd = z at *
    go_enter Tryz.func109, Tryz.ntmps109
    go_wp2_with (go_at_call 145; refine hc.mono ?_; rintro e w' ⟨rfl, k2⟩)
    go_ret
    exact ⟨rfl, (HK.out _).trans k2 (fun _ h => h.elim)⟩
  · clear hc
    go_enter Tryz.func109, Tryz.ntmps109
    go_wp2
    go_ret
    exact ⟨rfl, HK.out _⟩
theorem crow2 {F : Nat → Prop} {a : Option Addr} {n c : Nat} {ps : List Po} (kd fr : Int) (ta : Option Addr) (tn tc : Nat) (ph pe : Int) (g : Nat) (w : World) (h : Ls 6 elPo w F a n c ps) (hg : w.cell? ⟨g, 0, none⟩ = some (.slice a n c)) :
    Calls Tryz.prog 108 #[.agg #[.int .i64 kd, .int .i64 fr, .slice ta tn tc, .int .i64 ph, .int .i64 pe], .pointer (some ⟨g, 0, none⟩)] w fun e w' => e = .returned (.bool (fr == 0 || fitB ps fr true kd)) ∧ Kept No w w' := by
  have HK : Hid (∀ o, Kept No w (w.alloc o)) := fun o => (Kept.refl No w).alloc o
  have hc := comesFrom_any kd fr ta tn tc ph pe (w.alloc (.cells #[.int .i64 kd, .int .i64 fr, .slice ta tn tc, .int .i64 ph, .int .i64 pe] 34)) (lsPo_keep h (HK.out _))
  have hg' := (HK.out (.cells #[.int .i64 kd, .int .i64 fr, .slice ta tn tc, .int .i64 ph, .int .i64 pe] 34)).cell hg (fun h => h)
  clear h hg
  generalize (fr == 0 || fitB ps fr true kd) = z at *
  go_enter Tryz.func108, Tryz.ntmps108
  go_wp2_with (go_at_call 109; refine hc.mono ?_; rintro e w' ⟨rfl, k2⟩)
  go_ret
  exact ⟨rfl, (HK.out _).trans k2 (fun _ h => h.elim)⟩
theorem hasOwnFrom1_prd (g : Nat) (fr : Int) (w : World) (hg : w.cell? ⟨g, 1, none⟩ = some (.int .i64 fr)) : PrdC 147 #[.pointer (some ⟨g, 0, none⟩)] (fun o => o.fr == fr) w := by
  intro W x F a n c ho hl K
  have hc : W.cell? ⟨g, 1, none⟩ = some (.int .i64 fr) := K.cell hg (fun h => h)
  have KA : Kept No W (W.alloc (.cells #[.int .i64 x.kd, .int .i64 x.fr, .slice a n c, .int .i64 x.ph, .int .i64 x.pe] 34)) := (Kept.refl No W).alloc _
  have hc' := KA.cell hc (fun h => h)
  have HK : Hid (Kept No W (W.alloc (.cells #[.int .i64 x.kd, .int .i64 x.fr, .slice a n c, .int .i64 x.ph, .int .i64 x.pe] 34))) := KA
  clear K ho hl KA hg
  go_enter Tryz.func147, Tryz.ntmps147
  go_wp2
  go_ret
  exact ⟨rfl, HK.out⟩
theorem eg_of {f : Nat} {fn : Func} (h1 : Tryz.prog.funcs[f]? = some fn) (h : Enters Tryz.prog f) : ∀ args w, (callFunc f args).run Tryz.prog w = .ok (.enter f args) w := h
theorem hasOwnFrom_any {F : Nat → Prop} {a : Option Addr} {n c : Nat} {L : List Ch} (kd fr : Int) (ta : Option Addr) (tn tc : Nat) (ph pe : Int) (w : World) (h : Ls 5 elCh w F a n c L) :
    Calls Tryz.prog 110 #[.agg #[.int .i64 kd, .int .i64 fr, .slice ta tn tc, .int .i64 ph, .int .i64 pe], .slice a n c] w fun e w' => e = .returned (.bool (ownFromB L fr)) ∧ Kept No w w' := by
  have HK : Hid (∀ o, Kept No w (w.alloc o)) := fun o => (Kept.refl No w).alloc o
  unfold ownFromB
  have hmf : ∀ (fn : Fn) (first cap : Array Value) (w : World), (Instr.makeFunc fn first cap).run Tryz.prog w = .ok (.func fn first cap) w := fun _ _ _ _ => rfl
  have hc := containsC_any (p := fun o => o.fr == fr) (g := 147) (lb := #[.pointer (some ⟨w.heap.size, 0, none⟩)]) (enters_of Tryz.func147 (by kernel_rfl) rfl) (w.alloc (.cells #[.int .i64 kd, .int .i64 fr, .slice ta tn tc, .int .i64 ph, .int .i64 pe] 34)) (hasOwnFrom1_prd w.heap.size fr _ (by simp)) (h.kept (HK.out _) (fun _ _ h => h) (elCh_kept (HK.out _) (fun _ _ h => h)))
  clear h
  cases hz : (fr == 0)
  · generalize L.any (fun o => o.fr == fr) = z at *
    go_enter Tryz.func110, Tryz.ntmps110
    go_wp2_with (go_at_call 146; refine hc.mono ?_; rintro e w' ⟨rfl, k2⟩)
    go_ret
    exact ⟨rfl, (HK.out _).trans k2 (fun _ h => h.elim)⟩
  · clear hc
    go_enter Tryz.func110, Tryz.ntmps110
    go_wp2
    go_ret
    exact ⟨rfl, HK.out _⟩

theorem hasOwnTo11_prd (g : Nat) (k : Int) (w : World) (hg : w.cell? ⟨g, 0, none⟩ = some (.int .i64 k)) : PrdC 149 #[.pointer (some ⟨g, 0, none⟩)] (fun o => o.dst.any (fun x => k == x)) w := by
  intro W x F a n c ho hl K
  have hc : W.cell? ⟨g, 0, none⟩ = some (.int .i64 k) := K.cell hg (fun h => h)
  have KA : Kept No W (W.alloc (.cells #[.int .i64 x.kd, .int .i64 x.fr, .slice a n c, .int .i64 x.ph, .int .i64 x.pe] 34)) := (Kept.refl No W).alloc _
  have hc' := KA.cell hc (fun h => h)
  have cp := containsI_any k _ (hl.kept KA (fun _ _ h => h) (elI_kept KA (fun _ _ h => h)))
  have HK : Hid (Kept No W (W.alloc (.cells #[.int .i64 x.kd, .int .i64 x.fr, .slice a n c, .int .i64 x.ph, .int .i64 x.pe] 34))) := KA
  clear K ho hl KA hg
  show Calls Tryz.prog 149 #[.agg #[.int .i64 x.kd, .int .i64 x.fr, .slice a n c, .int .i64 x.ph, .int .i64 x.pe], .pointer (some ⟨g, 0, none⟩)] W fun e W' => e = .returned (.bool (x.dst.any (fun x => k == x))) ∧ Kept No W W'
  generalize x.dst.any (fun x => k == x) = z at *
  go_enter Tryz.func149, Tryz.ntmps149
  go_wp2_with (go_at_call 150; refine cp.mono ?_; rintro e w2 ⟨rfl, k2⟩)
  go_ret
  exact ⟨rfl, HK.out.trans k2 (fun _ h => .inl h)⟩
theorem hasOwnTo1_prd {F : Nat → Prop} {a : Option Addr} {n c : Nat} {L : List Ch} (g : Nat) (w : World) (h : Ls 5 elCh w F a n c L) (zs : List Int) (hg : w.cell? ⟨g, 0, none⟩ = some (.slice a n c)) : Prd 148 #[.pointer (some ⟨g, 0, none⟩)] (fun k => L.any (fun o => o.dst.any (fun x => k == x))) w zs := by
  intro W x hx K
  have hmf : ∀ (fn : Fn) (first cap : Array Value) (w : World), (Instr.makeFunc fn first cap).run Tryz.prog w = .ok (.func fn first cap) w := fun _ _ _ _ => rfl
  have KA : Kept No W (W.alloc (.cells #[.int .i64 x] 3)) := (Kept.refl No W).alloc _
  have hc' := KA.cell (K.cell hg (fun h => h)) (fun h => h)
  have K2 : Kept No w (W.alloc (.cells #[.int .i64 x] 3)) := K.trans KA (fun _ h => h.elim)
  have cp := containsC_any (p := fun o => o.dst.any (fun y => x == y)) (g := 149) (lb := #[.pointer (some ⟨W.heap.size, 0, none⟩)]) (enters_of Tryz.func149 (by kernel_rfl) rfl) (W.alloc (.cells #[.int .i64 x] 3)) (hasOwnTo11_prd W.heap.size x _ (by simp)) (h.kept K2 (fun _ _ h => h) (elCh_kept K2 (fun _ _ h => h)))
  have HK : Hid (Kept No W (W.alloc (.cells #[.int .i64 x] 3))) := KA
  clear K hx KA hg h K2
  show Calls Tryz.prog 148 #[.int .i64 x, .pointer (some ⟨g, 0, none⟩)] W fun e W' => e = .returned (.bool (L.any (fun o => o.dst.any (fun y => x == y)))) ∧ Kept No W W'
  generalize L.any (fun o => o.dst.any (fun y => x == y)) = z at *
  go_enter Tryz.func148, Tryz.ntmps148
  go_wp2_with (go_at_call 146; refine cp.mono ?_; rintro e w2 ⟨rfl, k2⟩)
  go_ret
  exact ⟨rfl, HK.out.trans k2 (fun _ h => .inl h)⟩
theorem hasOwnTo_any {F : Nat → Prop} {a : Option Addr} {n c : Nat} {L : List Ch} (kd fr : Int) (ta : Option Addr) (tn tc : Nat) (dst : List Int) (ph pe : Int) (w : World) (h : Ls 5 elCh w F a n c L) (hT : Ls 1 elI w F ta tn tc dst) :
    Calls Tryz.prog 113 #[.agg #[.int .i64 kd, .int .i64 fr, .slice ta tn tc, .int .i64 ph, .int .i64 pe], .slice a n c] w fun e w' => e = .returned (.bool (ownToB L dst)) ∧ Kept No w w' := by
  have hmf : ∀ (fn : Fn) (first cap : Array Value) (w : World), (Instr.makeFunc fn first cap).run Tryz.prog w = .ok (.func fn first cap) w := fun _ _ _ _ => rfl
  have HK : Hid (Kept No w ((w.alloc (.cells #[.int .i64 kd, .int .i64 fr, .slice ta tn tc, .int .i64 ph, .int .i64 pe] 34)).alloc (.cells #[.slice a n c] 24))) := ((Kept.refl No w).alloc _).alloc _
  unfold ownToB
  have hc := containsN_any (p := fun k => L.any (fun o => o.dst.any (fun x => k == x))) (g := 148) (lb := #[.pointer (some ⟨w.heap.size + 1, 0, none⟩)]) (enters_of Tryz.func148 (by kernel_rfl) rfl) ((w.alloc (.cells #[.int .i64 kd, .int .i64 fr, .slice ta tn tc, .int .i64 ph, .int .i64 pe] 34)).alloc (.cells #[.slice a n c] 24)) (hasOwnTo1_prd (w.heap.size + 1) _ (h.kept HK.out (fun _ _ h => h) (elCh_kept HK.out (fun _ _ h => h))) dst (by simp)) (hT.kept HK.out (fun _ _ h => h) (elI_kept HK.out (fun _ _ h => h)))
  clear h hT
  generalize dst.any (fun k => L.any (fun o => o.dst.any (fun x => k == x))) = z at *
  go_enter Tryz.func113, Tryz.ntmps113
  go_wp2_with (go_at_call 40; refine hc.mono ?_; rintro e w' ⟨rfl, k2⟩)
  go_ret
  exact ⟨rfl, HK.out.trans k2 (fun _ h => h.elim)⟩
theorem crow7 (kd fr : Int) (ta : Option Addr) (tn tc : Nat) (ph pe : Int) (w : World) (hn : tn ≤ 9223372036854775807) :
    Calls Tryz.prog 116 #[.agg #[.int .i64 kd, .int .i64 fr, .slice ta tn tc, .int .i64 ph, .int .i64 pe]] w fun e w' => e = .returned (.bool (fr != 0 || decide (0 < tn))) ∧ Kept No w w' := by
  have HK : Hid (∀ o, Kept No w (w.alloc o)) := fun o => (Kept.refl No w).alloc o
  cases hz : (fr != 0)
  · go_enter Tryz.func116, Tryz.ntmps116
    go_wp2
    go_ret
    exact ⟨rfl, HK.out _⟩
  · go_enter Tryz.func116, Tryz.ntmps116
    go_wp2
    go_ret
    exact ⟨rfl, HK.out _⟩
theorem hasTimes_any (kd fr : Int) (ta : Option Addr) (tn tc : Nat) (ph pe : Int) (d : List Int) (w : World) :
    Calls Tryz.prog 117 #[.agg #[.int .i64 kd, .int .i64 fr, .slice ta tn tc, .int .i64 ph, .int .i64 pe]] w fun e w' => e = .returned (.bool (timesB ⟨kd, fr, d, ph, pe⟩)) ∧ Kept No w w' := by
  have HK : Hid (∀ o, Kept No w (w.alloc o)) := fun o => (Kept.refl No w).alloc o
  have q1 := within_any pe 1 1048576
  have q2 := within_any ph 0 (wrap64 (pe - 1))
  cases h1 : (kd == 1)
  · rw [show timesB ⟨kd, fr, d, ph, pe⟩ = (pe == 0 && ph == 0) by unfold timesB; rw [if_neg (by simp at h1; simp [h1])]]
    cases h3 : (pe == 0)
    · go_enter Tryz.func117, Tryz.ntmps117
      go_wp2
      go_ret
      exact ⟨rfl, HK.out _⟩
    · go_enter Tryz.func117, Tryz.ntmps117
      go_wp2
      go_ret
      exact ⟨rfl, HK.out _⟩
  · cases h2 : (fr != 0)
    · rw [show timesB ⟨kd, fr, d, ph, pe⟩ = (pe == 0 && ph == 0) by unfold timesB; rw [if_neg (by simp at h2; simp [h2])]]
      cases h3 : (pe == 0)
      · go_enter Tryz.func117, Tryz.ntmps117
        go_wp2
        go_ret
        exact ⟨rfl, HK.out _⟩
      · go_enter Tryz.func117, Tryz.ntmps117
        go_wp2
        go_ret
        exact ⟨rfl, HK.out _⟩
    · rw [show timesB ⟨kd, fr, d, ph, pe⟩ = (inB pe 1 1048576 && inB ph 0 (wrap64 (pe - 1))) by unfold timesB; rw [if_pos (by simp at h1 h2; simp [h1, h2])]]
      cases h3 : inB pe 1 1048576
      · rw [h3] at q1
        clear h3
        go_enter Tryz.func117, Tryz.ntmps117
        go_wp2_with (go_at_call 75; refine (q1 _).mono ?_; rintro e w' ⟨rfl, rfl⟩)
        go_ret
        exact ⟨rfl, HK.out _⟩
      · clear q1 q2
        go_enter Tryz.func117, Tryz.ntmps117
        go_wp2_with (go_at_call 75; refine (within_any _ _ _ _).mono ?_; rintro e w' ⟨rfl, rfl⟩)
        go_ret
        exact ⟨rfl, HK.out _⟩
end Go.Proofs.YtggejpccjmolhaaGreatDoor
