/-
  One text: YSq, YLaw.
-/
import Derived.Test.YtogekpknkakmeaaGreatDoorG46
import Derived.Test.YtogekpknkakmeaaGreatDoorG41
import Derived.Test.YtogekpknkakmeaaGreatDoorG47
import Derived.Deep.RegionWith
import Derived.Deep.DeepCutAuto
namespace Go.Proofs.YtogekpknkakmeaaGreatDoor
open Go.RowKit Plain
set_option linter.unusedVariables false
set_option linter.unusedSimpArgs false
set_option maxRecDepth 100000

/-- a list of partitions, and where the processes of the one at q lie -/
structure LsQ (w : World) (lo hi : Nat) (b o n c q g of n2 c2 : Nat) (l : List Pn) (p : Pn) : Prop where
  ls : LsP w lo hi (some ⟨b, o, none⟩) n c l
  hq : l[q]? = some p
  c8 : w.cell? ⟨b, o + q * 21 + 8, none⟩ = some (.slice (some ⟨g, of, none⟩) n2 c2)
  pr : Ls 6 elPrc w (fun g => lo ≤ g ∧ g < hi) (some ⟨g, of, none⟩) n2 c2 p.procs
  fz : ∀ j, w.frozen? ⟨g, j, none⟩ = false
  rg : lo ≤ g ∧ g < hi ∧ g ≠ b
theorem LsQ.of {w : World} {lo hi : Nat} {a : Option Addr} {n c q : Nat} {l : List Pn} {p : Pn} (h : LsP w lo hi a n c l) (hq : l[q]? = some p) (hp : 0 < p.procs.length) : ∃ b o g of n2 c2, a = some ⟨b, o, none⟩ ∧ n2 = p.procs.length ∧ LsQ w lo hi b o n c q g of n2 c2 l p := by
  obtain ⟨b, o, a2, n2, c2, rfl, h8, _, _, hL, hW⟩ := h.procs hq
  obtain ⟨y, hy⟩ : ∃ y, p.procs[0]? = some y := ⟨_, List.getElem?_eq_getElem hp⟩
  obtain ⟨g, of, cs, rfl, hb, _⟩ := hL.at' 0 y hy
  have hn := hL.len
  obtain ⟨f1, f2, f3, f4, _⟩ := hW g of rfl (by omega)
  exact ⟨b, o, g, of, n2, c2, rfl, hn.symm, h, hq, h8, hL, f1, f2, f3, f4⟩
theorem LsQ.cells {w : World} {lo hi b o n c q g of n2 c2 : Nat} {l : List Pn} {p : Pn} (h : LsQ w lo hi b o n c q g of n2 c2 l p) {j : Nat} {z : Prc} (hz : p.procs[j]? = some z) {f : Nat} {v : Value} (hv : (clPrc z)[f]? = some v) : w.cell? ⟨g, of + j * 6 + f, none⟩ = some v := by
  obtain ⟨b', o', cs, e, hb, hl, hr, hE, ho⟩ := h.pr.at' j z hz
  injection e with e
  injection e with e1 e2 _
  subst e1 e2
  have hE2 : cs = clPrc z := hE
  subst hE2
  exact hr f v hv
theorem LsQ.set {w : World} {lo hi b o n c q g of n2 c2 : Nat} {l : List Pn} {p : Pn} (h : LsQ w lo hi b o n c q g of n2 c2 l p) {j : Nat} {z z' : Prc} {f : Nat} {v : Value} (hz : p.procs[j]? = some z) (hc : clPrc z' = (clPrc z).set f v) (hf : f < 6) (hok : okPrc z') : LsQ (w.setCell ⟨g, of + j * 6 + f, none⟩ v) lo hi b o n c q g of n2 c2 (l.set q (setPr p j z')) (setPr p j z') := by
  obtain ⟨b1, o1, a2, m2, d2, e1, h8, _, _, hL, hW⟩ := h.ls.procs h.hq
  injection e1 with e1
  injection e1 with e1 e2 _
  subst e1 e2
  rw [h.c8] at h8
  injection h8 with h8
  injection h8 with x1 x2 x3
  subst x1 x2 x3
  have hjl : j < p.procs.length := (List.getElem?_eq_some_iff.1 hz).1
  have hlen := hL.len
  obtain ⟨f1, f2, f3, f4, hS⟩ := hW g of rfl (by omega)
  have hn := hS j z z' f v hz hc hf hok
  have hql : q < l.length := (List.getElem?_eq_some_iff.1 h.hq).1
  have hq' : (l.set q (setPr p j z'))[q]? = some (setPr p j z') := List.getElem?_set_self hql
  have k : Kept (fun k => k = g) w (w.setCell ⟨g, of + j * 6 + f, none⟩ v) := (Kept.refl (fun k => k = g) w).setCell (p := ⟨g, of + j * 6 + f, none⟩) (.inl rfl) _
  exact ⟨hn, hq', k.cell h.c8 (fun e => f4 e.symm), hL.setOne hz hc hf hok, fun x => by rw [World.frozen?_setCell]; exact f1 x, f2, f3, f4⟩
theorem LsQ.kept {w w' : World} {lo hi b o n c q g of n2 c2 : Nat} {l : List Pn} {p : Pn} (h : LsQ w lo hi b o n c q g of n2 c2 l p) (k : Kept No w w') (hs : hi ≤ w.heap.size) : LsQ w' lo hi b o n c q g of n2 c2 l p :=
  ⟨h.ls.kept k hs (fun _ _ _ h => h), h.hq, k.cell h.c8 (fun h => h), h.pr.kept k (fun _ _ h => h) (elPrc_kept k (fun _ _ h => h)), fz_kept k (fun h => h) (by have := h.rg; omega) h.fz, h.rg⟩
/-- the process with another period, limit and capacity -/
def chPr (z : Prc) (t c : Int) : Prc := ⟨z.en, z.pr, t, t, c, z.auto⟩
def chIm (x : Im) (q j : Nat) (t c : Int) : Im := ⟨x.parts.set q (setPr (x.parts.getD q dPn) j (chPr ((x.parts.getD q dPn).procs.getD j dPrc) t c)), x.ports, x.chans⟩
theorem chIm_parts {x : Im} {q j : Nat} {t c : Int} (hq : q < x.parts.length) : (chIm x q j t c).parts.getD q dPn = setPr (x.parts.getD q dPn) j (chPr ((x.parts.getD q dPn).procs.getD j dPrc) t c) := by
  unfold chIm
  simp [List.getD, hq]
theorem chIm_svs {x : Im} {q j : Nat} {t c : Int} : svs (chIm x q j t c).parts = svs x.parts := by
  unfold svs chIm
  simp only
  rw [List.map_set]
  by_cases hq : q < x.parts.length
  · have : pnSv (setPr (x.parts.getD q dPn) j (chPr ((x.parts.getD q dPn).procs.getD j dPrc) t c)) = (x.parts.map pnSv)[q]'(by simpa using hq) := by
      simp [pnSv, setPr, List.getD, hq]
    rw [this, List.set_getElem_self]
  · rw [List.set_eq_of_length_le (by simp; omega)]
theorem chIm_len {x : Im} {q j : Nat} {t c : Int} : (chIm x q j t c).parts.length = x.parts.length := by unfold chIm; simp
end Go.Proofs.YtogekpknkakmeaaGreatDoor

namespace Go.Proofs.YtogekpknkakmeaaGreatDoor
open Go.RowKit Plain
set_option linter.unusedVariables false
set_option linter.unusedSimpArgs false
set_option maxRecDepth 100000

theorem hn_mono {w W : World} (k : Kept No w W) : ∀ g, Hn w g → Hn W g := fun g h => Nat.lt_of_lt_of_le h k.size
theorem img_hn {w W : World} {a0 a1 a2 : Option Addr} {n0 c0 n1 c1 n2 c2 : Nat} {x : Im} (h : Img w (Hn w) a0 n0 c0 a1 n1 c1 a2 n2 c2 x) (k : Kept No w W) : Img W (Hn W) a0 n0 c0 a1 n1 c1 a2 n2 c2 x := by
  have h2 := h.kept k (fun _ _ h => h)
  exact ⟨h2.ps.mono (hn_mono k) (mPn _ _ _ (hn_mono k)), h2.qs.mono (hn_mono k) (fun _ _ h => h), h2.cs.mono (hn_mono k) (mCh _ _ _ (hn_mono k))⟩

set_option maxHeartbeats 16000000 in
/-- Worst refuses the copy: the law asks 'known' alone -/
theorem above_err {a0 a1 a2 : Option Addr} {n0 c0 n1 c1 n2 c2 : Nat} {x : Im} (w : World) (hg : Gl w) (hO : Lg.Ops w) (h : Img w (Hn w) a0 n0 c0 a1 n1 c1 a2 n2 c2 x) (hS : szIm x) (p which period capacity : Int) (he : woE x p ≠ 0) :
    Calls Tryz.prog 3 #[.agg #[.slice a0 n0 c0, .slice a1 n1 c1, .slice a2 n2 c2], .int .i64 p, .int .i64 which, .int .i64 period, .int .i64 capacity] w fun e w' => e = .returned (.bool true) ∧ Kept No w w' := by
  obtain ⟨K0, HM0⟩ := imb w (.slice a0 n0 c0) (.slice a1 n1 c1) (.slice a2 n2 c2)
  obtain ⟨m0, m1, m2, _⟩ := HM0 _ (Kept.refl _ _)
  have HK0 : Hid (Kept No w (w.alloc (.cells #[.slice a0 n0 c0, .slice a1 n1 c1, .slice a2 n2 c2] 26))) := K0
  have cC := copy_apart a0 n0 c0 a1 n1 c1 a2 n2 c2 x _ (img_hn h K0) hS
  have HG : Hid (Gl w ∧ Lg.Ops w) := ⟨hg, hO⟩
  have HE : Hid (woE x p ≠ 0) := he
  have hz : ¬ woE x p = 0 := he
  clear h hS hg hO HM0 K0 he
  obtain ⟨er, her⟩ : ∃ er, er = woE x p := ⟨_, rfl⟩
  have HER : Hid (er = woE x p) := her
  rw [← her] at hz
  clear her
  go_enter Tryz.func3, Tryz.ntmps3
  go_upto_region 2 with (first
    | (go_at_call 5; refine cC.mono ?_; rintro e w1 ⟨b0, m0', d0, b1, m1', d1, b2, m2', d2, lo, T, rfl, hlo, hI, k1⟩; have HI : Hid (ImP w1 lo T w1.heap.size b0 m0' d0 b1 m1' d1 b2 m2' d2 x) := hI; have K1 : Hid (Kept No w w1) := HK0.out.trans k1 (fun _ h => h.elim); clear hlo hI k1)
    | (go_at_call 4; refine (worst_err p _ (HG.out.1.kept K1.out) (ops_of HG.out.2 K1.out) HI.out.img HE.out).mono ?_; rintro e w2 ⟨rfl, k2⟩; rw [← HER.out]; have K2 : Hid (Kept No w w2) := K1.out.trans k2 (fun _ h => h.elim); clear k2))
  clear cC HI
  go_wp2_with (go_at_call 6; refine (known_yes _ (HG.out.1.kept K2.out) (ops_of HG.out.2 K2.out)).mono ?_; rintro e w3 ⟨rfl, k3⟩; have K3 : Hid (Kept No w w3) := K2.out.trans k3 (fun _ h => h.elim); clear k3)
  go_ret
  exact ⟨rfl, K3.out⟩
set_option maxHeartbeats 16000000 in
/-- the law asks for nothing -/
theorem above_out {a0 a1 a2 : Option Addr} {n0 c0 n1 c1 n2 c2 : Nat} {x : Im} (w : World) (hg : Gl w) (hO : Lg.Ops w) (h : Img w (Hn w) a0 n0 c0 a1 n1 c1 a2 n2 c2 x) (hS : szIm x) (p which period capacity : Int) (he : woE x p = 0) (hb : which < 0 ∨ ((x.parts.getD (p.toNat - 1) dPn).procs.length : Int) ≤ which ∨ period < 1) :
    Calls Tryz.prog 3 #[.agg #[.slice a0 n0 c0, .slice a1 n1 c1, .slice a2 n2 c2], .int .i64 p, .int .i64 which, .int .i64 period, .int .i64 capacity] w fun e w' => e = .returned (.bool true) ∧ Kept No w w' := by
  obtain ⟨q, rfl, hq1, hq2, hc, hf, hl⟩ := woE_zero he
  obtain ⟨K0, HM0⟩ := imb w (.slice a0 n0 c0) (.slice a1 n1 c1) (.slice a2 n2 c2)
  have HK0 : Hid (Kept No w (w.alloc (.cells #[.slice a0 n0 c0, .slice a1 n1 c1, .slice a2 n2 c2] 26))) := K0
  have HM : Hid (∀ W, Kept No (w.alloc (.cells #[.slice a0 n0 c0, .slice a1 n1 c1, .slice a2 n2 c2] 26)) W → W.cell? ⟨w.heap.size, 0, none⟩ = some (.slice a0 n0 c0) ∧ W.cell? ⟨w.heap.size, 1, none⟩ = some (.slice a1 n1 c1) ∧ W.cell? ⟨w.heap.size, 2, none⟩ = some (.slice a2 n2 c2) ∧ Kept No w W) := HM0
  obtain ⟨m0, m1, m2, _⟩ := HM0 _ (Kept.refl _ _)
  have hlen := h.ps.len
  have cC := copy_apart a0 n0 c0 a1 n1 c1 a2 n2 c2 x _ (img_hn h K0) hS
  have HG : Hid (Gl w ∧ Lg.Ops w) := ⟨hg, hO⟩
  have HP : Hid (chkF x = none ∧ rfitB (x.parts.getD (q - 1) dPn) = true ∧ lcmB (zR (hyp (svs x.parts)) (x.parts.getD (q - 1) dPn).procs) ((x.parts.getD (q - 1) dPn).procs.length + 1) 1048576 = true) := ⟨hc, hf, hl⟩
  have HW : Hid (∀ (W : World) (F : Nat → Prop) (b0 : Option Addr) (d0 : Nat) (b1 : Option Addr) (m1 d1 : Nat) (b2 : Option Addr) (m2 d2 : Nat), Kept No w W → Img W F b0 n0 d0 b1 m1 d1 b2 m2 d2 x → (∀ k, F k → k < W.heap.size) → ∃ m : Nat, 1 ≤ m ∧ m ≤ 1048576 ∧ hyp (svs x.parts) ∣ m ∧ (∀ j, j < (x.parts.getD (q - 1) dPn).procs.length → ((x.parts.getD (q - 1) dPn).procs.getD j dPrc).pe.toNat ∣ m) ∧ hasT (x.parts.getD (q - 1) dPn).procs ∧
    Calls Tryz.prog 4 #[.agg #[.slice b0 n0 d0, .slice b1 m1 d1, .slice b2 m2 d2], .int .i64 (q : Int)] W fun e w' => ∃ gl g s d f W' w2, e = .returned (.tuple #[.slice (some ⟨gl, 0, none⟩) (x.parts.getD (q - 1) dPn).procs.length (x.parts.getD (q - 1) dPn).procs.length, .int .i64 0]) ∧ Pyd (occB (Rule.occ (sys (svs x.parts))) q) (2 * m) (x.parts.getD (q - 1) dPn).procs.length (x.parts.getD (q - 1) dPn).procs W' w2 g s d f ∧ Nm w' gl (x.parts.getD (q - 1) dPn).procs.length (wsF d f s) ∧ W.heap.size ≤ gl ∧ Kept No W w') := fun W F b0 d0 b1 m1 d1 b2 m2 d2 k hI hF => worst_any q W (hg.kept k) (ops_of hO k) hI hF hc hq1 (by omega) hf hl
  have hnp := chk_np hc (i := q - 1) (by omega)
  rw [Int.toNat_natCast] at hb
  clear h hS hg hO HM0 K0 he hc hf hl
  obtain ⟨n, hn⟩ : ∃ n, n = (x.parts.getD (q - 1) dPn).procs.length := ⟨_, rfl⟩
  rw [← hn] at hb hnp HW
  have hcase : which < 0 ∨ (¬ which < 0 ∧ (n : Int) ≤ which) ∨ (¬ which < 0 ∧ ¬ (n : Int) ≤ which ∧ period < 1) := by omega
  clear hb hn
  have key : Hid (∀ (W : World) (F : Nat → Prop) (b0 : Option Addr) (d0 : Nat) (b1 : Option Addr) (m1 d1 : Nat) (b2 : Option Addr) (m2 d2 : Nat), Kept No w W → Img W F b0 n0 d0 b1 m1 d1 b2 m2 d2 x → (∀ k, F k → k < W.heap.size) → Calls Tryz.prog 4 #[.agg #[.slice b0 n0 d0, .slice b1 m1 d1, .slice b2 m2 d2], .int .i64 (q : Int)] W fun e w' => ∃ gl, e = .returned (.tuple #[.slice (some ⟨gl, 0, none⟩) n n, .int .i64 0]) ∧ Kept No W w') := fun W F b0 d0 b1 m1 d1 b2 m2 d2 k hI hF => by
    obtain ⟨m, _, _, _, _, _, hw⟩ := HW.out W F b0 d0 b1 m1 d1 b2 m2 d2 k hI hF
    exact hw.mono fun e w' ⟨gl, g, s, d, f, W', w2, e1, _, _, _, k2⟩ => ⟨gl, e1, k2⟩
  clear HW
  rcases hcase with hb | ⟨hb1, hb2⟩ | ⟨hb1, hb2, hb3⟩
  all_goals
    go_enter Tryz.func3, Tryz.ntmps3
    go_upto_region 2 with (first
      | (go_at_call 5; refine cC.mono ?_; rintro e w1 ⟨b0, m0', d0, b1, m1', d1, b2, m2', d2, lo, T, rfl, hlo, hI, k1⟩; have hm0 := hI.ps.len.symm.trans hlen; subst hm0; have HI : Hid (ImP w1 lo T w1.heap.size b0 m0' d0 b1 m1' d1 b2 m2' d2 x) := hI; have K1 : Hid (Kept No w w1) := HK0.out.trans k1 (fun _ h => h.elim); clear hlo hI k1)
      | (go_at_call 4; refine (key.out _ _ _ _ _ _ _ _ _ _ K1.out HI.out.img (fun k hk => hk.2)).mono ?_; rintro e w2 ⟨gl, rfl, k2⟩; have K2 : Hid (Kept No w w2) := K1.out.trans k2 (fun _ h => h.elim); clear k2))
    clear cC HI
    go_wp2_with (go_at_call 6; refine (known_yes _ (HG.out.1.kept K2.out) (ops_of HG.out.2 K2.out)).mono ?_; rintro e w3 ⟨rfl, k3⟩; have K3 : Hid (Kept No w w3) := K2.out.trans k3 (fun _ h => h.elim); clear k3)
    go_ret
    exact ⟨rfl, K3.out⟩
end Go.Proofs.YtogekpknkakmeaaGreatDoor
