/-
  One text: ZSh.
-/
import Derived.Test.YtibmgpinfdcaoaaGreatDoorG27
namespace Go.Proofs.YtibmgpinfdcaoaaGreatDoor
open Go.RowKit Go.Shelf Plain
set_option linter.unusedVariables false
set_option linter.unusedSimpArgs false
set_option maxRecDepth 100000

set_option maxHeartbeats 16000000 in
theorem grem_any {gc n cc : Nat} {f : Nat → Int} {H : Int} (w : World) (hc : Cw w gc n f) (hn1 : 1 ≤ n) (hn : n < 40) (hcc : n ≤ cc) (hcm : cc ≤ 9223372036854775807) (hH : 1 ≤ H) (hf : ∀ i, i < n → 0 ≤ f i ∧ f i ≤ 1099511627776) :
    Calls Tryz.prog 25 #[.slice (some ⟨gc, 0, none⟩) n cc, .int .i64 H] w fun e w' => ∃ (g : Nat) (D : Nat → Nat), e = .returned (.slice (some ⟨g, 0, none⟩) n n) ∧ w.heap.size ≤ g ∧ Rp w' g n D ∧ Pm 0 n (fun i => i) D ∧ So (rmK f H) 0 n D ∧ Kept No w w' := by
  have HB : Hid (1 ≤ n ∧ n < 40 ∧ n ≤ cc ∧ cc ≤ 9223372036854775807 ∧ 1 ≤ H) := ⟨hn1, hn, hcc, hcm, hH⟩
  have HF := hid hf
  have H0 : Hid (Cnb ((w.alloc (.cells #[.slice (some ⟨gc, 0, none⟩) n cc] 25)).alloc (.cells #[.int .i64 H] 3)) w.heap.size (w.heap.size + 1) gc n cc f H ∧ Kept No w ((w.alloc (.cells #[.slice (some ⟨gc, 0, none⟩) n cc] 25)).alloc (.cells #[.int .i64 H] 3))) := by
    have k1 : Kept No w (w.alloc (.cells #[.slice (some ⟨gc, 0, none⟩) n cc] 25)) := (Kept.refl No w).alloc _
    have k2 : Kept No (w.alloc (.cells #[.slice (some ⟨gc, 0, none⟩) n cc] 25)) ((w.alloc (.cells #[.slice (some ⟨gc, 0, none⟩) n cc] 25)).alloc (.cells #[.int .i64 H] 3)) := (Kept.refl No _).alloc _
    refine ⟨⟨k2.cell (by simp) (fun h => h), ?_, hc.keep (k1.trans k2 (fun _ h => h.elim))⟩, k1.trans k2 (fun _ h => h.elim)⟩
    simp
  have hn2 : (n : Int) < 40 := by omega
  have HGC : Hid (gc < w.heap.size) := hc.blk
  clear hc hf hn1 hn hcc hcm hH
  go_enter Tryz.func25, Tryz.ntmps25
  go_upto_region 1 with fail
  have HS0 : Hid (w.heap.size + 2 = ((w.alloc (.cells #[.slice (some ⟨gc, 0, none⟩) n cc] 25)).alloc (.cells #[.int .i64 H] 3)).heap.size) := by
    show _ = _
    simp
  generalize (w.alloc (.cells #[.slice (some ⟨gc, 0, none⟩) n cc] 25)).alloc (.cells #[.int .i64 H] 3) = w1 at *
  obtain ⟨b1, hb1⟩ : ∃ b1, b1 = w.heap.size := ⟨_, rfl⟩
  rw [← hb1] at H0 HS0
  rw [← hb1]
  have HB1 := hid hb1
  clear hb1
  have c1 := H0.out.1.s
  obtain ⟨w2, hm, hcw, hk2, hs2⟩ := make_row w1 n (by have := HB.out; omega)
  obtain ⟨g, hgg⟩ : ∃ g, g = w1.heap.size := ⟨_, rfl⟩
  have HG := hid hgg
  rw [← hgg] at hm hcw
  have H2 : Hid (Rp w2 g n (fun i => if i < 0 then i else 0) ∧ Kept No w1 w2) := ⟨hcw.congr' (fun j hj => by dsimp only; rw [if_neg (by omega)]; rfl), hk2⟩
  clear hcw hs2 hgg
  go_upto_region 2 with fail
  have c2 := hk2.cell c1 (fun h => h)
  clear hk2 c1 hm
  go_wp2
  go_loopw [13] (fun x wr => ∃ k : Nat, x = .int .i64 k ∧ k ≤ n ∧ Rp wr g n (fun i => if i < k then i else 0) ∧ Kept (fun b => b = g) w1 wr) (fun x _ => n - (intOf x).toNat)
  case atStart => exact ⟨0, rfl, Nat.zero_le _, H2.out.1, H2.out.2.mono (fun _ h => h.elim)⟩
  case round =>
    obtain ⟨k, rfl, hk, hcw, K⟩ := hrel
    have HL := hid (And.intro hcw K)
    clear hcw K H2 c2
    by_cases hlt : k < n
    · have hkn : (k : Int) < (n : Int) := by omega
      have c0 := HL.out.1.at' k hlt
      have hfz := HL.out.1.fz
      have HST : Hid (Rp (wr.setCell ⟨g, k, none⟩ (.int .i64 k)) g n (fun i => if i < k + 1 then i else 0)) := by
        refine (Cw.set HL.out.1 k (k : Int)).congr' (fun j hj => ?_)
        unfold upI
        by_cases e : j = k
        · subst e; dsimp only; rw [if_pos rfl, if_pos (by omega)]
        · rw [if_neg e]; dsimp only
          by_cases e2 : j < k
          · rw [if_pos e2, if_pos (by omega)]
          · rw [if_neg e2, if_neg (by omega)]
      have HSK : Hid (Kept (fun b => b = g) w1 (wr.setCell ⟨g, k, none⟩ (.int .i64 k))) := HL.out.2.trans kept_set (fun _ h => .inl h)
      go_wp2
      go_roundw
      case rel => exact ⟨k + 1, by go_num, by omega, HST.out, HSK.out⟩
      case measure => simp [intOf]; omega
    · have e : n = k := by omega
      subst e
      have HNB : Hid (Rfn (wr.alloc (.cells #[.func (.func 39) #[] #[.pointer (some ⟨b1, 0, none⟩), .pointer (some ⟨b1 + 1, 0, none⟩)]] 71)) wr.heap.size b1 (b1 + 1)) := by
        show World.cell? _ _ = _
        simp
      have HKA : Hid (Kept No wr (wr.alloc (.cells #[.func (.func 39) #[] #[.pointer (some ⟨b1, 0, none⟩), .pointer (some ⟨b1 + 1, 0, none⟩)]] 71))) := (Kept.refl No wr).alloc _
      go_upto_region 8 with fail
      generalize wr.alloc (.cells #[.func (.func 39) #[] #[.pointer (some ⟨b1, 0, none⟩), .pointer (some ⟨b1 + 1, 0, none⟩)]] 71) = w5 at *
      obtain ⟨b3, hb3⟩ : ∃ b3, b3 = wr.heap.size := ⟨_, rfl⟩
      rw [← hb3] at HNB
      rw [← hb3]
      have HB3 := hid hb3
      clear hb3
      have HKW : Hid (Kept (fun b => b = g) w1 w5) := HL.out.2.trans HKA.out (fun _ h => h.elim)
      have HNE : Hid (b1 ≠ g ∧ b1 + 1 ≠ g ∧ gc ≠ g ∧ b3 ≠ g) := by
        have q1 := HS0.out
        have q2 := HG.out
        have q3 := HB1.out
        have q4 := HGC.out
        have q5 := HB3.out
        have q6 := HL.out.1.blk
        show _ ∧ _ ∧ _ ∧ _
        omega
      have hcm : CmpK w5 g 41 #[.pointer (some ⟨b3, 0, none⟩)] n (rmK f H) := fun W kW x y hx hy => by
        have q1 := HNE.out
        have kw1 : Kept (fun b => b = g) w1 W := HKW.out.trans kW (fun _ h => .inl h)
        exact cmp_any W (H0.out.1.kept kw1 q1.1 q1.2.1 q1.2.2.1) (kW.cell HNB.out q1.2.2.2) hx hy (by have := HB.out; omega) HB.out.2.2.2.2 HF.out
      have hrow : Rp w5 g n (fun i => i) := (Cw.keep HL.out.1 HKA.out).congr' (fun j hj => by dsimp only; rw [if_pos hj])
      have hst := sstab_any (w0 := w5) (g := g) (f := 41) (n := n) (pb := b3) (N := n) (K := rmK f H) (D := fun i => i) HB.out.2.1 hcm hrow (fun i hi => hi) (fun s t _ h _ => h) eg_cmp
      clear hcm hrow
      go_wp2_with (go_at_call 40; refine hst.mono ?_; rintro e w6 ⟨rfl, k6, r6⟩; have H6 := hid (And.intro k6 r6); clear hst k6 r6)
      go_ret
      obtain ⟨k6, D, r6, p6, o6⟩ := H6.out
      have hsz : w.heap.size ≤ g := by have := H0.out.2.size; have := HG.out; omega
      exact ⟨g, D, rfl, hsz, r6, p6, o6, H0.out.2.trans (HKW.out.trans k6 (fun _ h => .inl h)) (fun b h => .inr (by rw [h]; exact hsz))⟩
/-- how often a place is among the first -/
def incN (D : Nat → Nat) : Nat → Nat → Int
  | 0, _ => 0
  | t + 1, i => incN D t i + (if i = D t then 1 else 0)
theorem incN_bd (D : Nat → Nat) : ∀ t i, 0 ≤ incN D t i ∧ incN D t i ≤ t
  | 0, i => ⟨Int.le_refl _, Int.le_refl _⟩
  | t + 1, i => by
    have := incN_bd D t i
    rw [incN]
    split <;> omega
/-- the rounded parts, and what rounding leaves over -/
def loS (f : Nat → Int) (H : Int) (i : Nat) : Int := f i * 1000000 / H
def lfS (f : Nat → Int) (H : Int) : Nat → Int
  | 0 => 1000000
  | k + 1 => lfS f H k - loS f H k
theorem loS_bd {f : Nat → Int} {H : Int} (hH : 1 ≤ H) {i : Nat} (hf : 0 ≤ f i ∧ f i ≤ 1099511627776) : 0 ≤ loS f H i ∧ loS f H i ≤ 1099511627776000000 := by
  unfold loS
  refine ⟨Int.ediv_nonneg (by omega) (by omega), ?_⟩
  have : f i * 1000000 / H ≤ f i * 1000000 := Int.ediv_le_self _ (by omega)
  omega
theorem loS_le {f : Nat → Int} {H : Int} (hH : 1 ≤ H) {i : Nat} (hf : 0 ≤ f i ∧ f i ≤ H) : loS f H i ≤ 1000000 := by
  unfold loS
  have h1 : f i * 1000000 ≤ 1000000 * H := by omega
  exact Int.ediv_le_of_le_mul (by omega) h1
theorem lfS_bd {f : Nat → Int} {H : Int} (hH : 1 ≤ H) : ∀ n, (∀ i, i < n → 0 ≤ f i ∧ f i ≤ H) → 1000000 - 1000000 * n ≤ lfS f H n ∧ lfS f H n ≤ 1000000
  | 0, _ => by simp [lfS]
  | k + 1, hf => by
    have h := lfS_bd hH k (fun i hi => hf i (by omega))
    have h1 := loS_le hH (hf k (by omega))
    have h2 : 0 ≤ loS f H k := by unfold loS; exact Int.ediv_nonneg (by have := hf k (by omega); omega) (by omega)
    rw [lfS]
    omega

set_option maxHeartbeats 16000000 in
theorem shares_yes {F : Nat → Prop} {a : Option Addr} {c : Nat} {xs : List Srv} (w : World) (hg : Gl w) (h : Sv w F a xs.length c xs) (hF : ∀ k, F k → k < w.heap.size) (ht : timF xs xs.length = none) (hle : ∀ i, i < xs.length + 1 → 0 ≤ usF xs (hyp xs) (2 * hyp xs) i ∧ usF xs (hyp xs) (2 * hyp xs) i ≤ (hyp xs : Int)) (L : Nat) (hL : lfS (usF xs (hyp xs) (2 * hyp xs)) (hyp xs) (xs.length + 1) = (L : Int)) (hL2 : L ≤ xs.length + 1) :
    Calls Tryz.prog 7 #[.slice a xs.length c] w fun e w' => ∃ (g : Nat) (D : Nat → Nat), e = .returned (.tuple #[.slice (some ⟨g, 0, none⟩) (xs.length + 1) (xs.length + 1), .int .i64 0]) ∧ w.heap.size ≤ g ∧ Cw w' g (xs.length + 1) (fun i => loS (usF xs (hyp xs) (2 * hyp xs)) (hyp xs) i + incN D L i) ∧ Pm 0 (xs.length + 1) (fun i => i) D ∧ So (rmK (usF xs (hyp xs) (2 * hyp xs)) (hyp xs)) 0 (xs.length + 1) D ∧ Kept No w w' := by
  have hc := hyper_any F a xs.length c xs w hg h
  rw [(tim_yes ht).1, (tim_yes ht).2] at hc
  have hv := vd_of ht
  have hn := hv.num
  have hh1 := hv.hyp1
  have hh2 := hv.hyp2
  have HUS : Hid (∀ W, Kept No w W → Calls Tryz.prog 5 #[.slice a xs.length c, .int .i64 (hyp xs : Int), .int .i64 ((2 * hyp xs : Nat) : Int)] W fun e w' => ∃ g, e = .returned (.tuple #[.slice (some ⟨g, 0, none⟩) (xs.length + 1) (xs.length + 1), .int .i64 0]) ∧ W.heap.size ≤ g ∧ Cw w' g (xs.length + 1) (usF xs (hyp xs) (2 * hyp xs)) ∧ Kept No W w') := fun W k => used_yes (hyp xs) (2 * hyp xs) W (hg.kept k) (h.keep k) (fun q hq => Nat.lt_of_lt_of_le (hF q hq) k.size) ht (by omega) (by omega)
  generalize usF xs (hyp xs) (2 * hyp xs) = f at *
  obtain ⟨n, hnn⟩ : ∃ n, n = xs.length + 1 := ⟨_, rfl⟩
  rw [← hnn] at hle hL hL2 HUS
  rw [← hnn]
  generalize hyp xs = H at *
  have HB : Hid (1 ≤ n ∧ n ≤ 33 ∧ 1 ≤ H ∧ H ≤ 1048576 ∧ L ≤ n) := ⟨by omega, by omega, hh1, hh2, hL2⟩
  have HF := hid hle
  have HLF := hid hL
  have hH3 : (H : Int) ≤ 1048576 := by omega
  have e2 : (2 : Int) * (H : Int) = ((2 * H : Nat) : Int) := by omega
  clear h hg hF ht hle hL hL2 hv hn hh1 hh2 hnn
  go_enter Tryz.func7, Tryz.ntmps7
  go_upto_region 4 with (go_at_call 24; refine hc.mono ?_; rintro e w1 ⟨rfl, hk1⟩; have HK1 : Hid (Kept No w w1) := hk1; clear hk1 hc)
  have hus := HUS.out w1 HK1.out
  rw [← e2] at hus
  clear e2
  have hH0 : (0 : Int) ≤ (H : Int) := by omega
  go_upto_region 5 with (go_at_call 5; refine hus.mono ?_; rintro e w2 ⟨gc, rfl, q1, q2, q3⟩; have H2 := hid (And.intro q1 (And.intro q2 q3)); clear hus q1 q2 q3)
  obtain ⟨w3, hm, hcw, hk3, hs3⟩ := make_row w2 n (by have := HB.out; omega)
  obtain ⟨g, hgg⟩ : ∃ g, g = w2.heap.size := ⟨_, rfl⟩
  have HG := hid hgg
  rw [← hgg] at hm hcw
  have H3 := hid (And.intro hcw hk3)
  clear hcw hk3 hs3 hgg
  go_upto_region 7 with fail
  have H3b : Hid (Cw w3 g n (fun i => if i < 0 then loS f H i else 0)) := H3.out.1.congr' (fun j hj => by rw [if_neg (by omega)])
  clear hm
  go_wp2
  go_loopw [34, 9] (fun x y wr => ∃ k : Nat, x = .int .i64 k ∧ y = .int .i64 (lfS f H k) ∧ k ≤ n ∧ Cw wr g n (fun i => if i < k then loS f H i else 0) ∧ Kept (fun b => b = g) w3 wr) (fun x _ _ => n - (intOf x).toNat)
  case atStart => exact ⟨0, rfl, rfl, Nat.zero_le _, H3b.out, Kept.refl _ _⟩
  case round =>
    obtain ⟨k, rfl, rfl, hk, hcw, K⟩ := hrel
    have HL := hid (And.intro hcw K)
    clear hcw K H3b
    have hn3 : (n : Int) ≤ 33 := by have := HB.out; omega
    by_cases hlt : k < n
    · have hkn : (k : Int) < (n : Int) := by omega
      have c0 := HL.out.1.at' k hlt
      have hfz := HL.out.1.fz
      rw [if_neg (by omega)] at c0
      have hgc : gc ≠ g := by have := H2.out.2.1.blk; have := HG.out; omega
      have d0 : wr.cell? ⟨gc, k, none⟩ = some (.int .i64 (f k)) := HL.out.2.cell (H3.out.2.cell (H2.out.2.1.at' k hlt) (fun h => h)) hgc
      have hfk := HF.out k hlt
      have HV : Hid (loS f H k = (f k * 1000000) / H) := rfl
      have HST : Hid (∀ v, v = loS f H k → Cw (wr.setCell ⟨g, k, none⟩ (.int .i64 v)) g n (fun i => if i < k + 1 then loS f H i else 0)) := fun v hv => by
        refine (Cw.set HL.out.1 k v).congr' (fun j hj => ?_)
        unfold upI
        by_cases e : j = k
        · subst e; dsimp only; rw [if_pos rfl, if_pos (by omega)]; exact hv
        · rw [if_neg e]; dsimp only
          by_cases e2 : j < k
          · rw [if_pos e2, if_pos (by omega)]
          · rw [if_neg e2, if_neg (by omega)]
      have HSK : Hid (∀ v, Kept (fun b => b = g) w3 (wr.setCell ⟨g, k, none⟩ v)) := fun v => HL.out.2.trans kept_set (fun _ h => .inl h)
      have HLK : Hid (lfS f H (k + 1) = lfS f H k - loS f H k) := rfl
      have hlf := lfS_bd (f := f) (H := (H : Int)) (by have := HB.out; omega) k (fun i hi => HF.out i (by omega))
      have hlo : 0 ≤ loS f H k ∧ loS f H k ≤ 1000000 := ⟨(loS_bd (by have := HB.out; omega) (by omega)).1, loS_le (by have := HB.out; omega) hfk⟩
      generalize f k = v at *
      have hH4 : ¬ (H : Int) = 0 := by have := HB.out; omega
      have e3 : Int.tdiv (v * 1000000) H = loS f H k := by
        rw [HV.out]; exact Int.tdiv_eq_ediv_of_nonneg (by omega)
      generalize loS f H k = lo at *
      generalize lfS f H k = lf at *
      go_wp2
      go_roundw
      case rel =>
        refine ⟨k + 1, by go_num, ?_, by omega, HST.out _ rfl, HSK.out _⟩
        rw [HLK.out]
      case measure => simp [intOf]; omega
    · have e : n = k := by omega
      subst e
      have HC3 : Hid (Cw wr g n (loS f H)) := HL.out.1.congr' (fun j hj => by rw [if_pos hj])
      have hgc : gc ≠ g := by have := H2.out.2.1.blk; have := HG.out; omega
      have HGCn := hid hgc
      have HGS : Hid (g < wr.heap.size) := HC3.out.blk
      have HKR : Hid (Kept (fun b => b = g) w2 wr) := (H3.out.2.mono (fun _ h => h.elim)).trans HL.out.2 (fun _ h => .inl h)
      have hgr := grem_any (gc := gc) (n := n) (cc := n) (f := f) (H := (H : Int)) wr (H2.out.2.1.kept HKR.out hgc) HB.out.1 (by have := HB.out; omega) (Nat.le_refl _) (by have := HB.out; omega) (by have := HB.out; omega) (fun i hi => by have := HF.out i hi; have := HB.out; omega)
      rw [HLF.out]
      have hLn : (L : Int) ≤ (n : Int) := by have := HB.out; omega
      have hL0 : (0 : Int) ≤ (L : Int) := by omega
      clear HL hgc
      generalize wr = wo at *
      go_wp2_with (go_at_call 25; refine hgr.mono ?_; rintro e w5 ⟨gp, D, rfl, q1, q2, q3, q4, q5⟩; have H5 := hid (And.intro q1 (And.intro q2 (And.intro q3 (And.intro q4 q5)))); clear hgr q1 q2 q3 q4 q5)
      have HC5 : Hid (Cw w5 g n (fun i => loS f H i + incN D 0 i)) := (HC3.out.keep H5.out.2.2.2.2).congr' (fun j hj => by rw [incN]; omega)
      go_loopw [60] (fun x wr => ∃ t : Nat, x = .int .i64 t ∧ t ≤ L ∧ Cw wr g n (fun i => loS f H i + incN D t i) ∧ Kept (fun b => b = g) w5 wr) (fun x _ => L - (intOf x).toNat)
      case atStart => exact ⟨0, rfl, Nat.zero_le _, HC5.out, Kept.refl _ _⟩
      case round =>
        obtain ⟨t, rfl, ht, hcw, K⟩ := hrel
        have HL := hid (And.intro hcw K)
        clear hcw K HC5 HC3
        by_cases hlt : t < L
        · have htL : (t : Int) < (L : Int) := by omega
          have htn : t < n := by have := HB.out; omega
          have hD : D t < n := by
            obtain ⟨s, _, s2, e⟩ := H5.out.2.2.1.mem t (Nat.zero_le _) htn
            rw [e]; exact s2
          have hgp : gp ≠ g := by have := H5.out.1; have := HGS.out; omega
          have d0 : wr.cell? ⟨gp, t, none⟩ = some (.int .i64 (D t : Int)) := HL.out.2.cell (H5.out.2.1.at' t htn) hgp
          have c0 := HL.out.1.at' (D t) hD
          have hfz := HL.out.1.fz
          have hDn : ((D t : Nat) : Int) < (n : Int) := by omega
          have HST : Hid (Cw (wr.setCell ⟨g, D t, none⟩ (.int .i64 (loS f H (D t) + incN D t (D t) + 1))) g n (fun i => loS f H i + incN D (t + 1) i)) := by
            refine (Cw.set HL.out.1 (D t) (loS f H (D t) + incN D t (D t) + 1)).congr' (fun j hj => ?_)
            unfold upI
            rw [incN]
            by_cases e : j = D t
            · rw [if_pos e, if_pos e, e]; omega
            · rw [if_neg e, if_neg e]; dsimp only; omega
          have HSK : Hid (∀ v, Kept (fun b => b = g) w5 (wr.setCell ⟨g, D t, none⟩ v)) := fun v => HL.out.2.trans kept_set (fun _ h => .inl h)
          have hb1 : 0 ≤ loS f H (D t) + incN D t (D t) ∧ loS f H (D t) + incN D t (D t) ≤ 2000000 := by
            have h1 := incN_bd D t (D t)
            have h2 := HF.out (D t) hD
            have h3 := loS_le (f := f) (H := (H : Int)) (by have := HB.out; omega) h2
            have h4 := (loS_bd (f := f) (H := (H : Int)) (i := D t) (by have := HB.out; omega) (by have := HB.out; omega)).1
            have := HB.out
            omega
          obtain ⟨v, hv⟩ : ∃ v, v = loS f H (D t) + incN D t (D t) := ⟨_, rfl⟩
          rw [← hv] at c0 HST hb1
          obtain ⟨d, hd⟩ : ∃ d, d = D t := ⟨_, rfl⟩
          rw [← hd] at c0 d0 HST HSK hDn
          clear hv hd htn hD
          go_wp2
          go_roundw
          case rel => exact ⟨t + 1, by go_num, by omega, HST.out, HSK.out _⟩
          case measure => simp [intOf]; omega
        · have e : L = t := by omega
          subst e
          go_wp2
          go_ret2
          have hsz : w.heap.size ≤ g := by have := HK1.out.size; have := H2.out.2.2.size; have := HG.out; omega
          have kA : Kept No w w2 := HK1.out.trans H2.out.2.2 (fun _ h => h.elim)
          have kB : Kept No w wo := kA.trans HKR.out (fun b e => .inr (by rw [e]; exact hsz))
          have kC : Kept No w w5 := kB.trans H5.out.2.2.2.2 (fun _ h => h.elim)
          exact ⟨g, D, rfl, hsz, HL.out.1, H5.out.2.2.1, H5.out.2.2.2.1, kC.trans HL.out.2 (fun b e => .inr (by rw [e]; exact hsz))⟩
end Go.Proofs.YtibmgpinfdcaoaaGreatDoor
