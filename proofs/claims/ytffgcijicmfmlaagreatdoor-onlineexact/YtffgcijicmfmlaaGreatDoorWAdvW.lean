/-
  'Advance'.
-/
import Derived.Test.YtffgcijicmfmlaaGreatDoorWApp
namespace Go.Proofs.YtffgcijicmfmlaaGreatDoor
open Go.RowKit
set_option linter.unusedVariables false

theorem advance_no {w : World} {F : Nat → Prop} {b n : Nat} {L : List Fi} (h : Wh w F b n L) (x : Int) (hx : x < n ∨ x > 1099511627776) : Calls Tryz.prog 109 #[.pointer (some ⟨b, 0, none⟩), .int .i64 x] w fun ex w' => ex = .returned (.tuple #[.slice none 0 0, .int .i64 2]) ∧ w' = w := by
  obtain ⟨hn, mb, c, M, S, V, h1, h2, h3, h4⟩ := h
  have h0 := h1.now
  clear h1 h2 h3 h4
  by_cases a1 : x < n
  · clear hx
    go_enter Tryz.func109, Tryz.ntmps109
    go_wp2
    go_ret2
    exact ⟨rfl, rfl⟩
  · have a2 : x > 1099511627776 := by omega
    clear hx
    go_enter Tryz.func109, Tryz.ntmps109
    go_wp2
    go_ret2
    exact ⟨rfl, rfl⟩

/-- what is told at the end -/
def Told (w w' : World) (F : Nat → Prop) (b tg : Nat) (L : List Fi) (v : Value) : Prop :=
  ∃ F' T L', L = T ++ L' ∧ (∀ x, x ∈ T → x.t ≤ tg) ∧ (∀ x, x ∈ L' → (tg : Int) < x.t) ∧ w'.ownsRow w.heap.size 98 2 v T.length (fcL T) ∧ Wh w' F' b tg L' ∧ Kept F w w' ∧ (∀ k, F' k → F k ∨ w.heap.size ≤ k) ∧ ∀ g, v.ownBlock = some g → ¬ F' g
theorem Ad.told {w0 w : World} {F : Nat → Prop} {b mb n0 tg : Nat} {L : List Fi} {v : Value} {T : List Fi} {n c : Nat} {M : Int → Option (Int × Int)} {S : Nat → List Fi} {V : Nat → Value} {L' : List Fi} (h : Ad w0 w F b mb n0 tg L v T n c M S V [] L') (htg : tg ≤ 1099511627776) (hto : ∀ k, k < 448 → S k ≠ [] → (∀ j, j < k → S j = []) → tg < bg n k) : Told w0 (w.setCell ⟨b, 0, none⟩ (.int .i64 tg)) F b tg L v := by
  obtain ⟨h1, h2⟩ := h.stop hto
  exact ⟨Fp b mb V, T, L', h.eq, h.tl, h2, h1.row, ⟨htg, mb, c, M, S, V, h1.wl, h1.iv, h1.rp, fun k hk => hk⟩, h1.kp, h1.fp, h1.far⟩

set_option maxHeartbeats 4000000 in
set_option maxRecDepth 100000 in
theorem advance_yes (hs : SortSpec) {w : World} {F : Nat → Prop} {b n0 : Nat} {L : List Fi} (h : Wh w F b n0 L) (tg : Nat) (hle : n0 ≤ tg) (htg : tg ≤ 1099511627776) : Calls Tryz.prog 109 #[.pointer (some ⟨b, 0, none⟩), .int .i64 tg] w fun ex w' => ∃ v, ex = .returned (.tuple #[v, .int .i64 0]) ∧ Told w w' F b tg L v := by
  obtain ⟨hn, mb, c0, M0, S0, V0, h1, h2, h3, h4⟩ := h
  have A0 : Hid (Ad w w F b mb n0 tg L (.slice none 0 0) [] n0 c0 M0 S0 V0 [] L) := ⟨h1, h2, h3, ⟨Nat.le_refl _, hle⟩, rfl, (fun x hx => by cases hx), World.ownsRow_nil _ _ _ _, Kept.refl _ _, fun k hk => .inl (h4 k hk), (fun g e => by cases e)⟩
  have HLB : Hid (L.length ≤ 65536) := (by have := (h3.bound h2).2; rw [h3.cnt] at this; exact this)
  have HS : Hid SortSpec := hs
  have hn0 := h1.now
  have a1 : ¬ ((tg : Int) < n0) := by omega
  have a2 : ¬ ((tg : Int) > 1099511627776) := by omega
  clear h1 h2 h3 h4 hs
  go_enter Tryz.func109, Tryz.ntmps109
  go_wp2
  go_loopw [6] (fun a wr => ∃ T n c M S V L', Ad w wr F b mb n0 tg L a T n c M S V [] L') (fun _ wr => meas wr b)
  case atStart => exact ⟨[], n0, c0, M0, S0, V0, L, A0.out⟩
  case round =>
    obtain ⟨T, n, c, M, S, V, L', hA⟩ := hrel
    have HA : Hid (Ad w wr F b mb n0 tg L u6 T n c M S V [] L') := hA
    clear hA A0 hn0 a1 a2
    have cF := first_any HA.out.wl
    have hnow := HA.out.wl.now
    have hfz := HA.out.wl.fz 0
    go_upto_region 5 with (go_at_call 113; refine cF.mono ?_; rintro ex w2 ⟨hw2, hcase⟩; obtain rfl := hw2.symm; rcases hcase with ⟨l, p, hl, hp, hne, h0, rfl⟩ | ⟨h0, rfl⟩)
    · clear cF hw2
      have hk := ix_lt hl hp
      have HNE : Hid (S (ix l p) ≠ [] ∧ ∀ j, j < ix l p → S j = []) := ⟨hne, h0⟩
      have hnb : n < 4398046511104 := by have := HA.out.le; omega
      have cB := begin_any HA.out.wl l p hl hp hnb
      have HBG : Hid (bg n (ix l p) = beg n l p) := (show _ = _ by unfold bg; rw [ix_l hp, ix_p hp])
      generalize beg n l p = bgn at cB HBG
      clear hne h0
      by_cases hgt : tg < bgn
      · have HT : Hid (Told w (wr.setCell ⟨b, 0, none⟩ (.int .i64 tg)) F b tg L u6) := HA.out.told htg (fun k hk2 hne2 h02 => by
          have e : k = ix l p := by
            rcases Nat.lt_trichotomy k (ix l p) with h | h | h
            · exact absurd (HNE.out.2 k h) hne2
            · exact h
            · exact absurd (h02 _ h) HNE.out.1
          rw [e, HBG.out]
          exact hgt)
        have hgti : (bgn : Int) > tg := by omega
        go_wp2_with (go_at_call 114; refine cB.mono ?_; rintro ex w3 ⟨rfl, hw3⟩; obtain rfl := hw3.symm)
        go_ret2
        exact ⟨_, rfl, HT.out⟩
      · have hgti : ¬ ((bgn : Int) > tg) := by omega
        go_upto_region 6 with (go_at_call 114; refine cB.mono ?_; rintro ex w3 ⟨rfl, hw3⟩; obtain rfl := hw3.symm)
        go_upto_region 7 with (go_at_call 114; refine cB.mono ?_; rintro ex w3 ⟨rfl, hw3⟩; obtain rfl := hw3.symm)
        have A1 : Hid (Ad w ((wr.setCell ⟨b, 0, none⟩ (.int .i64 bgn)).setCell ⟨b, 2 + ix l p, none⟩ (.slice none 0 0)) F b mb n0 tg L u6 T bgn c M (updN S (ix l p) []) (updN V (ix l p) (.slice none 0 0)) (S (ix l p)) L') := (by
          have := HA.out.come hk HNE.out.1 HNE.out.2 (by rw [HBG.out]; omega)
          rw [HBG.out] at this
          exact this)
        obtain ⟨g, cap, hv, hrow, hgf, hgw, hgv, hgb⟩ := HA.out.list hk HNE.out.1
        have hmlen := HA.out.iv.len hk
        have cE := empty_any (HA.out.wl.setNow bgn) l p hl hp
        rw [hv] at cE
        have hmc : (S (ix l p)).length ≤ cap ∧ cap ≤ 9223372036854775807 := by
          rcases owns_cells2 hrow with ⟨h1, _⟩ | ⟨g', cap', h1, _, _, h3, h4, _⟩
          · cases h1
          · injection h1 with _ _ e; subst e; exact ⟨h3, h4⟩
        generalize hml : (S (ix l p)).length = m at hmlen cE hrow hmc hv
        have HML : Hid ((S (ix l p)).length = m) := hml
        have R1 : Hid (((wr.setCell ⟨b, 0, none⟩ (.int .i64 bgn)).setCell ⟨b, 2 + ix l p, none⟩ (.slice none 0 0)).ownsRow 0 98 2 (.slice (some ⟨g, 0, none⟩) m cap) m (fcL (S (ix l p)))) := (Kept.setCell (F := fun j => j = b) (p := ⟨b, 2 + ix l p, none⟩) (Kept.setCell (F := fun j => j = b) (p := ⟨b, 0, none⟩) (Kept.refl _ wr) (.inl rfl) _) (.inl rfl) _).owns hrow (fun k hk e => by injection hk with hk; exact hgb (hk.trans e))
        obtain ⟨hmc1, hmc2⟩ := hmc
        clear hv hrow hml
        go_upto_region 8 with (go_at_call 115; refine cE.mono ?_; rintro ex w4 ⟨rfl, hw4⟩; obtain rfl := hw4.symm)
        have hM0 := meas_wl HA.out.wl
        have HM : Hid (meas wr b = 2 * (2199023255552 - n) + (if S (n % 64) = [] then 0 else 1)) := hM0
        have HLE : Hid (n0 ≤ n ∧ n ≤ tg) := HA.out.le
        -- where the first slot's timers lie
        have HSK : Hid (∀ x, x ∈ S (ix l p) → Ok n x ∧ slx n x = ix l p) := (fun x hx => HA.out.iv.ok _ hk x hx)
        have HALL : Hid (∀ x, x ∈ L' → x ∉ S (ix l p) → bgn < x.t.toNat ∧ (bgn : Int) < x.t) := (fun x hxL hxS => by
          obtain ⟨j, hj⟩ := some_tk ((HA.out.rp.mem x.i x.t).2 hxL)
          rcases HA.out.iv.back x.i x.t j hj with ⟨jn, rfl, hjn⟩ | hp2
          · have hm := at_mem hjn
            obtain ⟨okx, ex⟩ := HA.out.iv.ok _ (sl_lt _ _) _ hm
            obtain ⟨x1, x2, x3, x4⟩ := okx.tn
            have hne2 : sl n x.t.toNat ≠ ix l p := fun e => hxS (by rw [e] at hm; exact hm)
            have hkl : ix l p < sl n x.t.toNat := by
              apply Decidable.byContradiction
              intro hn
              rw [HNE.out.2 _ (by omega)] at hm
              cases hm
            obtain ⟨s, hs⟩ := List.exists_mem_of_ne_nil _ HNE.out.1
            obtain ⟨oks, es⟩ := HA.out.iv.ok _ hk s hs
            obtain ⟨s1, s2, s3, s4⟩ := oks.tn
            dsimp only at x1 x2 x4
            have g1 := slot_order_lt s3 s2 x2 s1 x1 (by rw [show sl n s.t.toNat = ix l p from es]; exact hkl)
            have g2 := bg_le s3 s2
            rw [show sl n s.t.toNat = ix l p from es, HBG.out] at g2
            omega
          · cases hp2)
        generalize (wr.setCell ⟨b, 0, none⟩ (.int .i64 (bgn : Int))).setCell ⟨b, 2 + ix l p, none⟩ (.slice none 0 0) = w5 at A1 R1 ⊢
        clear cE cB hnow hfz hM0
        by_cases hl0 : l = 0
        · subst hl0
          have HX : Hid (∀ x, x ∈ S (ix 0 p) → x.t = bgn) := (fun x hx => by
            obtain ⟨okx, ex⟩ := HSK.out x hx
            obtain ⟨x1, x2, x3, x4⟩ := okx.tn
            have hlv : lv n x.t.toNat = 0 := by
              have : sl n x.t.toNat = ix 0 p := ex
              unfold sl ix at this
              have := pt_lt x.t.toNat (lv n x.t.toNat)
              omega
            have := bg_zero x3 x2 hlv
            rw [show sl n x.t.toNat = ix 0 p from ex, HBG.out] at this
            omega)
          have cFi := fire_any HS.out A1.out.wl A1.out.iv g cap m R1.out hgf hmlen
          have HBN : Hid (n ≤ bgn ∧ bgn % 64 = p) := (by
            obtain ⟨s, hs⟩ := List.exists_mem_of_ne_nil _ HNE.out.1
            obtain ⟨oks, es⟩ := HSK.out s hs
            obtain ⟨s1, s2, s3, s4⟩ := oks.tn
            have e1 := HX.out s hs
            have e2 : s.t.toNat = bgn := by omega
            refine ⟨by omega, ?_⟩
            have e3 : sl n s.t.toNat = ix 0 p := es
            unfold sl ix at e3
            have p1 := pt_lt s.t.toNat (lv n s.t.toNat)
            have hl0 : lv n s.t.toNat = 0 := by omega
            rw [hl0] at e3
            unfold pt at e3
            simp at e3
            omega)
          have HGF : Hid (¬ Fp b mb (updN V (ix 0 p) (.slice none 0 0)) g) := hgf
          go_upto_region 9 with fail
          go_wp2_with (first
            | (go_at_call 116; refine cFi.mono ?_; rintro ex w6 ⟨rfl, A, M', hAp, hAs, hAr, hW6, hI6, hK6, hT6⟩
               have T6 : w6.ownsRow w.heap.size 98 2 u6 T.length (fcL T) := hK6.owns A1.out.row (fun g' hg' e => by
                 rcases e with e | e
                 · exact hgv (by rw [← e]; exact hg')
                 · exact A1.out.far g' hg' (.inr (.inl e)))
               have hB6 : w.heap.size ≤ w6.heap.size := Nat.le_trans A1.out.kp.size hK6.size
               have HF6 : Hid (A.Perm (S (ix 0 p)) ∧ A.Pairwise (fun x y => x.i ≤ y.i) ∧ Wl w6 b mb bgn (c - m) M' (updN S (ix 0 p) []) (updN V (ix 0 p) (.slice none 0 0)) ∧ Iv bgn M' (updN S (ix 0 p) []) [] ∧ Kept (fun j => j = g ∨ j = mb) w5 w6 ∧ ∀ i, tk M' i = tkBut M A i) := ⟨hAp, hAs, hW6, hI6, hK6, hT6⟩
               have HT6 : Hid (w6.ownsRow w.heap.size 98 2 u6 T.length (fcL T)) := T6
               have HA6 : Hid (w6.ownsRow 0 98 2 (.slice (some ⟨g, 0, none⟩) m cap) m (fcL A)) := hAr
               have HTL : Hid (T.length + m ≤ 1000000) := (by
                 have e1 := HLB.out
                 rw [A1.out.eq, List.length_append] at e1
                 show T.length + m ≤ 1000000
                 omega)
               clear hAp hAs hAr hW6 hI6 hK6 hT6 T6 cFi)
            | (at_builtin; refine wl_app rfl _ _ rfl w.heap.size u6 T.length m cap g T A rfl HT6.out rfl HA6.out hB6 HTL.out ?_; intro v7 w7 own7 kp7 hb7))
          have A7 : ∃ L'', L' = A ++ L'' ∧ Ad w w7 F b mb n0 tg L v7 (T ++ A) bgn (c - m) M' (updN S (ix 0 p) []) (updN V (ix 0 p) (.slice none 0 0)) [] L'' := by
            obtain ⟨q1, q2, q3, q4, q5, q6⟩ := HF6.out
            refine A1.out.fired HX.out HML.out q1 q2 (fun x h1 h2 => (HALL.out x h1 h2).2) (q3.kept kp7.out (fun j hj e => A1.out.far j e hj)) q4 q6 own7.out ?_ ?_
            · refine (A1.out.kp.trans q5 (fun j e => ?_)).trans kp7.out (fun j e => .inr (A1.out.row.lt j e).1)
              rcases e with e | e
              · rw [e]; exact hgw
              · exact A1.out.fp j (.inr (.inl e))
            · intro g' hg' hf
              rcases hb7.out with e | ⟨g2, e, hg2⟩
              · exact A1.out.far g' (by rw [← e]; exact hg') hf
              · rw [e] at hg'
                injection hg' with hg'
                have := q3.fp_lt hf
                omega
          obtain ⟨L'', _, A7⟩ := A7
          have HA7 : Hid (Ad w w7 F b mb n0 tg L v7 (T ++ A) bgn (c - m) M' (updN S (ix 0 p) []) (updN V (ix 0 p) (.slice none 0 0)) [] L'') := A7
          have HMS : Hid (meas w7 b < meas wr b) := (show meas w7 b < meas wr b by
            rw [HM.out, meas_wl A7.wl, HBN.out.2]
            have hp0 : ix 0 p = p := by unfold ix; omega
            rw [hp0, updN_same, if_pos rfl]
            obtain ⟨b1, b2⟩ := HBN.out
            have hle2 := A7.le.2
            by_cases e : n = bgn
            · rw [e, b2, if_neg (by have := HNE.out.1; rw [hp0] at this; exact this)]
              omega
            · split <;> omega)
          clear A7 own7 kp7 hb7 HF6 HT6 HA6
          go_wp2
          go_roundw
          case rel => exact ⟨_, _, _, _, _, _, _, HA7.out⟩
          case measure => exact HMS.out
        · have hl1 : ((l : Int) == 0) = false := by simpa using hl0
          have HBN : Hid (n < bgn) := (by
            obtain ⟨s, hs⟩ := List.exists_mem_of_ne_nil _ HNE.out.1
            obtain ⟨oks, es⟩ := HSK.out s hs
            obtain ⟨s1, s2, s3, s4⟩ := oks.tn
            have e3 : sl n s.t.toNat = ix l p := es
            have e4 := e3
            unfold sl ix at e4
            have p1 := pt_lt s.t.toNat (lv n s.t.toNat)
            have := bg_gt s3 s2 s1 (by omega)
            rw [e3, HBG.out] at this
            exact this)
          have hglt := (R1.out.lt g rfl).2
          have HGF : Hid (¬ Fp b mb (updN V (ix l p) (.slice none 0 0)) g ∧ g < w5.heap.size) := ⟨hgf, hglt⟩
          clear hl0 hgf hglt hgv hgw hgb
          go_wp2
          go_loopw [59] (fun d wx => ∃ (j : Nat) (M' : Int → Option (Int × Int)) (S' : Nat → List Fi) (V' : Nat → Value), j ≤ m ∧ d = .int .i64 j ∧ Ad w wx F b mb n0 tg L u6 T bgn c M' S' V' ((S (ix l p)).drop j) L' ∧ wx.ownsRow 0 98 2 (.slice (some ⟨g, 0, none⟩) m cap) m (fcL (S (ix l p))) ∧ ¬ Fp b mb V' g ∧ g < wx.heap.size) (fun d _ => m - (intOf d).toNat)
          case atStart => exact ⟨0, M, _, _, Nat.zero_le _, rfl, A1.out, R1.out, HGF.out.1, HGF.out.2⟩
          case round =>
            obtain ⟨j, M', S', V', hj, rfl, hA, hR, hgf, hglt⟩ := hrel
            have HA2 : Hid (Ad w wr F b mb n0 tg L u6 T bgn c M' S' V' ((S (ix l p)).drop j) L') := hA
            have HR2 : Hid (wr.ownsRow 0 98 2 (.slice (some ⟨g, 0, none⟩) m cap) m (fcL (S (ix l p)))) := hR
            have HG2 : Hid (¬ Fp b mb V' g ∧ g < wr.heap.size) := ⟨hgf, hglt⟩
            clear hA hR hgf hglt
            by_cases hlt : j < m
            · obtain ⟨x, hx⟩ : ∃ x, (S (ix l p))[j]? = some x := ⟨_, List.getElem?_eq_getElem (by rw [HML.out]; exact hlt)⟩
              have hxl : (S (ix l p))[j]'(by rw [HML.out]; exact hlt) = x := by rw [List.getElem?_eq_getElem (by rw [HML.out]; exact hlt)] at hx; injection hx
              have hdrop : (S (ix l p)).drop j = x :: (S (ix l p)).drop (j + 1) := by rw [List.drop_eq_getElem_cons (by rw [HML.out]; exact hlt), hxl]
              obtain ⟨r0, r1, _⟩ := row_at HR2.out hx
              have hA3 := HA2.out
              rw [hdrop] at hA3
              have HA3 : Hid (Ad w (wr.alloc (.cells #[.int .i64 x.t, .int .i64 x.i] 98)) F b mb n0 tg L u6 T bgn c M' S' V' (x :: (S (ix l p)).drop (j + 1)) L') := hA3.below ((Below.refl _ wr).alloc (Nat.le_refl _) _)
              have hok := hA3.iv.pok x List.mem_cons_self
              obtain ⟨pj, hpj⟩ := hA3.iv.pat x List.mem_cons_self
              obtain ⟨x1, x2, x3, x4⟩ := hok.tn
              have hlen := hA3.iv.len (sl_lt bgn x.t.toNat)
              have hcb := (hA3.rp.bound hA3.iv).2
              have cL := lay_any HA3.out.wl x3 x.t.toNat x2 x.i (by unfold Ok at hok; unfold I6w; omega) (by omega) (by omega)
              rw [if_neg (by rw [hpj]; simp), x4] at cL
              unfold Fi.v at cL
              have R3 : Hid ((wr.alloc (.cells #[.int .i64 x.t, .int .i64 x.i] 98)).ownsRow 0 98 2 (.slice (some ⟨g, 0, none⟩) m cap) m (fcL (S (ix l p)))) := HR2.out.alloc _
              have HQ := heap_last wr (.cells #[.int .i64 x.t, .int .i64 x.i] 98)
              have hsz3 : wr.heap.size < (wr.alloc (.cells #[.int .i64 x.t, .int .i64 x.i] 98)).heap.size := by rw [World.size_alloc]; omega
              clear hx hxl hdrop hA3 hok hpj x1 x2 x3 x4 hlen hcb
              go_upto_region 13 with fail
              generalize wr.alloc (.cells #[.int .i64 x.t, .int .i64 x.i] 98) = w6 at HA3 cL R3 HQ hsz3 ⊢
              have q0 : w6.cell? ⟨wr.heap.size, 0, none⟩ = some (.int .i64 x.t) := cell_of_row HQ rfl
              have q1 : w6.cell? ⟨wr.heap.size, 1, none⟩ = some (.int .i64 x.i) := cell_of_row HQ rfl
              clear r0 r1 HQ
              go_upto_region 14 with (go_at_call 117; refine cL.mono ?_; rintro ex w7 ⟨rfl, u, hW7, hK7, hu7⟩)
              obtain ⟨A7, hg7⟩ := HA3.out.lay hW7 hK7 hu7
              have hs7 := hK7.size
              have hgf3 := HG2.out.1
              have R7 : Hid (w7.ownsRow 0 98 2 (.slice (some ⟨g, 0, none⟩) m cap) m (fcL (S (ix l p)))) := hK7.owns R3.out (fun g' hg' hf => by injection hg' with hg'; exact hgf3 (by rw [show g = g' from hg']; exact hf))
              have HG7 : Hid (¬ Fp b mb (updN V' (slx bgn x) u) g ∧ g < w7.heap.size) := ⟨hg7 g (by have := HG2.out.2; omega) hgf3, by have := HG2.out.2; omega⟩
              have HA7 : Hid (Ad w w7 F b mb n0 tg L u6 T bgn c (updM M' x.i (some (x.t, ((S' (slx bgn x)).length : Int)))) (updN S' (slx bgn x) (S' (slx bgn x) ++ [x])) (updN V' (slx bgn x) u) ((S (ix l p)).drop (j + 1)) L') := A7
              clear A7 hg7 hW7 hK7 hu7 cL q0 q1 hsz3 hs7 hgf3
              go_wp2
              go_roundw
              case rel => exact ⟨j + 1, _, _, _, by omega, by go_num, HA7.out, R7.out, HG7.out.1, HG7.out.2⟩
              case measure => simp [intOf]; omega
            · have hjm : j = m := by omega
              subst hjm
              have hA3 := HA2.out
              rw [List.drop_eq_nil_of_le (by rw [HML.out]; exact Nat.le_refl _)] at hA3
              have HA3 : Hid (Ad w wr F b mb n0 tg L u6 T bgn c M' S' V' [] L') := hA3
              clear hA3
              go_wp2
              go_roundw
              case rel => exact ⟨_, _, _, _, _, _, _, HA3.out⟩
              case measure =>
                rw [HM.out, meas_wl HA3.out.wl]
                have h1 := HBN.out
                have h2 := HA3.out.le.2
                split <;> split <;> omega
    · clear cF hw2
      have HT : Hid (Told w (wr.setCell ⟨b, 0, none⟩ (.int .i64 tg)) F b tg L u6) := HA.out.told htg (fun k hk2 hne2 h02 => absurd (h0 k hk2) hne2)
      clear h0
      go_wp2
      go_ret2
      exact ⟨_, rfl, HT.out⟩

end Go.Proofs.YtffgcijicmfmlaaGreatDoor
