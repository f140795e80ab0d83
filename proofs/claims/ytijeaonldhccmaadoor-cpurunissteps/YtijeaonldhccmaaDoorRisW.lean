/-
  'CpuRunIsSteps'.
-/
import Derived.Test.YtijeaonldhccmaaDoorRunQ
import Derived.Test.YtijeaonldhccmaaDoorSameW
import Derived.Test.YtijeaonldhccmaaDoorMac
import Derived.Test.YtijeaonldhccmaaDoorHangsP
import Derived.Test.YtijeaonldhccmaaDoorQuiets
import Derived.Deep.DeepCutAuto
import Derived.WalkSmall
namespace Go.Proofs.YtijeaonldhccmaaDoor
open Go.RowKit
set_option linter.unusedVariables false

set_option maxHeartbeats 1000000 in
set_option maxRecDepth 100000 in
theorem ris_bad (p m : Option Addr) (n cc mn mc : Nat) (fx : Int) (R : Nat → Int) (pc f s : Int) (W : World) (hO : Ops W) (h : f < 0 ∨ s < 0 ∨ f > 3000 ∨ s > 3000) :
    Calls Tryd.prog 7 #[macV (.slice p n cc) (.slice m mn mc) fx R pc, .int .i64 f, .int .i64 s] W fun ex w' => ex = .returned (.bool true) ∧ Below W.heap.size W w' := by
  have HOO : Hid (Ops W) := hO
  have B1 := (Below.refl _ W).alloc (Nat.le_refl _) (.cells (macC (.slice p n cc) (.slice m mn mc) fx R pc) 36)
  clear hO
  go_enter Tryd.func7, Tryd.ntmps7
  go_upto_region 1 with (refine wl_box36 _ rfl rfl (.slice p n cc) (.slice m mn mc) fx R pc rfl ?_)
  generalize W.alloc (.cells (macC (.slice p n cc) (.slice m mn mc) fx R pc) 36) = w1 at B1 ⊢
  have cK := known_yes w1 (HOO.out.below B1 HOO.out.pos)
  by_cases h1 : f < 0
  · clear h
    go_wp2_with (go_at_call 11; refine cK.mono ?_; rintro ex w2 ⟨rfl, b2⟩)
    go_ret
    exact ⟨rfl, B1.trans (b2.mono B1.size)⟩
  · by_cases h2 : s < 0
    · clear h
      go_wp2_with (go_at_call 11; refine cK.mono ?_; rintro ex w2 ⟨rfl, b2⟩)
      go_ret
      exact ⟨rfl, B1.trans (b2.mono B1.size)⟩
    · by_cases h3 : f > 3000
      · clear h
        go_wp2_with (go_at_call 11; refine cK.mono ?_; rintro ex w2 ⟨rfl, b2⟩)
        go_ret
        exact ⟨rfl, B1.trans (b2.mono B1.size)⟩
      · have h4 : s > 3000 := by omega
        clear h
        go_wp2_with (go_at_call 11; refine cK.mono ?_; rintro ex w2 ⟨rfl, b2⟩)
        go_ret
        exact ⟨rfl, B1.trans (b2.mono B1.size)⟩

theorem rl_start {w4 w5 w7 : World} {E : Ef} {v : Value} {mn : Nat} {ms : List Int} (H5 : w5.heap[w4.heap.size]? = some (.cells (effC E.R E.pc E.st E.ad E.va E.fa E.ca) 27)) (hs5 : w5.heap.size = w4.heap.size + 1) (B45 : Below w4.heap.size w4 w5) (own7 : w7.ownsRow w5.heap.size 2 1 v mn (ms.map iv)) (hne : v ≠ .slice none 0 0) (bel7 : Below w5.heap.size w5 w7) (hl : ms.length = mn) :
    ∃ go c, v = .slice (some ⟨go, 0, none⟩) mn c ∧ Rl w4 w7 (some ⟨go, 0, none⟩) mn c E ms := by
  rcases owns_cells own7 with ⟨h0, _⟩ | ⟨g, cap, rfl, _⟩
  · exact absurd h0 hne
  · refine ⟨g, cap, rfl, B45.trans (bel7.mono (by omega)), (bel7.block _ (by omega)).trans H5, .inr ⟨g, cap, by rw [hl], ?_⟩, hl⟩
    rw [hl, List.length_nil, List.append_nil, Nat.add_zero, ← hs5]
    exact own7
theorem own_empty (w : World) : (w.alloc (.cells #[] 2)).ownsRow w.heap.size 2 1 (.slice (some ⟨w.heap.size, 0, none⟩) 0 0) 0 [] :=
  ⟨rfl, .inr ⟨w.heap.size, 0, #[], rfl, Nat.le_refl _, heap_alloc_last _ _, Nat.le_refl _, Nat.zero_le _, rfl, rfl⟩⟩

set_option maxHeartbeats 40000000 in
set_option maxRecDepth 100000 in
theorem ris_ok (F G : Nat → Prop) (p m : Option Addr) (n cc mn mc : Nat) (fx : Int) (R : Nat → Int) (pc : Int) (f s : Nat) (xs : List Ins) (ms : List Int) (W : World) (hc : Cs W F p n cc xs) (hz : Zs W G m mn mc ms) (hO : Ops W) (hmn : mn ≤ 17592186043904) (hf : f ≤ 3000) (hs : s ≤ 3000) :
    Calls Tryd.prog 7 #[macV (.slice p n cc) (.slice m mn mc) fx R pc, .int .i64 f, .int .i64 s] W fun ex w' => ex = .returned (.bool true) ∧ Below W.heap.size W w' := by
  obtain ⟨j0, hj, hw0, hw1, hw2'⟩ := info_parts infoW
  have HOO : Hid (Ops W) := hO
  have HC : Hid (Cs W F p n cc xs) := hc
  have HZ : Hid (Zs W G m mn mc ms) := hz
  have hcap := hc.cap
  have hmax := hc.max
  have hzcap := hz.cap
  have hzmax := hz.max
  have H1 := heap_alloc_last W (.cells (macC (.slice p n cc) (.slice m mn mc) fx R pc) 36)
  have B1 := (Below.refl _ W).alloc (Nat.le_refl _) (.cells (macC (.slice p n cc) (.slice m mn mc) fx R pc) 36)
  clear hO hc hz
  go_enter Tryd.func7, Tryd.ntmps7
  go_upto_region 1 with (refine wl_box36 _ rfl rfl (.slice p n cc) (.slice m mn mc) fx R pc rfl ?_)
  generalize W.alloc (.cells (macC (.slice p n cc) (.slice m mn mc) fx R pc) 36) = w1 at H1 B1 ⊢
  have cK := known_yes w1 (HOO.out.below B1 HOO.out.pos)
  go_upto_region 3 with (go_at_call 11; refine cK.mono ?_; rintro ex w2 ⟨rfl, b2⟩)
  have B2 : Below W.heap.size W w2 := B1.trans (b2.mono B1.size)
  have H2 := (b2.block _ (heap_lt H1)).trans H1
  clear cK b2 H1 B1
  obtain ⟨r, hr⟩ : ∃ r, r = runN xs fx ((f : Int) + s).toNat (⟨R, pc, false, 0, 0, 0, 0⟩, ms) := ⟨_, rfl⟩
  have HR : Hid (r = runN xs fx (f + s) (⟨R, pc, false, 0, 0, 0, 0⟩, ms)) := (show _ = _ by rw [hr, show ((f : Int) + s).toNat = f + s by omega])
  have cR := run_zs F G R p m n cc mn mc fx pc ((f : Int) + s) xs ms w2 (HC.out.kept (Kept.of_below (F := No) B2) (fun _ _ h => h)) (HZ.out.kept (Kept.of_below (F := No) B2) (fun _ _ h => h)) (HOO.out.below B2 HOO.out.pos) hmn (by omega) r hr
  clear hr
  obtain ⟨⟨⟨Re, pce, ste, ade, vae, fae, cae⟩, me⟩, ke⟩ := r
  dsimp only at cR
  have hke : ke ≤ 6000 := by
    have h1 := HR.out
    have h2 := runN_le xs fx (f + s) (⟨R, pc, false, 0, 0, 0, 0⟩, ms)
    rw [← h1] at h2
    dsimp only at h2
    omega
  obtain ⟨m0, m1, mf, m19⟩ := mac_cells H2
  have RM := range_mac H2
  go_upto_region 4 with (first
    | (refine wg_load25 _ rfl rfl W.heap.size 3 R rfl RM ?_)
    | (go_at_call 17; refine cR.mono ?_; rintro ex w3 ⟨a3, c3, rfl, hz3, b3⟩)
    | (refine wl_alloc27 rfl rfl ?_)
    | (refine wl_store27 _ _ rfl rfl Re pce ste ade vae fae cae _ _ rfl rfl (heap_alloc_last _ _) rfl ?_; rw [new_store]))
  have hzc3 := hz3.cap
  have hzm3 := hz3.max
  have HE4 : Hid ((w3.alloc (.cells (effC Re pce ste ade vae fae cae) 27)).heap[w3.heap.size]? = some (.cells (effC Re pce ste ade vae fae cae) 27)) := heap_alloc_last _ _
  have B3 : Below W.heap.size W w3 := B2.trans (b3.mono B2.size)
  have B4 : Hid (Below W.heap.size W (w3.alloc (.cells (effC Re pce ste ade vae fae cae) 27))) := B3.alloc B3.size _
  have H3 := (b3.block _ (heap_lt H2)).trans H2
  have HM4 : Hid ((w3.alloc (.cells (effC Re pce ste ade vae fae cae) 27)).heap[W.heap.size]? = some (.cells (macC (.slice p n cc) (.slice m mn mc) fx R pc) 36)) := (Below.heap_alloc _ _ _ (heap_lt H3)).trans H3
  have HZ4 : Hid (Zs (w3.alloc (.cells (effC Re pce ste ade vae fae cae) 27)) (fun g => w2.heap.size ≤ g) a3 mn c3 me) := hz3.kept ((Kept.refl No w3).alloc _) (fun _ _ h => h)
  clear m0 m1 mf m19 RM cR b3 hz3 B3 H3 H2 B2
  generalize w3.alloc (.cells (effC Re pce ste ade vae fae cae) 27) = w4 at HE4 B4 HM4 HZ4 ⊢
  generalize w3.heap.size = q7 at HE4 ⊢
  obtain ⟨m0, m1, mf, m19⟩ := mac_cells HM4.out
  have RM := range_mac HM4.out
  go_upto_region 5 with (first
    | (refine wg_load25 _ rfl rfl W.heap.size 3 R rfl RM ?_)
    | (refine wl_build27b _ _ rfl rfl R pc rfl rfl ?_)
    | (refine wl_alloc27 rfl rfl ?_)
    | (refine wl_store27 _ _ rfl rfl R pc false 0 0 0 0 _ _ rfl rfl (heap_alloc_last _ _) rfl ?_; rw [new_store]))
  clear RM
  simp only [Act.put, List.setIfInBounds_toArray, List.set_cons_zero, List.set_cons_succ]
  have H5 : Hid ((w4.alloc (.cells (effC R pc false 0 0 0 0) 27)).heap[w4.heap.size]? = some (.cells (effC R pc false 0 0 0 0) 27)) := heap_alloc_last _ _
  have hs5 : (w4.alloc (.cells (effC R pc false 0 0 0 0) 27)).heap.size = w4.heap.size + 1 := by simp
  have B45 : Hid (Below w4.heap.size w4 (w4.alloc (.cells (effC R pc false 0 0 0 0) 27))) := (Below.refl _ w4).alloc (Nat.le_refl _) _
  generalize w4.alloc (.cells (effC R pc false 0 0 0 0) 27) = w5 at H5 hs5 B45 ⊢
  have HS5 : Hid (w5.heap.size = w4.heap.size + 1) := hs5
  have hlw4 := heap_lt HM4.out
  have m1' : (w5.alloc (.cells #[] 2)).cell? ⟨W.heap.size, 1, none⟩ = some (.slice m mn mc) := ((B45.out.alloc B45.out.size _).cell (p := ⟨W.heap.size, 1, none⟩) hlw4).trans m1
  clear hs5 m0 m1 mf m19
  go_cut [11] (fun l wx => ∃ go c, l = .slice (some ⟨go, 0, none⟩) mn c ∧ Rl w4 wx (some ⟨go, 0, none⟩) mn c ⟨R, pc, false, 0, 0, 0, 0⟩ ms)
  case first =>
    cases m with
    | none =>
      have hc0 := HZ.out.nil rfl
      have hn0 : mn = 0 := by have := HZ.out.cap; omega
      have hx0 : ms = [] := List.eq_nil_of_length_eq_zero (by rw [HZ.out.len]; exact hn0)
      subst hc0 hn0 hx0
      go_wp2_with (at_builtin; refine wpList_append_own_none rfl (.tmp 77) (.tmp 79) 34 rfl w5.heap.size 2 j0 1 Tryd.underlying34 hj _ _ _ rfl (own_empty w5) rfl ?_)
      go_meet
      case rel => exact rl_start (E := ⟨R, pc, false, 0, 0, 0, 0⟩) H5.out HS5.out B45.out (own_empty w5) (by simp) ((Below.refl _ w5).alloc (Nat.le_refl _) _) rfl
    | some ad =>
      go_wp2_with (at_builtin; refine wpList_append_own _ rfl _ _ 34 rfl w5.heap.size 2 j0 (.int .i64 0) 1 8 Tryd.underlying34 hj hw0 hw1 hw2' rfl (by decide) _ 0 [] rfl (own_empty w5) ad mn mc (ms.map iv) rfl (by rw [List.length_map, HZ.out.len]; omega) (HZ.out.kept (Kept.of_below (F := No) (B4.out.trans ((B45.out.alloc B45.out.size _).mono B4.out.size))) (fun _ _ h => h)).news (iv_one _) (by unfold maxLen; omega) (by omega) (by simp) ?_; intro v7 w7 own7 grow7 hnil)
      have hb7 : Below w5.heap.size w5 w7 := ((Below.refl _ w5).alloc (Nat.le_refl _) _).grown grow7 (by simp) (fun k hk => ((own_empty w5).lt k hk).1)
      have hne : v7 ≠ .slice none 0 0 := fun e => by have := (hnil.1 e).1; cases this
      rw [Nat.zero_add, List.nil_append] at own7
      have HRL : Hid (∃ go c, v7 = .slice (some ⟨go, 0, none⟩) mn c ∧ Rl w4 w7 (some ⟨go, 0, none⟩) mn c ⟨R, pc, false, 0, 0, 0, 0⟩ ms) := rl_start (E := ⟨R, pc, false, 0, 0, 0, 0⟩) H5.out HS5.out B45.out own7 hne hb7 HZ.out.len
      clear grow7 own7 hnil hb7 hne
      go_wp2
      go_meet
      case rel => exact HRL.out
  case rest =>
    obtain ⟨go, c7, rfl, hrl⟩ := hcut
    have HRL0 : Hid (Rl w4 wc (some ⟨go, 0, none⟩) mn c7 ⟨R, pc, false, 0, 0, 0, 0⟩ ms) := hrl
    have hc7 : mn ≤ c7 ∧ c7 ≤ 9223372036854775807 := by
      obtain ⟨_, cz, hvz, hzz⟩ := hrl.mm.zs
      injection hvz with _ _ h3
      have h1 := hzz.cap
      have h2 := hzz.max
      rw [hrl.len] at h1
      omega
    obtain ⟨hc7a, hc7b⟩ := hc7
    clear hrl H5 HS5 B45 m1'
    go_wp2
    go_loopw [12] (fun d wr => ∃ (j : Nat) (E : Ef) (ms' : List Int), d = .int .i64 j ∧ j ≤ f + s ∧ Rl w4 wr (some ⟨go, 0, none⟩) mn c7 E ms' ∧ Inv xs fx (f + s) (⟨R, pc, false, 0, 0, 0, 0⟩, ms) j (E, ms')) (fun d _ => f + s - (intOf d).toNat)
    case atStart => exact ⟨0, _, _, rfl, by omega, HRL0.out, Inv.zero _ _ _ _⟩
    case round =>
      obtain ⟨j, E, ms', rfl, hjj, hrl, hinv⟩ := hrel
      obtain ⟨e16, e17, e18, e19, e20, e21, _⟩ := c21 hrl.eff
      have HRL : Hid (Rl w4 wr (some ⟨go, 0, none⟩) mn c7 E ms') := hrl
      have HINV : Hid (Inv xs fx (f + s) (⟨R, pc, false, 0, 0, 0, 0⟩, ms) j (E, ms')) := hinv
      have RE := range_eff hrl.eff
      have HMr : Hid (wr.heap[W.heap.size]? = some (.cells (macC (.slice p n cc) (.slice m mn mc) fx R pc) 36)) := (hrl.bel.block _ hlw4).trans HM4.out
      obtain ⟨m0, m1, mf, m19⟩ := mac_cells HMr.out
      have BWr : Hid (Below W.heap.size W wr) := B4.out.trans (hrl.bel.mono B4.out.size)
      clear hrl hinv
      have HFIN : Hid (∀ (h : f + s ≤ j ∨ onR (E, ms') = false), (((⟨Re, pce, ste, ade, vae, fae, cae⟩, me), ke) : (Ef × List Int) × Nat) = ((E, ms'), j)) := (fun h => by rw [HR.out]; exact HINV.out.stop h)
      go_upto_region 7 with fail
      go_cut [95] (fun t wx => t = .bool (decide (j < f + s) && onR (E, ms')) ∧ wx = wr)
      case first =>
        by_cases hlt : j < f + s
        · by_cases hfa : E.fa = 0
          · have g1 : (E.fa == 0) = true := by simpa using hfa
            by_cases hca : E.ca = 0
            · have g2 : (E.ca == 0) = true := by simpa using hca
              have HT : Hid ((decide (j < f + s) && onR (E, ms')) = true) := (show _ = _ by unfold onR; simp [hfa, hca, hlt])
              clear hfa hca
              go_wp2
              go_meet
              case rel => exact ⟨by rw [HT.out], rfl⟩
            · have g2 : (E.ca == 0) = false := by simpa using hca
              have HT : Hid ((decide (j < f + s) && onR (E, ms')) = false) := (show _ = _ by unfold onR; simp [hca])
              clear hfa hca
              go_wp2
              go_meet
              case rel => exact ⟨by rw [HT.out], rfl⟩
          · have g1 : (E.fa == 0) = false := by simpa using hfa
            have HT : Hid ((decide (j < f + s) && onR (E, ms')) = false) := (show _ = _ by unfold onR; simp [hfa])
            clear hfa
            go_wp2
            go_meet
            case rel => exact ⟨by rw [HT.out], rfl⟩
        · have HT : Hid ((decide (j < f + s) && onR (E, ms')) = false) := (show _ = _ by simp [hlt])
          go_wp2
          go_meet
          case rel => exact ⟨by rw [HT.out], rfl⟩
      case rest =>
        obtain ⟨rfl, hw⟩ := hcut
        obtain rfl := hw.symm
        cases hT : (decide (j < f + s) && onR (E, ms')) with
        | true =>
          have hon : Hid (onR (E, ms') = true) := (Bool.and_eq_true_iff.1 hT).2
          have hlt : j < f + s := of_decide_eq_true (Bool.and_eq_true_iff.1 hT).1
          clear hT
          obtain ⟨az, cz, hvz, hzz⟩ := HRL.out.mm.zs
          rw [HRL.out.len] at hvz hzz
          injection hvz with h1 h2 h3
          subst h1 h3
          have cS := step_any F _ E.R p (some ⟨go, 0, none⟩) n cc mn c7 fx E.pc xs ms' wr (HC.out.kept (Kept.of_below (F := No) BWr.out) (fun _ _ h => h)) hzz (HOO.out.below BWr.out HOO.out.pos)
          obtain ⟨E', hE'⟩ : ∃ E', E' = stepE xs ms' fx E.R E.pc := ⟨_, rfl⟩
          have hkp := (stepE_kp xs ms' fx E.R E.pc).1
          rw [← hE'] at cS hkp
          have HY : Hid (E'.st = true → wb ms'.length fx E'.ad 1 = true) := (fun h => (hkp.yes h).2.1)
          have HE' : Hid (E' = stepE xs ms' fx E.R E.pc) := hE'
          unfold Ef.v at cS
          clear hE' hzz h2 hkp
          go_upto_region 9 with (first
            | (refine wg_load25 _ rfl rfl w4.heap.size 0 E.R rfl RE ?_)
            | (go_at_call 12; refine cS.mono ?_; rintro ex w3' ⟨rfl, b3⟩; have RS3 : Hid (Rl w4 (w3'.setRow w4.heap.size (effC E'.R E'.pc E'.st E'.ad E'.va E'.fa E'.ca)) (some ⟨go, 0, none⟩) mn c7 E' ms') := HRL.out.step b3; have heff := (b3.block _ (heap_lt HRL.out.eff)).trans HRL.out.eff)
            | (refine wl_store27 _ _ rfl rfl E'.R E'.pc E'.st E'.ad E'.va E'.fa E'.ca w4.heap.size _ rfl rfl heff rfl ?_))
          generalize w3'.setRow w4.heap.size (effC E'.R E'.pc E'.st E'.ad E'.va E'.fa E'.ca) = w8 at RS3 ⊢
          clear heff cS RE e16 e17 e18 e19 e20 e21 b3 m0 m1 mf m19
          obtain ⟨e16, e17, e18, e19, e20, e21, _⟩ := c21 RS3.out.eff
          have hstR : Hid (stR xs fx (E, ms') = (E', if E'.st = true then wrX ms' fx E'.ad [E'.va] else ms')) := (show _ = _ by unfold stR; dsimp only; rw [← HE'.out])
          cases hst : E'.st with
          | false =>
            rw [hst] at e17
            have hs2 : Hid (stR xs fx (E, ms') = (E', ms')) := (show _ = _ by rw [hstR.out, hst]; rfl)
            go_wp2
            go_roundw
            case rel => exact ⟨j + 1, E', ms', by go_num, by omega, RS3.out, by have := HINV.out.go (by omega) hon.out; rw [hs2.out] at this; exact this⟩
            case measure => simp [intOf]; omega
          | true =>
            rw [hst] at e17
            have hwb := HY.out hst
            have hwb2 := hwb
            unfold wb at hwb2
            rw [Bool.and_eq_true, wi_iff, RS3.out.len] at hwb2
            obtain ⟨d, hd⟩ : ∃ d : Nat, E'.ad = d := ⟨E'.ad.toNat, by omega⟩
            have hdn : d < mn := by omega
            have hs2 : Hid (stR xs fx (E, ms') = (E', ms'.set d E'.va)) := (show _ = _ by rw [hstR.out, hst, if_pos rfl, wrX_set hwb, hd, Int.toNat_natCast])
            rw [hd] at e18
            have hcd := RS3.out.mm.at_ (g := go) rfl (i := d) (by rw [RS3.out.len]; exact hdn)
            unfold iv at hcd
            have hfd := RS3.out.mm.fz (g := go) rfl d
            have RS4 : Hid (Rl w4 (w8.setCell ⟨go, d, none⟩ (.int .i64 E'.va)) (some ⟨go, 0, none⟩) mn c7 E' (ms'.set d E'.va)) := RS3.out.setw hdn E'.va
            clear hwb hwb2 hd
            go_wp2
            go_roundw
            case rel => exact ⟨j + 1, E', ms'.set d E'.va, by go_num, by omega, RS4.out, by have := HINV.out.go (by omega) hon.out; rw [hs2.out] at this; exact this⟩
            case measure => simp [intOf]; omega
        | false =>
          have hfin := HFIN.out (by
            rcases Bool.and_eq_false_iff.1 hT with h | h
            · exact .inl (by have := of_decide_eq_false h; omega)
            · exact .inr h)
          clear hT
          injection hfin with hf1 hf2
          injection hf1 with hf1 hf3
          subst hf1 hf2 hf3
          have hq7 := heap_lt HE4.out
          have HE7 : wr.heap[q7]? = some (.cells (effC Re pce ste ade vae fae cae) 27) := (HRL.out.bel.block _ hq7).trans HE4.out
          have HE10 : wr.heap[w4.heap.size]? = some (.cells (effC Re pce ste ade vae fae cae) 27) := HRL.out.eff
          have ZM := HZ4.out.kept (Kept.of_below (F := No) HRL.out.bel) (fun _ _ h => h)
          obtain ⟨az, cz, hvz, ZO⟩ := HRL.out.mm.zs
          rw [HRL.out.len] at hvz ZO
          injection hvz with h1 h2 h3
          subst h1 h3
          have cSame := same_any _ _ a3 (some ⟨go, 0, none⟩) mn mn c3 c7 me me wr ZM ZO
          rw [decide_eq_true rfl] at cSame
          have EQ := eqE_self ⟨Re, pce, ste, ade, vae, fae, cae⟩
          dsimp only at EQ
          have ZM : Hid (Zs wr (fun g => w2.heap.size ≤ g) a3 mn c3 me) := ZM
          clear ZO h2 e16 e17 e18 e19 e20 e21 RE HINV HFIN m0 m1 mf m19 HRL0
          go_upto_region 16 with (first
            | (refine wl_load27 _ rfl rfl Re pce ste ade vae fae cae q7 rfl HE7 ?_)
            | (refine wl_load27 _ rfl rfl Re pce ste ade vae fae cae w4.heap.size rfl HE10 ?_)
            | (refine wg_neq27 _ _ _ rfl rfl Re pce ste ade vae fae cae Re pce ste ade vae fae cae rfl rfl ?_; rw [EQ])
            | (go_at_call 18; refine cSame.mono ?_; rintro ex wb ⟨rfl, kq, hwb0⟩; have hwb : Hid (wb = wr.drewN kq) := hwb0; clear hwb0))
          have Bb : Below W.heap.size W wb := by rw [hwb.out]; exact below_drewN BWr.out kq
          have HMb : wb.heap[W.heap.size]? = some (.cells (macC (.slice p n cc) (.slice m mn mc) fx R pc) 36) := by rw [hwb.out]; exact HMr.out
          have HEb : Hid (wb.heap[q7]? = some (.cells (effC Re pce ste ade vae fae cae) 27)) := (show _ = _ by rw [hwb.out]; exact HE7)
          have ZMb : Hid (Zs wb (fun g => w2.heap.size ≤ g) a3 mn c3 me) := (show Zs _ _ _ _ _ _ by rw [hwb.out]; exact ZM.out.drewN kq)
          have hlwb := heap_lt HMb
          have hq7b := heap_lt HEb.out
          clear hwb HE7 HE10 ZM cSame HRL HMr BWr HZ4 HE4 HM4 B4 hlw4 hq7
          obtain ⟨ra, hra⟩ : ∃ ra, ra = runN xs fx (f : Int).toNat (⟨R, pc, false, 0, 0, 0, 0⟩, ms) := ⟨_, rfl⟩
          have HRA : Hid (ra = runN xs fx f (⟨R, pc, false, 0, 0, 0, 0⟩, ms)) := (show _ = _ by rw [hra, Int.toNat_natCast])
          have HADD := runN_add xs fx f s (⟨R, pc, false, 0, 0, 0, 0⟩, ms)
          rw [← HR.out, ← HRA.out] at HADD
          have hka := runN_le xs fx f (⟨R, pc, false, 0, 0, 0, 0⟩, ms)
          rw [← HRA.out] at hka
          have hml := runN_length xs fx f (⟨R, pc, false, 0, 0, 0, 0⟩, ms)
          rw [← HRA.out] at hml
          have CSb : Hid (Cs wb F p n cc xs) := HC.out.kept (Kept.of_below (F := No) Bb) (fun _ _ h => h)
          have OPb : Hid (Ops wb) := HOO.out.below Bb HOO.out.pos
          have cR := run_zs F G R p m n cc mn mc fx pc (f : Int) xs ms wb CSb.out (HZ.out.kept (Kept.of_below (F := No) Bb) (fun _ _ h => h)) OPb.out hmn (by omega) ra hra
          clear hra
          obtain ⟨⟨⟨Ra, pca, sta, ada, vaa, faa, caa⟩, ma⟩, ka⟩ := ra
          dsimp only at cR HADD hka hml
          have HADD : Hid ((((⟨Re, pce, ste, ade, vae, fae, cae⟩, me), ke) : (Ef × List Int) × Nat) = if onR (⟨Ra, pca, sta, ada, vaa, faa, caa⟩, ma) = true then ((runN xs fx s (⟨Ra, pca, sta, ada, vaa, faa, caa⟩, ma)).1, ka + (runN xs fx s (⟨Ra, pca, sta, ada, vaa, faa, caa⟩, ma)).2) else ((⟨Ra, pca, sta, ada, vaa, faa, caa⟩, ma), ka)) := HADD
          have HML : Hid (ma.length = mn) := (show _ = _ by rw [hml]; exact HZ.out.len)
          obtain ⟨m0, m1, mf, m19⟩ := mac_cells HMb
          have RM := range_mac HMb
          have Bbh : Hid (Below W.heap.size W wb) := Bb
          have HMbh : Hid (wb.heap[W.heap.size]? = some (.cells (macC (.slice p n cc) (.slice m mn mc) fx R pc) 36)) := HMb
          clear hml Bb HMb HR HRA
          go_upto_region 17 with (first
            | (refine wg_load25 _ rfl rfl W.heap.size 3 R rfl RM ?_)
            | (go_at_call 17; refine cR.mono ?_; rintro ex w10 ⟨a10, c10, rfl, hz10, b10⟩)
            | (refine wl_alloc27 rfl rfl ?_)
            | (refine wl_store27 _ _ rfl rfl Ra pca sta ada vaa faa caa _ _ rfl rfl (heap_alloc_last _ _) rfl ?_; rw [new_store]))
          have hzc10 := hz10.cap
          have hzm10 := hz10.max
          have B11 : Hid (Below wb.heap.size wb (w10.alloc (.cells (effC Ra pca sta ada vaa faa caa) 27))) := b10.alloc b10.size _
          have HE13 : (w10.alloc (.cells (effC Ra pca sta ada vaa faa caa) 27)).heap[w10.heap.size]? = some (.cells (effC Ra pca sta ada vaa faa caa) 27) := heap_alloc_last _ _
          have ZH : Hid (Zs (w10.alloc (.cells (effC Ra pca sta ada vaa faa caa) 27)) (fun g => wb.heap.size ≤ g) a10 mn c10 ma) := hz10.kept ((Kept.refl No w10).alloc _) (fun _ _ h => h)
          clear m0 m1 mf m19 RM cR b10 hz10
          generalize w10.alloc (.cells (effC Ra pca sta ada vaa faa caa) 27) = w11 at B11 HE13 ZH ⊢
          generalize w10.heap.size = q13 at HE13 ⊢
          have HE7 : w11.heap[q7]? = some (.cells (effC Re pce ste ade vae fae cae) 27) := (B11.out.block _ hq7b).trans HEb.out
          have ZM11 : Hid (Zs w11 (fun g => w2.heap.size ≤ g) a3 mn c3 me) := ZMb.out.kept (Kept.of_below (F := No) B11.out) (fun _ _ h => h)
          have BW11 : Hid (Below W.heap.size W w11) := Bbh.out.trans (B11.out.mono Bbh.out.size)
          have HM11 : w11.heap[W.heap.size]? = some (.cells (macC (.slice p n cc) (.slice m mn mc) fx R pc) 36) := (B11.out.block _ hlwb).trans HMbh.out
          have CS11 : Hid (Cs w11 F p n cc xs) := CSb.out.kept (Kept.of_below (F := No) B11.out) (fun _ _ h => h)
          have OP11 : Hid (Ops w11) := OPb.out.below B11.out OPb.out.pos
          clear HEb ZMb B11 CSb OPb HMbh Bbh hq7b hlwb
          try simp only [Act.put, List.setIfInBounds_toArray, List.set_cons_zero, List.set_cons_succ]
          have e13 := c21 HE13
          by_cases hon : faa = 0 ∧ caa = 0
          · obtain ⟨rfl, rfl⟩ := hon
            have hADD := HADD.out
            rw [if_pos (show onR (⟨Ra, pca, sta, ada, vaa, 0, 0⟩, ma) = true from rfl)] at hADD
            obtain ⟨rb, hrb⟩ : ∃ rb, rb = runN xs fx (s : Int).toNat (⟨Ra, pca, false, 0, 0, 0, 0⟩, ma) := ⟨_, rfl⟩
            have hrs := runN_rst xs fx s (⟨Ra, pca, sta, ada, vaa, 0, 0⟩, ma) rfl
            have hkb := runN_le xs fx s (⟨Ra, pca, sta, ada, vaa, 0, 0⟩, ma)
            have cR3 := run_zs F (fun g => wb.heap.size ≤ g) Ra p a10 n cc mn c10 fx pca (s : Int) xs ma w11 CS11.out ZH.out OP11.out hmn (by omega) rb hrb
            rw [show rst (⟨Ra, pca, sta, ada, vaa, 0, 0⟩, ma) = (⟨Ra, pca, false, 0, 0, 0, 0⟩, ma) from rfl] at hrs
            rw [Int.toNat_natCast] at hrb
            rw [← hrb] at hrs
            clear hrb
            generalize runN xs fx s (⟨Ra, pca, sta, ada, vaa, 0, 0⟩, ma) = rc at hADD hrs hkb
            obtain ⟨⟨⟨Rb, pcb, stb, adb, vab, fab, cab⟩, mb⟩, kb⟩ := rb
            obtain ⟨⟨⟨Rc, pcc, stc, adc, vac, fac, cac⟩, mcc⟩, kc⟩ := rc
            dsimp only at hADD hrs hkb cR3
            obtain ⟨rfl, rfl, rfl, rfl, rfl, rfl⟩ := hrs
            injection hADD with hA1 hA2
            injection hA1 with hA1 hA3
            injection hA1 with hB1 hB2 hB3 hB4 hB5 hB6 hB7
            subst hB1 hB2 hB3 hB4 hB5 hB6 hB7 hA3 hA2
            obtain ⟨e16, e17, e18, e19, e20, e21, _⟩ := e13
            obtain ⟨m0, m1, mf, m19⟩ := mac_cells HM11
            have RE13 := range_eff HE13
            have HE7h : Hid (w11.heap[q7]? = some (.cells (effC Re pce ste ade vae fae cae) 27)) := HE7
            clear HADD HM11 HE13 HE7
            go_upto_region 20 with (first
              | (refine wg_load25 _ rfl rfl q13 0 Ra rfl RE13 ?_)
              | (go_at_call 17; refine cR3.mono ?_; rintro ex w12 ⟨a12, c12, rfl, hz12, b12⟩)
              | (refine wl_alloc27 rfl rfl ?_)
              | (refine wl_store27 _ _ rfl rfl Re pce stb adb vab fae cae _ _ rfl rfl (heap_alloc_last _ _) rfl ?_; rw [new_store]))
            have hzc12 := hz12.cap
            have hzm12 := hz12.max
            have B13 : Below w11.heap.size w11 (w12.alloc (.cells (effC Re pce stb adb vab fae cae) 27)) := b12.alloc b12.size _
            have HE16 : (w12.alloc (.cells (effC Re pce stb adb vab fae cae) 27)).heap[w12.heap.size]? = some (.cells (effC Re pce stb adb vab fae cae) 27) := heap_alloc_last _ _
            have Z12 : Zs (w12.alloc (.cells (effC Re pce stb adb vab fae cae) 27)) (fun g => w11.heap.size ≤ g) a12 mn c12 me := hz12.kept ((Kept.refl No w12).alloc _) (fun _ _ h => h)
            clear cR3 b12 hz12 e16 e17 e18 e19 e20 e21 m0 m1 mf m19 RE13
            generalize w12.alloc (.cells (effC Re pce stb adb vab fae cae) 27) = w13 at B13 HE16 Z12 ⊢
            generalize w12.heap.size = q16 at HE16 ⊢
            have HE7 := (B13.block _ (heap_lt HE7h.out)).trans HE7h.out
            have cSame := same_any _ _ a12 a3 mn mn c12 c3 me me w13 Z12 (ZM11.out.kept (Kept.of_below (F := No) B13) (fun _ _ h => h))
            rw [decide_eq_true rfl] at cSame
            obtain ⟨e16, e17, e18, e19, e20, e21, _⟩ := c21 HE16
            obtain ⟨f16, f17, f18, f19, f20, f21, _⟩ := c21 HE7
            have R16 := range_eff HE16
            have R7 := range_eff HE7
            have EQR := eqR_self Re
            have BW13 : Hid (Below W.heap.size W w13) := BW11.out.trans (B13.mono BW11.out.size)
            clear Z12 B13 HE16 HE7 ZM11 HE7h CS11 OP11 EQ
            go_wp2_with (first
              | (go_at_call 18; refine cSame.mono ?_; rintro ex we ⟨rfl, ke2, hwe⟩; obtain rfl := hwe)
              | (refine wg_load25 _ rfl rfl q16 0 Re rfl (range_drewN R16) ?_)
              | (refine wg_load25 _ rfl rfl q7 0 Re rfl (range_drewN R7) ?_)
              | (refine wg_eq25 _ _ _ rfl rfl Re Re rfl rfl ?_; rw [EQR]))
            go_ret
            exact ⟨rfl, below_drewN BW13.out _⟩
          · have hADD := HADD.out
            rw [if_neg (by unfold onR; simp; omega)] at hADD
            injection hADD with hA1 hA2
            injection hA1 with hA1 hA3
            injection hA1 with hB1 hB2 hB3 hB4 hB5 hB6 hB7
            subst hB1 hB2 hB3 hB4 hB5 hB6 hB7 hA3 hA2
            obtain ⟨e16, e17, e18, e19, e20, e21, _⟩ := e13
            have cSame := same_any _ _ a10 a3 mn mn c10 c3 me me w11 ZH.out ZM11.out
            rw [decide_eq_true rfl] at cSame
            clear HADD CS11 OP11 ZH ZM11 HM11
            by_cases hfa : fae = 0
            · have g1 : (fae != 0) = false := by simpa using hfa
              have g2 : (cae != 0) = true := by simp; omega
              clear hon hfa
              go_wp2_with (first
                | (refine wl_load27 _ rfl rfl Re pce ste ade vae fae cae q13 rfl HE13 ?_)
                | (refine wl_load27 _ rfl rfl Re pce ste ade vae fae cae q7 rfl HE7 ?_)
                | (refine wg_eq27 _ _ _ rfl rfl Re pce ste ade vae fae cae Re pce ste ade vae fae cae rfl rfl ?_; rw [EQ])
                | (go_at_call 18; refine cSame.mono ?_; rintro ex we ⟨rfl, ke2, hwe⟩; obtain rfl := hwe))
              go_ret
              exact ⟨rfl, below_drewN BW11.out _⟩
            · have g1 : (fae != 0) = true := by simpa using hfa
              clear hon hfa
              go_wp2_with (first
                | (refine wl_load27 _ rfl rfl Re pce ste ade vae fae cae q13 rfl HE13 ?_)
                | (refine wl_load27 _ rfl rfl Re pce ste ade vae fae cae q7 rfl HE7 ?_)
                | (refine wg_eq27 _ _ _ rfl rfl Re pce ste ade vae fae cae Re pce ste ade vae fae cae rfl rfl ?_; rw [EQ])
                | (go_at_call 18; refine cSame.mono ?_; rintro ex we ⟨rfl, ke2, hwe⟩; obtain rfl := hwe))
              go_ret
              exact ⟨rfl, below_drewN BW11.out _⟩

theorem ris_walk (F G : Nat → Prop) (p m : Option Addr) (n cc mn mc : Nat) (fx : Int) (R : Nat → Int) (pc f s : Int) (xs : List Ins) (ms : List Int) (W : World) (hc : Cs W F p n cc xs) (hz : Zs W G m mn mc ms) (hO : Ops W) (hmn : mn ≤ 17592186043904) :
    Calls Tryd.prog 7 #[macV (.slice p n cc) (.slice m mn mc) fx R pc, .int .i64 f, .int .i64 s] W fun ex w' => ex = .returned (.bool true) ∧ Below W.heap.size W w' := by
  by_cases h : f < 0 ∨ s < 0 ∨ f > 3000 ∨ s > 3000
  · exact ris_bad p m n cc mn mc fx R pc f s W hO h
  · obtain ⟨f, rfl⟩ : ∃ k : Nat, f = k := ⟨f.toNat, by omega⟩
    obtain ⟨s, rfl⟩ : ∃ k : Nat, s = k := ⟨s.toNat, by omega⟩
    exact ris_ok F G p m n cc mn mc fx R pc f s xs ms W hc hz hO hmn (by omega) (by omega)

end Go.Proofs.YtijeaonldhccmaaDoor
