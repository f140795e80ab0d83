/-
  'CpuHangs'.
-/
import Derived.Test.YtijeaonldhccmaaDoorMac
import Derived.Test.YtijeaonldhccmaaDoorHangsP
import Derived.Test.YtijeaonldhccmaaDoorQuiets
import Derived.Deep.DeepCutAuto
import Derived.Deep.CutBlock
import Derived.BigQuiet
import Derived.Deep.QuietTactic
import Derived.Deep.RegionHeld
import Derived.WalkSmall
namespace Go.Proofs.YtijeaonldhccmaaDoor
open Go.RowKit
set_option linter.unusedVariables false

theorem Here.below {B : Nat} {w w' : World} {p : Option Addr} {i : Nat} {o a b c N : Int} (h : Here w p i o a b c N) (hb : Below B w w') (hB : w.heap.size ≤ B) : Here w' p i o a b c N := by
  obtain ⟨cb, co, rfl, h0, h1, h2, h3, h4⟩ := h
  have hl := Nat.lt_of_lt_of_le (cell_lt h0) hB
  exact ⟨cb, co, rfl, (hb.cell (p := ⟨cb, co + i * 5, none⟩) hl).trans h0, (hb.cell (p := ⟨cb, co + i * 5 + 1, none⟩) hl).trans h1, (hb.cell (p := ⟨cb, co + i * 5 + 2, none⟩) hl).trans h2, (hb.cell (p := ⟨cb, co + i * 5 + 3, none⟩) hl).trans h3, (hb.cell (p := ⟨cb, co + i * 5 + 4, none⟩) hl).trans h4⟩
def rdB (xs : List Ins) (pc : Int) : Bool := decide (0 ≤ pc ∧ pc < xs.length ∧ (xs.getD pc.toNat ins0).o = 5 ∧ (xs.getD pc.toNat ins0).b < 16)
theorem rdA_yes {xs : List Ins} {R : Nat → Int} {pc : Int} (h : rdB xs pc = true) : rdA xs R pc = wrap64 (R (xs.getD pc.toNat ins0).b + (xs.getD pc.toNat ins0).n) := by
  unfold rdB at h; unfold rdA; rw [if_pos (of_decide_eq_true h)]
theorem rdA_no {xs : List Ins} {R : Nat → Int} {pc : Int} (h : rdB xs pc = false) : rdA xs R pc = -1 := by
  unfold rdB at h; unfold rdA; rw [if_neg (of_decide_eq_false h)]
theorem eq_run (V : Ef) : (∀ w0, (binOp .eql 27 V.v V.v).run Tryd.prog w0 = .ok (.bool true) w0) ∧ ∀ x y w0, (eqGuard .eql 27 x y V.v V.v).run Tryd.prog w0 = .ok () w0 := by
  obtain ⟨R, pc, st, ad, va, fa, ca⟩ := V
  refine ⟨fun w0 => ?_, fun x y w0 => run_eqGuard_agg w0 .eql 27 x y _ _ (by kernel_rfl)⟩
  rw [ef_v, run_eq27]
  have : eqE R pc st ad va fa ca R pc st ad va fa ca = true := by unfold eqE; rw [eqR_self]; simp
  rw [this]

set_option maxHeartbeats 4000000 in
set_option maxRecDepth 100000 in
theorem hangs_walk (F G F2 G2 : Nat → Prop) (p m p2 m2 : Option Addr) (n cc mn mc n2 c2 mn2 mc2 : Nat) (fx : Int) (R : Nat → Int) (pc : Int) (xs ys : List Ins) (ms zs : List Int) (W : World) (hc : Cs W F p n cc xs) (hz : Zs W G m mn mc ms) (hc2 : Cs W F2 p2 n2 c2 ys) (hz2 : Zs W G2 m2 mn2 mc2 zs) (hO : Ops W) (hn : n ≤ 17592186043904) (hmn : mn ≤ 17592186043904) :
    Calls Tryd.prog 5 #[macV (.slice p n cc) (.slice m mn mc) fx R pc, .slice p2 n2 c2, .slice m2 mn2 mc2] W fun ex w' => ex = .returned (.bool true) ∧ Below W.heap.size W w' := by
  obtain ⟨i0, hi, hz0, hz1, hz2'⟩ := info_parts infoI
  obtain ⟨j0, hj, hw0, hw1, hw2'⟩ := info_parts infoW
  have HOO : Hid (Ops W) := hO
  have HC : Hid (Cs W F p n cc xs) := hc
  have HC2 : Hid (Cs W F2 p2 n2 c2 ys) := hc2
  have HZ : Hid (Zs W G m mn mc ms) := hz
  have HZ2 : Hid (Zs W G2 m2 mn2 mc2 zs) := hz2
  have hcap := hc.cap
  have hmax := hc.max
  have hcap2 := hc2.cap
  have hmax2 := hc2.max
  have hzcap := hz.cap
  have hzmax := hz.max
  have hzcap2 := hz2.cap
  have hzmax2 := hz2.max
  have H1 := heap_alloc_last W (.cells (macC (.slice p n cc) (.slice m mn mc) fx R pc) 36)
  have B1 := (Below.refl _ W).alloc (Nat.le_refl _) (.cells (macC (.slice p n cc) (.slice m mn mc) fx R pc) 36)
  clear hO hc hc2 hz hz2
  go_enter Tryd.func5, Tryd.ntmps5
  go_upto_region 1 with (refine wl_box36 _ rfl rfl (.slice p n cc) (.slice m mn mc) fx R pc rfl ?_)
  generalize W.alloc (.cells (macC (.slice p n cc) (.slice m mn mc) fx R pc) 36) = w1 at H1 B1 ⊢
  have cK := known_yes w1 (HOO.out.below B1 HOO.out.pos)
  go_upto_region 3 with (go_at_call 11; refine cK.mono ?_; rintro ex w2 ⟨rfl, b2⟩)
  have B2 : Hid (Below W.heap.size W w2) := B1.trans (b2.mono B1.size)
  have H2 : Hid (w2.heap[W.heap.size]? = some (.cells (macC (.slice p n cc) (.slice m mn mc) fx R pc) 36)) := (b2.block _ (heap_lt H1)).trans H1
  have HO2 : Hid (Ops w2) := HOO.out.below B2.out HOO.out.pos
  have hwl : W.heap.size < w2.heap.size := heap_lt H2.out
  have HC := HC.out.kept (Kept.of_below (F := No) B2.out) (fun _ _ h => h)
  have HC2 := HC2.out.kept (Kept.of_below (F := No) B2.out) (fun _ _ h => h)
  have HZ := HZ.out.kept (Kept.of_below (F := No) B2.out) (fun _ _ h => h)
  have HZ2 := HZ2.out.kept (Kept.of_below (F := No) B2.out) (fun _ _ h => h)
  have HC : Hid (Cs w2 F p n cc xs) := HC
  have HC2 : Hid (Cs w2 F2 p2 n2 c2 ys) := HC2
  have HZ : Hid (Zs w2 G m mn mc ms) := HZ
  have HZ2 : Hid (Zs w2 G2 m2 mn2 mc2 zs) := HZ2
  clear cK b2 H1 B1
  go_wp2
  go_loopw [7, 8] (fun l i wr => ∃ k : Nat, k ≤ n ∧ i = .int .i64 k ∧ wr.ownsRow w2.heap.size 30 5 l k (icL (mixC xs ys pc k)) ∧ Below w2.heap.size w2 wr) (fun _ i _ => n - (intOf i).toNat)
  case atStart => exact ⟨0, by omega, rfl, World.ownsRow_nil _ _ _ _, Below.refl _ _⟩
  case round =>
    obtain ⟨k, hk, rfl, hown, hbel⟩ := hrel
    have HOW : Hid (wr.ownsRow w2.heap.size 30 5 u7 k (icL (mixC xs ys pc k))) := hown
    have hs := hbel.size
    have HBE : Hid (Below w2.heap.size w2 wr) := hbel
    have HM := (hbel.block _ hwl).trans H2.out
    obtain ⟨m0, m1, mf, m19⟩ := mac_cells HM
    clear HM
    by_cases hlt : k < n
    · clear hown hbel
      by_cases hy : (k : Int) ≠ pc ∧ k < n2
      · obtain ⟨hy1, hy2⟩ := hy
        have g1 : ((k : Int) != pc) = true := by simpa using hy1
        have hx : Hid (mixI xs ys pc k = ys.getD k ins0) := (show mixI xs ys pc k = ys.getD k ins0 by unfold mixI; rw [if_pos ⟨hy1, by rw [HC2.out.len]; exact hy2⟩])
        obtain ⟨cb, co, rfl, d0, d1, d2, d3, d4⟩ := (HC2.out.at5 hy2).below HBE.out (Nat.le_refl _)
        generalize ys.getD k ins0 = x at hx d0 d1 d2 d3 d4
        clear hy1
        go_wp2_with (at_builtin; refine wpList_append_own _ rfl _ _ 31 rfl w2.heap.size 30 i0 _ 5 8 Tryd.underlying31 hi hz0 hz1 hz2' rfl (by decide) _ _ _ rfl (HOW.out.alloc _) ⟨wr.heap.size, 0, none⟩ 1 1 (ic x) rfl rfl (new_five _ _) (ic_one _) (by unfold maxLen; omega) (by omega) (by simp; omega) ?_; intro v1 w3 own1 grow1 _)
        have hb1 : Below w2.heap.size w2 w3 := (HBE.out.alloc hs _).grown grow1 (by simp; omega) (fun k hk => (HOW.out.lt k hk).1)
        have own2 : w3.ownsRow w2.heap.size 30 5 v1 (k + 1) (icL (mixC xs ys pc (k + 1))) := by
          rw [mixC_succ, icL_append, icL_one, hx.out]; exact own1
        clear grow1 own1
        go_wp2
        go_roundw
        case rel => exact ⟨k + 1, by omega, by go_num, own2, hb1⟩
        case measure => simp [intOf]; omega
      · have hx : Hid (mixI xs ys pc k = xs.getD k ins0) := (show mixI xs ys pc k = xs.getD k ins0 by unfold mixI; rw [if_neg (by rw [HC2.out.len]; exact hy)])
        obtain ⟨cb, co, rfl, d0, d1, d2, d3, d4⟩ := (HC.out.at5 hlt).below HBE.out (Nat.le_refl _)
        generalize xs.getD k ins0 = x at hx d0 d1 d2 d3 d4
        by_cases hkp : (k : Int) = pc
        · have g1 : ((k : Int) != pc) = false := by simpa using hkp
          clear hy hkp
          go_wp2_with (at_builtin; refine wpList_append_own _ rfl _ _ 31 rfl w2.heap.size 30 i0 _ 5 8 Tryd.underlying31 hi hz0 hz1 hz2' rfl (by decide) _ _ _ rfl (HOW.out.alloc _) ⟨wr.heap.size, 0, none⟩ 1 1 (ic x) rfl rfl (new_five _ _) (ic_one _) (by unfold maxLen; omega) (by omega) (by simp; omega) ?_; intro v1 w3 own1 grow1 _)
          have hb1 : Below w2.heap.size w2 w3 := (HBE.out.alloc hs _).grown grow1 (by simp; omega) (fun k hk => (HOW.out.lt k hk).1)
          have own2 : w3.ownsRow w2.heap.size 30 5 v1 (k + 1) (icL (mixC xs ys pc (k + 1))) := by
            rw [mixC_succ, icL_append, icL_one, hx.out]; exact own1
          clear grow1 own1
          go_wp2
          go_roundw
          case rel => exact ⟨k + 1, by omega, by go_num, own2, hb1⟩
          case measure => simp [intOf]; omega
        · have g1 : ((k : Int) != pc) = true := by simpa using hkp
          have g2 : ¬ k < n2 := fun h => hy ⟨hkp, h⟩
          clear hy hkp
          go_wp2_with (at_builtin; refine wpList_append_own _ rfl _ _ 31 rfl w2.heap.size 30 i0 _ 5 8 Tryd.underlying31 hi hz0 hz1 hz2' rfl (by decide) _ _ _ rfl (HOW.out.alloc _) ⟨wr.heap.size, 0, none⟩ 1 1 (ic x) rfl rfl (new_five _ _) (ic_one _) (by unfold maxLen; omega) (by omega) (by simp; omega) ?_; intro v1 w3 own1 grow1 _)
          have hb1 : Below w2.heap.size w2 w3 := (HBE.out.alloc hs _).grown grow1 (by simp; omega) (fun k hk => (HOW.out.lt k hk).1)
          have own2 : w3.ownsRow w2.heap.size 30 5 v1 (k + 1) (icL (mixC xs ys pc (k + 1))) := by
            rw [mixC_succ, icL_append, icL_one, hx.out]; exact own1
          clear grow1 own1
          go_wp2
          go_roundw
          case rel => exact ⟨k + 1, by omega, by go_num, own2, hb1⟩
          case measure => simp [intOf]; omega
    · have hkn : k = n := by omega
      subst hkn
      clear hown
      have HST : Hid (stepE (mixC xs ys pc xs.length) (mixW ms zs (rdA xs R pc) ms.length) fx R pc = stepE xs ms fx R pc) := stepE_mix xs ys ms zs fx R pc
      obtain ⟨a1, c1, hv1, hcs1⟩ := Cs.of_owns (by rw [mixC_length]; exact HOW.out) (mixC_ok (fun i hi => HC.out.okAt (by rw [← HC.out.len]; exact hi)) (fun i hi => HC2.out.okAt (by rw [← HC2.out.len]; exact hi)) k (by rw [HC.out.len]; exact Nat.le_refl _))
      rw [mixC_length] at hv1 hcs1
      subst hv1
      have hcap1 := hcs1.cap
      have hmax1 := hcs1.max
      have HC1 : Hid (Cs wr (fun g => (Value.slice a1 k c1).ownBlock = some g) a1 k c1 (mixC xs ys pc k)) := hcs1
      have HMR : Hid (wr.heap[W.heap.size]? = some (.cells (macC (.slice p k cc) (.slice m mn mc) fx R pc) 36)) := (hbel.block _ hwl).trans H2.out
      have HTB : Hid (rdB xs pc = decide (0 ≤ pc ∧ pc < k ∧ (xs.getD pc.toNat ins0).o = 5 ∧ (xs.getD pc.toNat ins0).b < 16)) := (show rdB xs pc = _ by unfold rdB; rw [HC.out.len])
      clear hcs1 hbel
      go_upto_region 11 with fail
      go_cut [76] (fun t wx => t = .bool (rdB xs pc) ∧ wx = wr)
      case first =>
        by_cases h1 : 0 ≤ pc
        · by_cases h2 : pc < k
          · obtain ⟨kp, rfl⟩ : ∃ kp : Nat, pc = kp := ⟨pc.toNat, by omega⟩
            have hkp : kp < k := by omega
            obtain ⟨cb, co, rfl, d0, d1, d2, d3, d4⟩ := (HC.out.at5 hkp).below HBE.out (Nat.le_refl _)
            obtain ⟨q0, q1, q2, q3, q4⟩ := HC.out.okAt hkp
            have HTB2 := HTB.out
            rw [Int.toNat_natCast] at HTB2
            generalize xs.getD kp ins0 = x at HTB2 d0 d1 d2 d3 d4 q0 q1 q2 q3 q4
            by_cases h5 : x.o = 5
            · have g5 : ((x.o : Int) == 5) = true := by simp; omega
              by_cases h16 : x.b < 16
              · have HT : Hid (rdB xs kp = true) := (show rdB xs kp = true by rw [HTB2]; simp [hkp, h5, h16])
                have g16 : decide ((x.b : Int) < 16) = true := by simp; omega
                clear HTB2 h5
                go_wp2
                go_meet
                case rel => exact ⟨by rw [HT.out], rfl⟩
              · have HT : Hid (rdB xs kp = false) := (show rdB xs kp = false by rw [HTB2]; simp [hkp, h5, h16])
                have g16 : decide ((x.b : Int) < 16) = false := by simp; omega
                clear HTB2 h5
                go_wp2
                go_meet
                case rel => exact ⟨by rw [HT.out], rfl⟩
            · have HT : Hid (rdB xs kp = false) := (show rdB xs kp = false by rw [HTB2]; simp [h5])
              have g5 : ((x.o : Int) == 5) = false := by simp; omega
              clear HTB2 h5
              go_wp2
              go_meet
              case rel => exact ⟨by rw [HT.out], rfl⟩
          · have HT : Hid (rdB xs pc = false) := (show rdB xs pc = false by rw [HTB.out]; simp [h2])
            go_wp2
            go_meet
            case rel => exact ⟨by rw [HT.out], rfl⟩
        · have HT : Hid (rdB xs pc = false) := (show rdB xs pc = false by rw [HTB.out]; simp [h1])
          go_wp2
          go_meet
          case rel => exact ⟨by rw [HT.out], rfl⟩
      case rest =>
        obtain ⟨rfl, hw⟩ := hcut
        obtain rfl := hw.symm
        go_upto_if 76 with fail
        go_cut [9] (fun r wx => r = .int .i64 (rdA xs R pc) ∧ ∃ qn, wx = wr.drewN qn)
        case first =>
          cases hB : rdB xs pc with
          | false =>
            have HT : Hid (rdA xs R pc = -1) := rdA_no hB
            go_wp2
            go_meet
            case rel => exact ⟨by rw [HT.out], 0, rfl⟩
          | true =>
            have HT : Hid (rdA xs R pc = wrap64 (R (xs.getD pc.toNat ins0).b + (xs.getD pc.toNat ins0).n)) := rdA_yes hB
            unfold rdB at hB
            have hB2 := of_decide_eq_true hB
            rw [HC.out.len] at hB2
            obtain ⟨h1, h2, h5, h16⟩ := hB2
            obtain ⟨kp, rfl⟩ : ∃ kp : Nat, pc = kp := ⟨pc.toNat, by omega⟩
            have hkp : kp < k := by omega
            obtain ⟨cb, co, rfl, d0, d1, d2, d3, d4⟩ := (HC.out.at5 hkp).below HBE.out (Nat.le_refl _)
            obtain ⟨q0, q1, q2, q3, q4⟩ := HC.out.okAt hkp
            have HT := HT.out
            rw [Int.toNat_natCast] at HT h5 h16
            generalize xs.getD kp ins0 = x at HT d0 d1 d2 d3 d4 q0 q1 q2 q3 q4 h5 h16
            have HT : Hid (rdA xs R kp = wrap64 (R x.b + x.n)) := HT
            have rb := mac_reg HMR.out h16
            have hNi : IntKind.i64.wrap x.n = x.n := by rw [w64i, w6_id]; unfold I6; omega
            have hNi2 : wrap64 x.n = x.n := by rw [w6_id]; unfold I6; omega
            clear hB h5
            go_wp2
            go_quiet (fail)
            go_wp2
            go_meet
            case rel => exact ⟨by rw [HT.out], _, rfl⟩
        case rest =>
          obtain ⟨rfl, qn, hw2⟩ := hcut
          have B4 : Hid (Below w2.heap.size w2 wc) := (show Below w2.heap.size w2 wc by rw [hw2]; exact below_drewN HBE.out qn)
          have HM4 : Hid (wc.heap[W.heap.size]? = some (.cells (macC (.slice p k cc) (.slice m mn mc) fx R pc) 36)) := (show _ = _ by rw [hw2]; exact HMR.out)
          have HC4 : Hid (Cs wc (fun g => (Value.slice a1 k c1).ownBlock = some g) a1 k c1 (mixC xs ys pc k)) := (show Cs _ _ _ _ _ _ by rw [hw2]; exact HC1.out.kept ((Kept.refl No _).drewN qn) (fun _ _ h => h))
          clear hw2
          clear HOW HBE m0 m1 mf m19 HMR HC1 HTB hs hw
          generalize rdA xs R pc = RD at HST ⊢
          have hwl4 : W.heap.size < wc.heap.size := heap_lt HM4.out
          have HZ4 : Hid (Zs wc G m mn mc ms) := HZ.out.kept (Kept.of_below (F := No) B4.out) (fun _ _ h => h)
          have HZ24 : Hid (Zs wc G2 m2 mn2 mc2 zs) := HZ2.out.kept (Kept.of_below (F := No) B4.out) (fun _ _ h => h)
          have HCX : Hid (Cs wc F p k cc xs) := HC.out.kept (Kept.of_below (F := No) B4.out) (fun _ _ h => h)
          have HO4 : Hid (Ops wc) := HO2.out.below B4.out HO2.out.pos
          have BW4 : Hid (Below W.heap.size W wc) := B2.out.trans (B4.out.mono B2.out.size)
          clear HZ HZ2 HC HC2 HO2 B2 B4 H2
          clear wr
          go_wp2
          go_loopw [10, 11] (fun l i wr => ∃ j : Nat, j ≤ mn ∧ i = .int .i64 j ∧ wr.ownsRow wc.heap.size 2 1 l j ((mixW ms zs RD j).map iv) ∧ Below wc.heap.size wc wr) (fun _ i _ => mn - (intOf i).toNat)
          case atStart => exact ⟨0, by omega, rfl, World.ownsRow_nil _ _ _ _, Below.refl _ _⟩
          case round =>
            obtain ⟨j, hj2, rfl, hown, hbel⟩ := hrel
            have HOW2 : Hid (wr.ownsRow wc.heap.size 2 1 u10 j ((mixW ms zs RD j).map iv)) := hown
            have hs2 := hbel.size
            have HBE2 : Hid (Below wc.heap.size wc wr) := hbel
            have HM := (hbel.block _ hwl4).trans HM4.out
            obtain ⟨m0, m1, mf, m19⟩ := mac_cells HM
            by_cases hlt : j < mn
            · clear hown hbel HM
              by_cases hy : (j : Int) ≠ RD ∧ j < mn2
              · obtain ⟨hy1, hy2⟩ := hy
                have g1 : ((j : Int) != RD) = true := by simpa using hy1
                have hx : Hid (mixW1 ms zs RD j = zs.getD j 0) := (show mixW1 ms zs RD j = zs.getD j 0 by unfold mixW1; rw [if_pos ⟨hy1, by rw [HZ24.out.len]; exact hy2⟩])
                obtain ⟨zb, zo, rfl, _, z0⟩ := (HZ24.out.kept (Kept.of_below (F := No) HBE2.out) (fun _ _ h => h)).at' j hy2
                generalize zs.getD j 0 = x at hx z0
                have z1 : wr.cell? ⟨zb, zo + j, none⟩ = some (.int .i64 x) := z0
                clear hy1 z0
                go_wp2_with (at_builtin; refine wpList_append_own _ rfl _ _ 34 rfl wc.heap.size 2 j0 (.int .i64 0) 1 8 Tryd.underlying34 hj hw0 hw1 hw2' rfl (by decide) _ _ _ rfl (HOW2.out.alloc _) ⟨wr.heap.size, 0, none⟩ 1 1 [.int .i64 x] rfl rfl (cell_one_new _ _ _) (one_one _ _) (by unfold maxLen; omega) (by omega) (by simp; omega) ?_; intro v1 w5 own1 grow1 _)
                have hb1 : Below wc.heap.size wc w5 := (HBE2.out.alloc hs2 _).grown grow1 (by simp; omega) (fun k hk => (HOW2.out.lt k hk).1)
                have own2 : w5.ownsRow wc.heap.size 2 1 v1 (j + 1) ((mixW ms zs RD (j + 1)).map iv) := by
                  rw [mixW_succ, List.map_append, List.map_singleton, hx.out]; exact own1
                clear grow1 own1
                go_wp2
                go_roundw
                case rel => exact ⟨j + 1, by omega, by go_num, own2, hb1⟩
                case measure => simp [intOf]; omega
              · have hx : Hid (mixW1 ms zs RD j = ms.getD j 0) := (show mixW1 ms zs RD j = ms.getD j 0 by unfold mixW1; rw [if_neg (by rw [HZ24.out.len]; exact hy)])
                obtain ⟨zb, zo, rfl, _, z0⟩ := (HZ4.out.kept (Kept.of_below (F := No) HBE2.out) (fun _ _ h => h)).at' j hlt
                generalize ms.getD j 0 = x at hx z0
                have z1 : wr.cell? ⟨zb, zo + j, none⟩ = some (.int .i64 x) := z0
                clear z0
                by_cases hkp : (j : Int) = RD
                · have g1 : ((j : Int) != RD) = false := by simpa using hkp
                  clear hy hkp
                  go_wp2_with (at_builtin; refine wpList_append_own _ rfl _ _ 34 rfl wc.heap.size 2 j0 (.int .i64 0) 1 8 Tryd.underlying34 hj hw0 hw1 hw2' rfl (by decide) _ _ _ rfl (HOW2.out.alloc _) ⟨wr.heap.size, 0, none⟩ 1 1 [.int .i64 x] rfl rfl (cell_one_new _ _ _) (one_one _ _) (by unfold maxLen; omega) (by omega) (by simp; omega) ?_; intro v1 w5 own1 grow1 _)
                  have hb1 : Below wc.heap.size wc w5 := (HBE2.out.alloc hs2 _).grown grow1 (by simp; omega) (fun k hk => (HOW2.out.lt k hk).1)
                  have own2 : w5.ownsRow wc.heap.size 2 1 v1 (j + 1) ((mixW ms zs RD (j + 1)).map iv) := by
                    rw [mixW_succ, List.map_append, List.map_singleton, hx.out]; exact own1
                  clear grow1 own1
                  go_wp2
                  go_roundw
                  case rel => exact ⟨j + 1, by omega, by go_num, own2, hb1⟩
                  case measure => simp [intOf]; omega
                · have g1 : ((j : Int) != RD) = true := by simpa using hkp
                  have g2 : ¬ j < mn2 := fun h => hy ⟨hkp, h⟩
                  clear hy hkp
                  go_wp2_with (at_builtin; refine wpList_append_own _ rfl _ _ 34 rfl wc.heap.size 2 j0 (.int .i64 0) 1 8 Tryd.underlying34 hj hw0 hw1 hw2' rfl (by decide) _ _ _ rfl (HOW2.out.alloc _) ⟨wr.heap.size, 0, none⟩ 1 1 [.int .i64 x] rfl rfl (cell_one_new _ _ _) (one_one _ _) (by unfold maxLen; omega) (by omega) (by simp; omega) ?_; intro v1 w5 own1 grow1 _)
                  have hb1 : Below wc.heap.size wc w5 := (HBE2.out.alloc hs2 _).grown grow1 (by simp; omega) (fun k hk => (HOW2.out.lt k hk).1)
                  have own2 : w5.ownsRow wc.heap.size 2 1 v1 (j + 1) ((mixW ms zs RD (j + 1)).map iv) := by
                    rw [mixW_succ, List.map_append, List.map_singleton, hx.out]; exact own1
                  clear grow1 own1
                  go_wp2
                  go_roundw
                  case rel => exact ⟨j + 1, by omega, by go_num, own2, hb1⟩
                  case measure => simp [intOf]; omega
            · have hjm : j = mn := by omega
              subst hjm
              clear hlt
              obtain ⟨a5, c5, hv5, hz5⟩ := Zs.of_owns (xs := mixW ms zs RD j) (by rw [mixW_length]; exact HOW2.out)
              rw [mixW_length] at hv5 hz5
              subst hv5
              have hcapz := hz5.cap
              have hmaxz := hz5.max
              have hZ1 := hz5
              have hC1 := HC4.out.kept (Kept.of_below (F := No) HBE2.out) (fun _ _ h => h)
              have hCX := HCX.out.kept (Kept.of_below (F := No) HBE2.out) (fun _ _ h => h)
              have hZX := HZ4.out.kept (Kept.of_below (F := No) HBE2.out) (fun _ _ h => h)
              have hOX := HO4.out.below HBE2.out HO4.out.pos
              have BW5 : Below W.heap.size W wr := BW4.out.trans (HBE2.out.mono BW4.out.size)
              have cS1 : Hid (∀ w0, Below wr.heap.size wr w0 → Calls Tryd.prog 12 #[.slice a1 k c1, .slice a5 j c5, .int .i64 fx, regV R, .int .i64 pc] w0 fun ex w1 => ex = .returned (stepE xs ms fx R pc).v ∧ Below wr.heap.size wr w1) := (fun w0 b0 => by
                have h := step_any _ _ R a1 a5 k c1 j c5 fx pc _ _ w0 (hC1.kept (Kept.of_below (F := No) b0) (fun _ _ h => h)) (hZ1.kept (Kept.of_below (F := No) b0) (fun _ _ h => h)) (hOX.below b0 hOX.pos)
                have e := HST.out
                rw [hCX.len, hZX.len] at e
                rw [e] at h
                refine h.mono ?_
                rintro ex w1 ⟨rfl, b1⟩
                exact ⟨rfl, b0.trans (b1.mono b0.size)⟩)
              have cS2 : Hid (∀ w0, Below wr.heap.size wr w0 → Calls Tryd.prog 12 #[.slice p k cc, .slice m j mc, .int .i64 fx, regV R, .int .i64 pc] w0 fun ex w1 => ex = .returned (stepE xs ms fx R pc).v ∧ Below wr.heap.size wr w1) := (fun w0 b0 => by
                refine (step_any _ _ R p m k cc j mc fx pc _ _ w0 (hCX.kept (Kept.of_below (F := No) b0) (fun _ _ h => h)) (hZX.kept (Kept.of_below (F := No) b0) (fun _ _ h => h)) (hOX.below b0 hOX.pos)).mono ?_
                rintro ex w1 ⟨rfl, b1⟩
                exact ⟨rfl, b0.trans (b1.mono b0.size)⟩)
              generalize stepE xs ms fx R pc = E at cS1 cS2
              have EQ := eqE_self E
              clear hown hbel hz5 hZ1 hC1 hCX hZX hOX HOW2 HST HC4 HCX HZ4 HZ24 HO4 BW4 HM4
              have hlw := heap_lt HM
              have BW0 : Below wr.heap.size wr wr := Below.refl _ wr
              have HMA : Hid (∀ w', Below wr.heap.size wr w' → w'.heap[W.heap.size]? = some (.cells (macC (.slice p k cc) (.slice m j mc) fx R pc) 36)) := (fun w' b => (b.block _ hlw).trans HM)
              clear HM
              go_wp2_with fail
              refine wp_region_below wr.heap.size wr (by kernel_rfl) (by kernel_rfl) BW0 ?_
              refine BigFrame.wpQuiet_want rfl (fun K hK => ?_)
              refine BigFrame.quiet_move _ rfl ?_
              refine hK _ ?_
              clear hK K
              simp only [Act.put, List.setIfInBounds_toArray, List.set_cons_zero, List.set_cons_succ]
              refine BigFrame.wpQuiet_want rfl (fun K hK => ?_)
              refine BigFrame.quiet_move _ rfl ?_
              refine hK _ ?_
              clear hK K
              simp only [Act.put, List.setIfInBounds_toArray, List.set_cons_zero, List.set_cons_succ]
              refine BigFrame.wpQuiet_want rfl (fun K hK => ?_)
              refine quiet_f36_2 _ rfl W.heap.size rfl ?_
              refine hK _ ?_
              clear hK K
              simp only [Act.put, List.setIfInBounds_toArray, List.set_cons_zero, List.set_cons_succ]
              refine BigFrame.wpQuiet_want rfl (fun K hK => ?_)
              refine quiet_load3 _ rfl W.heap.size 2 (.int .i64 fx) rfl (fun w0 hw0 => (mac_cells (HMA.out w0 hw0)).2.2.1) ?_
              refine hK _ ?_
              clear hK K
              simp only [Act.put, List.setIfInBounds_toArray, List.set_cons_zero, List.set_cons_succ]
              refine BigFrame.wpQuiet_want rfl (fun K hK => ?_)
              refine quiet_f36_3 _ rfl W.heap.size rfl ?_
              refine hK _ ?_
              clear hK K
              simp only [Act.put, List.setIfInBounds_toArray, List.set_cons_zero, List.set_cons_succ]
              refine BigFrame.wpQuiet_want rfl (fun K hK => ?_)
              refine quiet_load25 _ rfl W.heap.size 3 R rfl (fun w0 hw0 => range_mac (HMA.out w0 hw0)) ?_
              refine hK _ ?_
              clear hK K
              simp only [Act.put, List.setIfInBounds_toArray, List.set_cons_zero, List.set_cons_succ]
              refine BigFrame.wpQuiet_want rfl (fun K hK => ?_)
              refine quiet_f36_4 _ rfl W.heap.size rfl ?_
              refine hK _ ?_
              clear hK K
              simp only [Act.put, List.setIfInBounds_toArray, List.set_cons_zero, List.set_cons_succ]
              refine BigFrame.wpQuiet_want rfl (fun K hK => ?_)
              refine quiet_load3 _ rfl W.heap.size 19 (.int .i64 pc) rfl (fun w0 hw0 => (mac_cells (HMA.out w0 hw0)).2.2.2) ?_
              refine hK _ ?_
              clear hK K
              simp only [Act.put, List.setIfInBounds_toArray, List.set_cons_zero, List.set_cons_succ]
              refine BigFrame.wpQuiet_want rfl (fun K hK => ?_)
              refine quiet_step12 _ _ _ _ _ rfl (.slice a1 k c1) (.slice a5 j c5) (.int .i64 fx) (regV R) (.int .i64 pc) E.v rfl rfl rfl rfl rfl (fun w0 hw0 => cS1.out w0 hw0) ?_
              refine hK _ ?_
              clear hK K
              simp only [Act.put, List.setIfInBounds_toArray, List.set_cons_zero, List.set_cons_succ]
              refine BigFrame.wpQuiet_want rfl (fun K hK => ?_)
              refine quiet_f36_0 _ rfl W.heap.size rfl ?_
              refine hK _ ?_
              clear hK K
              simp only [Act.put, List.setIfInBounds_toArray, List.set_cons_zero, List.set_cons_succ]
              refine BigFrame.wpQuiet_want rfl (fun K hK => ?_)
              refine quiet_load31 _ rfl W.heap.size 0 (.slice p k cc) rfl (fun w0 hw0 => (mac_cells (HMA.out w0 hw0)).1) ?_
              refine hK _ ?_
              clear hK K
              simp only [Act.put, List.setIfInBounds_toArray, List.set_cons_zero, List.set_cons_succ]
              refine BigFrame.wpQuiet_want rfl (fun K hK => ?_)
              refine quiet_f36_1 _ rfl W.heap.size rfl ?_
              refine hK _ ?_
              clear hK K
              simp only [Act.put, List.setIfInBounds_toArray, List.set_cons_zero, List.set_cons_succ]
              refine BigFrame.wpQuiet_want rfl (fun K hK => ?_)
              refine quiet_load34 _ rfl W.heap.size 1 (.slice m j mc) rfl (fun w0 hw0 => (mac_cells (HMA.out w0 hw0)).2.1) ?_
              refine hK _ ?_
              clear hK K
              simp only [Act.put, List.setIfInBounds_toArray, List.set_cons_zero, List.set_cons_succ]
              refine BigFrame.wpQuiet_want rfl (fun K hK => ?_)
              refine quiet_f36_2 _ rfl W.heap.size rfl ?_
              refine hK _ ?_
              clear hK K
              simp only [Act.put, List.setIfInBounds_toArray, List.set_cons_zero, List.set_cons_succ]
              refine BigFrame.wpQuiet_want rfl (fun K hK => ?_)
              refine quiet_load3 _ rfl W.heap.size 2 (.int .i64 fx) rfl (fun w0 hw0 => (mac_cells (HMA.out w0 hw0)).2.2.1) ?_
              refine hK _ ?_
              clear hK K
              simp only [Act.put, List.setIfInBounds_toArray, List.set_cons_zero, List.set_cons_succ]
              refine BigFrame.wpQuiet_want rfl (fun K hK => ?_)
              refine quiet_f36_3 _ rfl W.heap.size rfl ?_
              refine hK _ ?_
              clear hK K
              simp only [Act.put, List.setIfInBounds_toArray, List.set_cons_zero, List.set_cons_succ]
              refine BigFrame.wpQuiet_want rfl (fun K hK => ?_)
              refine quiet_load25 _ rfl W.heap.size 3 R rfl (fun w0 hw0 => range_mac (HMA.out w0 hw0)) ?_
              refine hK _ ?_
              clear hK K
              simp only [Act.put, List.setIfInBounds_toArray, List.set_cons_zero, List.set_cons_succ]
              refine BigFrame.wpQuiet_want rfl (fun K hK => ?_)
              refine quiet_f36_4 _ rfl W.heap.size rfl ?_
              refine hK _ ?_
              clear hK K
              simp only [Act.put, List.setIfInBounds_toArray, List.set_cons_zero, List.set_cons_succ]
              refine BigFrame.wpQuiet_want rfl (fun K hK => ?_)
              refine quiet_load3 _ rfl W.heap.size 19 (.int .i64 pc) rfl (fun w0 hw0 => (mac_cells (HMA.out w0 hw0)).2.2.2) ?_
              refine hK _ ?_
              clear hK K
              simp only [Act.put, List.setIfInBounds_toArray, List.set_cons_zero, List.set_cons_succ]
              refine BigFrame.wpQuiet_want rfl (fun K hK => ?_)
              refine quiet_step12 _ _ _ _ _ rfl (.slice p k cc) (.slice m j mc) (.int .i64 fx) (regV R) (.int .i64 pc) E.v rfl rfl rfl rfl rfl (fun w0 hw0 => cS2.out w0 hw0) ?_
              refine hK _ ?_
              clear hK K
              simp only [Act.put, List.setIfInBounds_toArray, List.set_cons_zero, List.set_cons_succ]
              refine BigFrame.wpQuiet_want rfl (fun K hK => ?_)
              refine quiet_eqV _ _ _ rfl E E rfl rfl ?_
              rw [EQ]
              refine hK _ ?_
              clear hK K
              simp only [Act.put, List.setIfInBounds_toArray, List.set_cons_zero, List.set_cons_succ]
              refine BigFrame.wpQuiet_want rfl (fun K hK => ?_)
              refine BigFrame.quiet_assign _ rfl ?_
              refine hK _ ?_
              clear hK K
              simp only [Act.put, List.setIfInBounds_toArray, List.set_cons_zero, List.set_cons_succ]
              refine wpQuiet_nil ?_
              intro w6 hw6
              go_wp2
              go_ret
              exact ⟨rfl, BW5.trans (hw6.mono BW5.size)⟩

end Go.Proofs.YtijeaonldhccmaaDoor
