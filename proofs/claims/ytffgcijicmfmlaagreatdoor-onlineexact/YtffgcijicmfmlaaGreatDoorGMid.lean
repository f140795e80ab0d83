/-
  One text: DRuleP, DFirst, DRef1.
-/
import Derived.Test.YtffgcijicmfmlaaGreatDoorDLaws
namespace Go.Proofs.YtffgcijicmfmlaaGreatDoor
open Go.RowKit Plain
set_option linter.unusedVariables false
set_option maxRecDepth 100000

/-- an owned row of numbers -/
def Ri (w : World) (B : Nat) (v : Value) (n : Nat) (f : Nat → Int) : Prop := w.ownsRow B 3 1 v n ((List.range n).map fun i => .int .i64 (f i))
theorem Ri.ct {w : World} {B n : Nat} {v : Value} {f : Nat → Int} (h : Ri w B v n f) : (v = .slice none 0 0 ∧ n = 0) ∨ ∃ g c, v = .slice (some ⟨g, 0, none⟩) n c ∧ B ≤ g ∧ n ≤ c ∧ c ≤ 9223372036854775807 ∧ Ct w g n f := by
  rcases owns_cells h with ⟨h1, h2⟩ | ⟨g, cap, rfl, hb, hg, hcn, hcm, hc, hf⟩
  · exact .inl ⟨h1, h2⟩
  · refine .inr ⟨g, cap, rfl, hb, hcn, by unfold maxLen at hcm; omega, ⟨fun i hi => hc i _ ?_, hf, hg⟩⟩
    rw [List.getElem?_map, List.getElem?_range hi]
    rfl
/-- the rests behind the releases of a tick -/
def rlF (s : Rule.Sys) (t : Nat) (r : Nat → Int) (i : Nat) : Int := if Rule.rel s i t then (s.B i : Int) else r i

/-- a row of numbers that is read: a slice, nil only where there is none -/
def Rd0 (w : World) (v : Value) (n : Nat) (f : Nat → Int) : Prop := (v = .slice none 0 0 ∧ n = 0) ∨ ∃ g c, v = .slice (some ⟨g, 0, none⟩) n c ∧ n ≤ c ∧ c ≤ 9223372036854775807 ∧ Ct w g n f
theorem Rd0.keep {w w' : World} {v : Value} {n : Nat} {f : Nat → Int} (h : Rd0 w v n f) (hk : Kept No w w') : Rd0 w' v n f := by
  rcases h with h | ⟨g, c, h1, h2, h3, h4⟩
  · exact .inl h
  · exact .inr ⟨g, c, h1, h2, h3, h4.keep hk⟩

set_option maxHeartbeats 4000000 in
theorem released_any {F : Nat → Prop} {a : Option Addr} {c : Nat} {xs : List Srv} {v : Value} {r : Nat → Int} (hv : Vd xs) (w : World) (h : Sv w F a xs.length c xs) (hr : Rd0 w v xs.length r) (t : Nat) (ht : t < 1099511627776) :
    Calls Tryz.prog 18 #[.slice a xs.length c, v, .int .i64 t] w fun e w' => ∃ v', e = .returned v' ∧ Ri w' w.heap.size v' xs.length (rlF (sys xs) t r) ∧ Kept No w w' := by
  obtain ⟨i0, hi0, hz0, hz1, hz2⟩ := info_parts Tryz.infoI3
  have hn := hv.num
  have HV : Hid (Vd xs) := hv
  have HS : Hid (Sv w F a xs.length c xs ∧ Rd0 w v xs.length r) := ⟨h, hr⟩
  have hcap := h.cap
  have hmax := h.max
  obtain ⟨va, vn, vc, hvv⟩ : ∃ va vn vc, v = .slice va vn vc := by
    rcases hr with ⟨h1, _⟩ | ⟨g, c, h1, _⟩
    · exact ⟨_, _, _, h1⟩
    · exact ⟨_, _, _, h1⟩
  subst hvv
  clear h hr hv
  go_enter Tryz.func18, Tryz.ntmps18
  go_wp2
  go_loopw [7, 8] (fun v x wr => ∃ k : Nat, k ≤ xs.length ∧ x = .int .i64 k ∧ Ri wr w.heap.size v k (rlF (sys xs) t r) ∧ Kept No w wr) (fun _ x _ => xs.length - (intOf x).toNat)
  case atStart => exact ⟨0, by omega, rfl, ⟨rfl, .inl ⟨rfl, rfl⟩⟩, Kept.refl _ w⟩
  case round =>
    obtain ⟨k, hk, rfl, hown, hkr⟩ := hrel
    have HOW : Hid (Ri wr w.heap.size u7 k (rlF (sys xs) t r) ∧ Kept No w wr) := ⟨hown, hkr⟩
    clear hown hkr
    by_cases hlt : k < xs.length
    · obtain ⟨hok, b, o, rfl, hb, e0, e1, e2, e3⟩ := (HS.out.1.keep HOW.out.2).gs4 hlt
      have hP := HV.out.per k hlt
      have hB := HV.out.bud k hlt
      have hO := HV.out.off k hlt
      have hPn : (gs xs k).p = ((sys xs).P k : Int) := by show (gs xs k).p = (((gs xs k).p.toNat : Nat) : Int); omega
      have hBn : (gs xs k).b = ((sys xs).B k : Int) := by show (gs xs k).b = (((gs xs k).b.toNat : Nat) : Int); omega
      have hOn : (gs xs k).o = ((sys xs).O k : Int) := by show (gs xs k).o = (((gs xs k).o.toNat : Nat) : Int); omega
      rw [hPn] at e0 hP
      rw [hBn] at e1 hB
      rw [hOn] at e2 hO
      rw [hPn] at hB hO
      obtain ⟨g, rfl, hgv⟩ : ∃ g, va = some ⟨g, 0, none⟩ ∧ vn = xs.length ∧ Ct w g xs.length r := by
        rcases HS.out.2 with ⟨_, h0⟩ | ⟨g, c, h1, _, _, h2⟩
        · omega
        · injection h1 with h1 h3 _; exact ⟨g, h1, h3, h2⟩
      obtain ⟨rfl, hgc⟩ := hgv
      have x1 := (hgc.keep (HOW.out.2.alloc (.cells #[.int .i64 ((sys xs).P k : Int), .int .i64 ((sys xs).B k : Int), .int .i64 ((sys xs).O k : Int), .int .i64 (gs xs k).q] 36))).at' k hlt
      have HRL : Hid (rlF (sys xs) t r k = if (sys xs).O k ≤ t ∧ (t - (sys xs).O k) % (sys xs).P k = 0 then ((sys xs).B k : Int) else r k) := rfl
      clear hgc hPn hBn hOn hok
      generalize (sys xs).P k = P at *
      generalize (sys xs).B k = B at *
      generalize (sys xs).O k = O at *
      generalize (gs xs k).q = q at *
      go_upto_region 6 with fail
      have b2 := World.alloc_heap_new wr (.cells #[.int .i64 (P : Int), .int .i64 (B : Int), .int .i64 (O : Int), .int .i64 q] 36)
      have HO2 : Hid (Ri (wr.alloc (.cells #[.int .i64 (P : Int), .int .i64 (B : Int), .int .i64 (O : Int), .int .i64 q] 36)) w.heap.size u7 k (rlF (sys xs) t r) ∧ Kept No w (wr.alloc (.cells #[.int .i64 (P : Int), .int .i64 (B : Int), .int .i64 (O : Int), .int .i64 q] 36))) := ⟨World.ownsRow.alloc HOW.out.1 _, HOW.out.2.alloc _⟩
      clear HOW e0 e1 e2 e3
      generalize wr.alloc (.cells #[.int .i64 (P : Int), .int .i64 (B : Int), .int .i64 (O : Int), .int .i64 q] 36) = wq at *
      obtain ⟨c0, c1, c2, c3⟩ := cells4r b2
      generalize hz : wr.heap.size = z at *
      clear hz b2 c3
      obtain ⟨M, hM⟩ : ∃ M, (t - O) % P = M := ⟨_, rfl⟩
      have HMM : Hid (O ≤ t → Int.tmod ((t : Int) - (O : Int)) (P : Int) = (M : Int) ∧ ((t : Int) - (O : Int)) % (P : Int) = (M : Int)) := fun h1 => by
        rw [show (t : Int) - (O : Int) = ((t - O : Nat) : Int) by omega, ← hM]
        exact ⟨Int.ofNat_tmod _ _, rfl⟩
      rw [hM] at HRL
      clear hM
      by_cases hot : O ≤ t
      · obtain ⟨eM, eM2⟩ := HMM.out hot
        by_cases hM0 : M = 0
        · have hv1 : Hid (rlF (sys xs) t r k = (B : Int)) := by
            have := HRL.out
            rw [if_pos ⟨hot, hM0⟩] at this
            exact this
          have hM' : ((M : Int) == 0) = true := beq_iff_eq.2 (by omega)
          clear HRL
          go_upto_region 7 with fail
          clear c0 c2
          go_wp2_with (at_builtin; refine wpList_append_own_at _ rfl _ _ 23 rfl w.heap.size 3 i0 (.int .i64 0) 1 8 Tryz.underlying23 hi0 hz0 hz1 hz2 rfl (by decide) _ _ _ rfl (World.ownsRow.alloc HO2.out.1 _) ⟨wq.heap.size, 0, none⟩ 1 1 [.int .i64 (B : Int)] rfl rfl (cell_one_new _ _ _) (one_one _ _) (by unfold maxLen; omega) (by omega) (by have := HO2.out.2.size; simp; omega) ?_; intro v9 w10 own10 grow10 _ at10)
          have HN : Hid (Ri w10 w.heap.size v9 (k + 1) (rlF (sys xs) t r) ∧ Kept No w w10) := by
            refine ⟨?_, (HO2.out.2.alloc _).grown grow10 (fun b e => .inr (World.ownsRow.lt HO2.out.1 b e).1)⟩
            unfold Ri
            rw [List.range_succ, List.map_append, List.map_cons, List.map_nil, hv1.out]
            exact own10
          clear own10 grow10 at10
          go_wp2
          go_roundw
          case rel => exact ⟨k + 1, by omega, by go_num, HN.out.1, HN.out.2⟩
          case measure => simp [intOf]; omega
        · have hv1 : Hid (rlF (sys xs) t r k = r k) := by
            have := HRL.out
            rw [if_neg (fun h => hM0 h.2)] at this
            exact this
          have hM' : ((M : Int) == 0) = false := beq_eq_false_iff_ne.2 (by omega)
          clear HRL
          generalize r k = rk at *
          go_upto_region 8 with fail
          clear c0 c1 c2
          go_wp2_with (at_builtin; refine wpList_append_own_at _ rfl _ _ 23 rfl w.heap.size 3 i0 (.int .i64 0) 1 8 Tryz.underlying23 hi0 hz0 hz1 hz2 rfl (by decide) _ _ _ rfl (World.ownsRow.alloc HO2.out.1 _) ⟨wq.heap.size, 0, none⟩ 1 1 [.int .i64 rk] rfl rfl (cell_one_new _ _ _) (one_one _ _) (by unfold maxLen; omega) (by omega) (by have := HO2.out.2.size; simp; omega) ?_; intro v9 w10 own10 grow10 _ at10)
          have HN : Hid (Ri w10 w.heap.size v9 (k + 1) (rlF (sys xs) t r) ∧ Kept No w w10) := by
            refine ⟨?_, (HO2.out.2.alloc _).grown grow10 (fun b e => .inr (World.ownsRow.lt HO2.out.1 b e).1)⟩
            unfold Ri
            rw [List.range_succ, List.map_append, List.map_cons, List.map_nil, hv1.out]
            exact own10
          clear own10 grow10 at10
          go_wp2
          go_roundw
          case rel => exact ⟨k + 1, by omega, by go_num, HN.out.1, HN.out.2⟩
          case measure => simp [intOf]; omega
      · have hv1 : Hid (rlF (sys xs) t r k = r k) := by
          have := HRL.out
          rw [if_neg (fun h => hot h.1)] at this
          exact this
        have hot' : ¬ (O : Int) ≤ (t : Int) := by omega
        clear HRL
        generalize r k = rk at *
        go_upto_region 8 with fail
        clear c0 c1 c2
        go_wp2_with (at_builtin; refine wpList_append_own_at _ rfl _ _ 23 rfl w.heap.size 3 i0 (.int .i64 0) 1 8 Tryz.underlying23 hi0 hz0 hz1 hz2 rfl (by decide) _ _ _ rfl (World.ownsRow.alloc HO2.out.1 _) ⟨wq.heap.size, 0, none⟩ 1 1 [.int .i64 rk] rfl rfl (cell_one_new _ _ _) (one_one _ _) (by unfold maxLen; omega) (by omega) (by have := HO2.out.2.size; simp; omega) ?_; intro v9 w10 own10 grow10 _ at10)
        have HN : Hid (Ri w10 w.heap.size v9 (k + 1) (rlF (sys xs) t r) ∧ Kept No w w10) := by
          refine ⟨?_, (HO2.out.2.alloc _).grown grow10 (fun b e => .inr (World.ownsRow.lt HO2.out.1 b e).1)⟩
          unfold Ri
          rw [List.range_succ, List.map_append, List.map_cons, List.map_nil, hv1.out]
          exact own10
        clear own10 grow10 at10
        go_wp2
        go_roundw
        case rel => exact ⟨k + 1, by omega, by go_num, HN.out.1, HN.out.2⟩
        case measure => simp [intOf]; omega
    · have hke : k = xs.length := by omega
      subst hke
      obtain ⟨va', vn', vc', hvv⟩ : ∃ a n c, u7 = .slice a n c := by
        obtain ⟨_, ⟨h1, _⟩ | ⟨g, cap, cur, h1, _⟩⟩ := HOW.out.1
        · exact ⟨_, _, _, h1⟩
        · exact ⟨_, _, _, h1⟩
      subst hvv
      go_wp2
      go_ret
      exact ⟨_, rfl, HOW.out.1, HOW.out.2⟩
end Go.Proofs.YtffgcijicmfmlaaGreatDoor

namespace Go.Proofs.YtffgcijicmfmlaaGreatDoor
open Go.RowKit Plain
set_option linter.unusedVariables false
set_option maxRecDepth 100000

set_option maxHeartbeats 4000000 in
theorem firstR_any {F : Nat → Prop} {a : Option Addr} {c : Nat} {xs : List Srv} {v : Value} {r : Nat → Nat} (w : World) (h : Sv w F a xs.length c xs) (hn : xs.length ≤ 32) (hr : Rd0 w v xs.length (fun i => (r i : Int))) (hb : ∀ i, i < xs.length → r i ≤ 1048576) :
    Calls Tryz.prog 19 #[.slice a xs.length c, v] w fun e w' => e = .returned (.int .i64 ((Rule.pick (sys xs) r xs.length : Int) - 1)) ∧ Kept No w w' := by
  have HS : Hid (Sv w F a xs.length c xs) := h
  have HR : Hid (Rd0 w v xs.length (fun i => (r i : Int)) ∧ ∀ i, i < xs.length → r i ≤ 1048576) := ⟨hr, hb⟩
  have hcap := h.cap
  have hmax := h.max
  obtain ⟨va, vn, vc, hvv⟩ : ∃ va vn vc, v = .slice va vn vc := by
    rcases hr with ⟨h1, _⟩ | ⟨g, c, h1, _⟩
    · exact ⟨_, _, _, h1⟩
    · exact ⟨_, _, _, h1⟩
  subst hvv
  clear h hr hb
  go_enter Tryz.func19, Tryz.ntmps19
  go_wp2
  go_loopw [5, 6] (fun v x wr => ∃ k : Nat, k ≤ xs.length ∧ x = .int .i64 k ∧ v = .int .i64 ((Rule.pick (sys xs) r k : Int) - 1) ∧ Kept No w wr) (fun _ x _ => xs.length - (intOf x).toNat)
  case atStart => exact ⟨0, Nat.zero_le _, rfl, rfl, Kept.refl No w⟩
  case round =>
    obtain ⟨k, hk, rfl, rfl, hw⟩ := hrel
    have HK : Hid (Kept No w wr) := hw
    clear hw
    by_cases hlt : k < xs.length
    · obtain ⟨g, rfl, hgv⟩ : ∃ g, va = some ⟨g, 0, none⟩ ∧ vn = xs.length ∧ Ct w g xs.length (fun i => (r i : Int)) := by
        rcases HR.out.1 with ⟨_, h0⟩ | ⟨g, c, h1, _, _, h2⟩
        · omega
        · injection h1 with h1 h3 _; exact ⟨g, h1, h3, h2⟩
      obtain ⟨rfl, hgc⟩ := hgv
      have x1 := (hgc.keep HK.out).at' k hlt
      have x2 := HR.out.2 k hlt
      obtain ⟨hok, b, o, rfl, hbb, e0, e1, e2, e3⟩ := (HS.out.keep HK.out).gs4 hlt
      have HX : Hid ((gs xs k).q = (sys xs).pr k) := rfl
      have hq6 : I6 (gs xs k).q := hok.2.2.2
      unfold I6 at hq6
      generalize (gs xs k).q = xq at *
      clear e0 e1 e2 hok hgc
      have hple := Rule.pick_le (sys xs) r k
      by_cases h0 : r k = 0
      · have HP : Hid (Rule.pick (sys xs) r (k + 1) = Rule.pick (sys xs) r k) := pick_no0 h0
        generalize r k = R at *
        have hR' : decide (0 < R) = false := decide_eq_false (by omega)
        clear x2 h0 e3 hq6
        generalize hpk : (Rule.pick (sys xs) r k : Int) - 1 = pk at *
        go_wp2
        go_quiet (fail)
        go_wp2
        go_roundw
        case rel => exact ⟨k + 1, by omega, by go_num, by rw [HP.out, hpk], HK.out.drewN _⟩
        case measure => simp [intOf]; omega
      · have h1 : 0 < r k := by omega
        by_cases hz : Rule.pick (sys xs) r k = 0
        · have HP : Hid (Rule.pick (sys xs) r (k + 1) = k + 1) := pick_yes0 h1 hz
          rw [hz]
          rw [show ((0 : Nat) : Int) - 1 = -1 from rfl]
          generalize r k = R at *
          clear h0 hz e3 hq6 hple
          go_wp2
          go_quiet (fail)
          go_wp2
          go_roundw
          case rel => exact ⟨k + 1, by omega, by go_num, by rw [HP.out]; go_num, HK.out.drewN _⟩
          case measure => simp [intOf]; omega
        · obtain ⟨p, hp⟩ : ∃ p, Rule.pick (sys xs) r k = p + 1 := ⟨Rule.pick (sys xs) r k - 1, by omega⟩
          have hpx : p < xs.length := by omega
          obtain ⟨hokp, b', o', he, _, f0, f1, f2, f3⟩ := (HS.out.keep HK.out).gs4 hpx
          simp only [Option.some.injEq, Addr.mk.injEq, and_true] at he
          obtain ⟨rfl, rfl⟩ := he
          have hp6 : I6 (gs xs p).q := hokp.2.2.2
          unfold I6 at hp6
          have HXP : Hid ((gs xs p).q = (sys xs).pr p) := rfl
          clear f0 f1 f2 hokp
          generalize (gs xs p).q = qp at *
          have ePk : (Rule.pick (sys xs) r k : Int) - 1 = (p : Int) := by omega
          rw [ePk]
          have hpi : (p : Int) < (xs.length : Int) := by omega
          have hp0 : decide ((p : Int) < 0) = false := decide_eq_false (by omega)
          by_cases hq : qp < xq
          · have HP : Hid (Rule.pick (sys xs) r (k + 1) = k + 1) := pick_yes1 h1 hp (by rw [← HXP.out, ← HX.out]; exact hq)
            generalize r k = R at *
            clear h0 hz hp hple ePk
            go_wp2
            go_quiet (fail)
            go_wp2
            go_roundw
            case rel => exact ⟨k + 1, by omega, by go_num, by rw [HP.out]; go_num, HK.out.drewN _⟩
            case measure => simp [intOf]; omega
          · have HP : Hid ((Rule.pick (sys xs) r (k + 1) : Int) - 1 = (p : Int)) := by rw [pick_no1 hp (by rw [← HXP.out, ← HX.out]; exact hq)]; show ((p + 1 : Nat) : Int) - 1 = (p : Int); omega
            generalize r k = R at *
            have hq' : decide (qp < xq) = false := decide_eq_false hq
            clear h0 hz hp hq hple ePk
            go_wp2
            go_quiet (fail)
            go_wp2
            go_roundw
            case rel => exact ⟨k + 1, by omega, by go_num, by rw [HP.out], HK.out.drewN _⟩
            case measure => simp [intOf]; omega
    · have hke : k = xs.length := by omega
      subst hke
      go_wp2
      go_ret
      exact ⟨rfl, HK.out⟩
end Go.Proofs.YtffgcijicmfmlaaGreatDoor

namespace Go.Proofs.YtffgcijicmfmlaaGreatDoor
open Go.RowKit Plain
set_option linter.unusedVariables false
set_option maxRecDepth 100000

set_option maxHeartbeats 4000000 in
theorem relR_any {F : Nat → Prop} {a : Option Addr} {c : Nat} {xs : List Srv} {v : Value} {r : Nat → Int} (hv : Vd xs) (w : World) (h : Sv w F a xs.length c xs) (hr : Rd0 w v xs.length r) (t : Nat) (ht : t < 1099511627776) :
    Calls Tryz.prog 49 #[.slice a xs.length c, v, .int .i64 t] w fun e w' => ∃ v', e = .returned v' ∧ Ri w' w.heap.size v' xs.length (rlF (sys xs) t r) ∧ Kept No w w' := by
  obtain ⟨i0, hi0, hz0, hz1, hz2⟩ := info_parts Tryz.infoI3
  have hn := hv.num
  have HV : Hid (Vd xs) := hv
  have HS : Hid (Sv w F a xs.length c xs ∧ Rd0 w v xs.length r) := ⟨h, hr⟩
  have hcap := h.cap
  have hmax := h.max
  obtain ⟨va, vn, vc, hvv⟩ : ∃ va vn vc, v = .slice va vn vc := by
    rcases hr with ⟨h1, _⟩ | ⟨g, c, h1, _⟩
    · exact ⟨_, _, _, h1⟩
    · exact ⟨_, _, _, h1⟩
  subst hvv
  clear h hr hv
  go_enter Tryz.func49, Tryz.ntmps49
  go_wp2
  go_loopw [7, 8] (fun v x wr => ∃ k : Nat, k ≤ xs.length ∧ x = .int .i64 k ∧ Ri wr w.heap.size v k (rlF (sys xs) t r) ∧ Kept No w wr) (fun _ x _ => xs.length - (intOf x).toNat)
  case atStart => exact ⟨0, by omega, rfl, ⟨rfl, .inl ⟨rfl, rfl⟩⟩, Kept.refl _ w⟩
  case round =>
    obtain ⟨k, hk, rfl, hown, hkr⟩ := hrel
    have HOW : Hid (Ri wr w.heap.size u7 k (rlF (sys xs) t r) ∧ Kept No w wr) := ⟨hown, hkr⟩
    clear hown hkr
    by_cases hlt : k < xs.length
    · obtain ⟨hok, b, o, rfl, hb, e0, e1, e2, e3⟩ := (HS.out.1.keep HOW.out.2).gs4 hlt
      have hP := HV.out.per k hlt
      have hB := HV.out.bud k hlt
      have hO := HV.out.off k hlt
      have hPn : (gs xs k).p = ((sys xs).P k : Int) := by show (gs xs k).p = (((gs xs k).p.toNat : Nat) : Int); omega
      have hBn : (gs xs k).b = ((sys xs).B k : Int) := by show (gs xs k).b = (((gs xs k).b.toNat : Nat) : Int); omega
      have hOn : (gs xs k).o = ((sys xs).O k : Int) := by show (gs xs k).o = (((gs xs k).o.toNat : Nat) : Int); omega
      rw [hPn] at e0 hP
      rw [hBn] at e1 hB
      rw [hOn] at e2 hO
      rw [hPn] at hB hO
      obtain ⟨g, rfl, hgv⟩ : ∃ g, va = some ⟨g, 0, none⟩ ∧ vn = xs.length ∧ Ct w g xs.length r := by
        rcases HS.out.2 with ⟨_, h0⟩ | ⟨g, c, h1, _, _, h2⟩
        · omega
        · injection h1 with h1 h3 _; exact ⟨g, h1, h3, h2⟩
      obtain ⟨rfl, hgc⟩ := hgv
      have x1 := (hgc.keep (HOW.out.2.alloc (.cells #[.int .i64 ((sys xs).P k : Int), .int .i64 ((sys xs).B k : Int), .int .i64 ((sys xs).O k : Int), .int .i64 (gs xs k).q] 36))).at' k hlt
      have HRL : Hid (rlF (sys xs) t r k = if (sys xs).O k ≤ t ∧ (t - (sys xs).O k) % (sys xs).P k = 0 then ((sys xs).B k : Int) else r k) := rfl
      clear hgc hPn hBn hOn hok
      generalize (sys xs).P k = P at *
      generalize (sys xs).B k = B at *
      generalize (sys xs).O k = O at *
      generalize (gs xs k).q = q at *
      go_upto_region 6 with fail
      have b2 := World.alloc_heap_new wr (.cells #[.int .i64 (P : Int), .int .i64 (B : Int), .int .i64 (O : Int), .int .i64 q] 36)
      have HO2 : Hid (Ri (wr.alloc (.cells #[.int .i64 (P : Int), .int .i64 (B : Int), .int .i64 (O : Int), .int .i64 q] 36)) w.heap.size u7 k (rlF (sys xs) t r) ∧ Kept No w (wr.alloc (.cells #[.int .i64 (P : Int), .int .i64 (B : Int), .int .i64 (O : Int), .int .i64 q] 36))) := ⟨World.ownsRow.alloc HOW.out.1 _, HOW.out.2.alloc _⟩
      clear HOW e0 e1 e2 e3
      generalize wr.alloc (.cells #[.int .i64 (P : Int), .int .i64 (B : Int), .int .i64 (O : Int), .int .i64 q] 36) = wq at *
      obtain ⟨c0, c1, c2, c3⟩ := cells4r b2
      generalize hz : wr.heap.size = z at *
      clear hz b2 c3
      obtain ⟨M, hM⟩ : ∃ M, (t - O) % P = M := ⟨_, rfl⟩
      have HMM : Hid (O ≤ t → Int.tmod ((t : Int) - (O : Int)) (P : Int) = (M : Int) ∧ ((t : Int) - (O : Int)) % (P : Int) = (M : Int)) := fun h1 => by
        rw [show (t : Int) - (O : Int) = ((t - O : Nat) : Int) by omega, ← hM]
        exact ⟨Int.ofNat_tmod _ _, rfl⟩
      rw [hM] at HRL
      clear hM
      by_cases hot : O ≤ t
      · obtain ⟨eM, eM2⟩ := HMM.out hot
        by_cases hM0 : M = 0
        · have hv1 : Hid (rlF (sys xs) t r k = (B : Int)) := by
            have := HRL.out
            rw [if_pos ⟨hot, hM0⟩] at this
            exact this
          have hM' : ((M : Int) == 0) = true := beq_iff_eq.2 (by omega)
          clear HRL
          go_upto_region 7 with fail
          clear c0 c2
          go_wp2_with (at_builtin; refine wpList_append_own_at _ rfl _ _ 23 rfl w.heap.size 3 i0 (.int .i64 0) 1 8 Tryz.underlying23 hi0 hz0 hz1 hz2 rfl (by decide) _ _ _ rfl (World.ownsRow.alloc HO2.out.1 _) ⟨wq.heap.size, 0, none⟩ 1 1 [.int .i64 (B : Int)] rfl rfl (cell_one_new _ _ _) (one_one _ _) (by unfold maxLen; omega) (by omega) (by have := HO2.out.2.size; simp; omega) ?_; intro v9 w10 own10 grow10 _ at10)
          have HN : Hid (Ri w10 w.heap.size v9 (k + 1) (rlF (sys xs) t r) ∧ Kept No w w10) := by
            refine ⟨?_, (HO2.out.2.alloc _).grown grow10 (fun b e => .inr (World.ownsRow.lt HO2.out.1 b e).1)⟩
            unfold Ri
            rw [List.range_succ, List.map_append, List.map_cons, List.map_nil, hv1.out]
            exact own10
          clear own10 grow10 at10
          go_wp2
          go_roundw
          case rel => exact ⟨k + 1, by omega, by go_num, HN.out.1, HN.out.2⟩
          case measure => simp [intOf]; omega
        · have hv1 : Hid (rlF (sys xs) t r k = r k) := by
            have := HRL.out
            rw [if_neg (fun h => hM0 h.2)] at this
            exact this
          have hM' : ((M : Int) == 0) = false := beq_eq_false_iff_ne.2 (by omega)
          clear HRL
          generalize r k = rk at *
          go_upto_region 8 with fail
          clear c0 c1 c2
          go_wp2_with (at_builtin; refine wpList_append_own_at _ rfl _ _ 23 rfl w.heap.size 3 i0 (.int .i64 0) 1 8 Tryz.underlying23 hi0 hz0 hz1 hz2 rfl (by decide) _ _ _ rfl (World.ownsRow.alloc HO2.out.1 _) ⟨wq.heap.size, 0, none⟩ 1 1 [.int .i64 rk] rfl rfl (cell_one_new _ _ _) (one_one _ _) (by unfold maxLen; omega) (by omega) (by have := HO2.out.2.size; simp; omega) ?_; intro v9 w10 own10 grow10 _ at10)
          have HN : Hid (Ri w10 w.heap.size v9 (k + 1) (rlF (sys xs) t r) ∧ Kept No w w10) := by
            refine ⟨?_, (HO2.out.2.alloc _).grown grow10 (fun b e => .inr (World.ownsRow.lt HO2.out.1 b e).1)⟩
            unfold Ri
            rw [List.range_succ, List.map_append, List.map_cons, List.map_nil, hv1.out]
            exact own10
          clear own10 grow10 at10
          go_wp2
          go_roundw
          case rel => exact ⟨k + 1, by omega, by go_num, HN.out.1, HN.out.2⟩
          case measure => simp [intOf]; omega
      · have hv1 : Hid (rlF (sys xs) t r k = r k) := by
          have := HRL.out
          rw [if_neg (fun h => hot h.1)] at this
          exact this
        have hot' : ¬ (O : Int) ≤ (t : Int) := by omega
        clear HRL
        generalize r k = rk at *
        go_upto_region 8 with fail
        clear c0 c1 c2
        go_wp2_with (at_builtin; refine wpList_append_own_at _ rfl _ _ 23 rfl w.heap.size 3 i0 (.int .i64 0) 1 8 Tryz.underlying23 hi0 hz0 hz1 hz2 rfl (by decide) _ _ _ rfl (World.ownsRow.alloc HO2.out.1 _) ⟨wq.heap.size, 0, none⟩ 1 1 [.int .i64 rk] rfl rfl (cell_one_new _ _ _) (one_one _ _) (by unfold maxLen; omega) (by omega) (by have := HO2.out.2.size; simp; omega) ?_; intro v9 w10 own10 grow10 _ at10)
        have HN : Hid (Ri w10 w.heap.size v9 (k + 1) (rlF (sys xs) t r) ∧ Kept No w w10) := by
          refine ⟨?_, (HO2.out.2.alloc _).grown grow10 (fun b e => .inr (World.ownsRow.lt HO2.out.1 b e).1)⟩
          unfold Ri
          rw [List.range_succ, List.map_append, List.map_cons, List.map_nil, hv1.out]
          exact own10
        clear own10 grow10 at10
        go_wp2
        go_roundw
        case rel => exact ⟨k + 1, by omega, by go_num, HN.out.1, HN.out.2⟩
        case measure => simp [intOf]; omega
    · have hke : k = xs.length := by omega
      subst hke
      obtain ⟨va', vn', vc', hvv⟩ : ∃ a n c, u7 = .slice a n c := by
        obtain ⟨_, ⟨h1, _⟩ | ⟨g, cap, cur, h1, _⟩⟩ := HOW.out.1
        · exact ⟨_, _, _, h1⟩
        · exact ⟨_, _, _, h1⟩
      subst hvv
      go_wp2
      go_ret
      exact ⟨_, rfl, HOW.out.1, HOW.out.2⟩
set_option maxHeartbeats 4000000 in
theorem chosen_any {F : Nat → Prop} {a : Option Addr} {c : Nat} {xs : List Srv} {v : Value} {r : Nat → Nat} (w : World) (h : Sv w F a xs.length c xs) (hn : xs.length ≤ 32) (hr : Rd0 w v xs.length (fun i => (r i : Int))) (hb : ∀ i, i < xs.length → r i ≤ 1048576) :
    Calls Tryz.prog 50 #[.slice a xs.length c, v] w fun e w' => e = .returned (.int .i64 (Rule.pick (sys xs) r xs.length : Int)) ∧ Kept No w w' := by
  have HS : Hid (Sv w F a xs.length c xs) := h
  have HR : Hid (Rd0 w v xs.length (fun i => (r i : Int)) ∧ ∀ i, i < xs.length → r i ≤ 1048576) := ⟨hr, hb⟩
  have hcap := h.cap
  have hmax := h.max
  obtain ⟨va, vn, vc, hvv⟩ : ∃ va vn vc, v = .slice va vn vc := by
    rcases hr with ⟨h1, _⟩ | ⟨g, c, h1, _⟩
    · exact ⟨_, _, _, h1⟩
    · exact ⟨_, _, _, h1⟩
  subst hvv
  clear h hr hb
  go_enter Tryz.func50, Tryz.ntmps50
  go_wp2
  go_loopw [5, 6] (fun v x wr => ∃ k : Nat, k ≤ xs.length ∧ x = .int .i64 k ∧ v = .int .i64 (Rule.pick (sys xs) r k : Int) ∧ Kept No w wr) (fun _ x _ => xs.length - (intOf x).toNat)
  case atStart => exact ⟨0, Nat.zero_le _, rfl, rfl, Kept.refl No w⟩
  case round =>
    obtain ⟨k, hk, rfl, rfl, hw⟩ := hrel
    have HK : Hid (Kept No w wr) := hw
    clear hw
    by_cases hlt : k < xs.length
    · obtain ⟨g, rfl, hgv⟩ : ∃ g, va = some ⟨g, 0, none⟩ ∧ vn = xs.length ∧ Ct w g xs.length (fun i => (r i : Int)) := by
        rcases HR.out.1 with ⟨_, h0⟩ | ⟨g, c, h1, _, _, h2⟩
        · omega
        · injection h1 with h1 h3 _; exact ⟨g, h1, h3, h2⟩
      obtain ⟨rfl, hgc⟩ := hgv
      have x1 := (hgc.keep HK.out).at' k hlt
      have x2 := HR.out.2 k hlt
      obtain ⟨hok, b, o, rfl, hbb, e0, e1, e2, e3⟩ := (HS.out.keep HK.out).gs4 hlt
      have HX : Hid ((gs xs k).q = (sys xs).pr k) := rfl
      have hq6 : I6 (gs xs k).q := hok.2.2.2
      unfold I6 at hq6
      generalize (gs xs k).q = xq at *
      clear e0 e1 e2 hok hgc
      have hple := Rule.pick_le (sys xs) r k
      by_cases h0 : r k = 0
      · have HP : Hid (Rule.pick (sys xs) r (k + 1) = Rule.pick (sys xs) r k) := pick_no0 h0
        generalize r k = R at *
        have hR' : decide (0 < R) = false := decide_eq_false (by omega)
        clear x2 h0 e3 hq6
        generalize hpk : (Rule.pick (sys xs) r k : Int) = pk at *
        go_wp2
        go_quiet (fail)
        go_wp2
        go_roundw
        case rel => exact ⟨k + 1, by omega, by go_num, by rw [HP.out, hpk], HK.out.drewN _⟩
        case measure => simp [intOf]; omega
      · have h1 : 0 < r k := by omega
        by_cases hz : Rule.pick (sys xs) r k = 0
        · have HP : Hid (Rule.pick (sys xs) r (k + 1) = k + 1) := pick_yes0 h1 hz
          rw [hz]
          generalize r k = R at *
          clear h0 hz e3 hq6 hple
          go_wp2
          go_quiet (fail)
          go_wp2
          go_roundw
          case rel => exact ⟨k + 1, by omega, by go_num, by rw [HP.out]; go_num, HK.out.drewN _⟩
          case measure => simp [intOf]; omega
        · obtain ⟨p, hp⟩ : ∃ p, Rule.pick (sys xs) r k = p + 1 := ⟨Rule.pick (sys xs) r k - 1, by omega⟩
          have hpx : p < xs.length := by omega
          obtain ⟨hokp, b', o', he, _, f0, f1, f2, f3⟩ := (HS.out.keep HK.out).gs4 hpx
          simp only [Option.some.injEq, Addr.mk.injEq, and_true] at he
          obtain ⟨rfl, rfl⟩ := he
          have hp6 : I6 (gs xs p).q := hokp.2.2.2
          unfold I6 at hp6
          have HXP : Hid ((gs xs p).q = (sys xs).pr p) := rfl
          clear f0 f1 f2 hokp
          generalize (gs xs p).q = qp at *
          have ePk : ((p + 1 : Nat) : Int) - 1 = (p : Int) := by omega
          have ePz : (((p + 1 : Nat) : Int) == 0) = false := beq_eq_false_iff_ne.2 (by omega)
          rw [hp]
          have hpi : (p : Int) < (xs.length : Int) := by omega
          have hp0 : decide (((p + 1 : Nat) : Int) = 0) = false := decide_eq_false (by omega)
          generalize hpp : ((p + 1 : Nat) : Int) = pp at *
          by_cases hq : qp < xq
          · have HP : Hid (Rule.pick (sys xs) r (k + 1) = k + 1) := pick_yes1 h1 hp (by rw [← HXP.out, ← HX.out]; exact hq)
            generalize r k = R at *
            clear h0 hz hp hple
            go_wp2
            go_quiet (fail)
            go_wp2
            go_roundw
            case rel => exact ⟨k + 1, by omega, by go_num, by rw [HP.out]; go_num, HK.out.drewN _⟩
            case measure => simp [intOf]; omega
          · have HP : Hid ((Rule.pick (sys xs) r (k + 1) : Int) = pp) := by rw [pick_no1 hp (by rw [← HXP.out, ← HX.out]; exact hq)]; exact hpp
            generalize r k = R at *
            have hq' : decide (qp < xq) = false := decide_eq_false hq
            clear h0 hz hp hq hple
            go_wp2
            go_quiet (fail)
            go_wp2
            go_roundw
            case rel => exact ⟨k + 1, by omega, by go_num, by rw [HP.out], HK.out.drewN _⟩
            case measure => simp [intOf]; omega
    · have hke : k = xs.length := by omega
      subst hke
      go_wp2
      go_ret
      exact ⟨rfl, HK.out⟩
end Go.Proofs.YtffgcijicmfmlaaGreatDoor
