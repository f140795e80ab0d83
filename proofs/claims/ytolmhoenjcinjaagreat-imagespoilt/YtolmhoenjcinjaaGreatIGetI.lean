/-
  GetList and get of int64.
-/
import Derived.Test.YtolmhoenjcinjaaGreatIGl
import Derived.Test.YtolmhoenjcinjaaGreatIGot
namespace Go.Proofs.YtolmhoenjcinjaaGreat
open Go.RowKit
set_option linter.unusedVariables false
set_option maxRecDepth 100000

def clI (x : Int) : List Value := [.int .i64 x]
theorem clI_one (x : Int) : ∀ u ∈ clI x, u.oneCell' = true := by
  intro u hu; unfold clI at hu; simp at hu; subst hu; rfl
theorem Tryz.infEI : (Tryz.prog.info? 2).map (fun i => (i.zero, i.size, i.bytes)) = some (some (.int .i64 0), 1, 8) := by kernel_rfl
/-- a list that is wholly the caller's own -/
def OwI (w : World) (B : Nat) (v : Value) (l : List Int) : Prop := w.ownsRow B 2 1 v l.length ((l.map clI).flatten) ∧ okL I6 l ∧ l.length ≤ 1048576

set_option maxHeartbeats 8000000 in
theorem getList_I (F : Nat → Prop) (p : Nat) (xs : List Nat) (e : Int) (w : World) (h : Rd w F p xs e) (hsz : xs.length ≤ 1048576) :
    Calls Tryz.prog 147 #[.pointer (some ⟨p, 0, none⟩), .int .i64 1048576, .func (.func 109) #[] #[]] w fun ex w' => ∃ v l s', ex = .returned v ∧ OwI w' w.heap.size v l ∧ Got (decL decI) (xs, e) l s' ∧ RdDid F p s'.1 s'.2 w w' := by
  obtain ⟨i0, hi, hz0, hz1, hz2⟩ := info_parts Tryz.infEI
  have c60 := count_any F p xs e 1048576 w h
  have hflt : ∀ k, F k → k < w.heap.size := by obtain ⟨a, n, c, hv⟩ := h; exact hv.flt
  have HFL : Hid (∀ k, F k → k < w.heap.size) := hflt
  clear h hflt
  by_cases hok : e = 0 ∧ 4 ≤ xs.length ∧ val (xs.take 4) ≤ 1048576 ∧ val (xs.take 4) ≤ xs.length - 4
  · obtain ⟨rfl, hl4, hm, hr⟩ := hok
    obtain ⟨e1, e2, e3⟩ := cn_yes hl4 hm hr
    have hdec := decL_eq decI hl4 hm hr
    have hrl : (xs.drop 4).length ≤ xs.length := by rw [List.length_drop]; omega
    obtain ⟨N, hN⟩ : ∃ N, N = val (xs.take 4) := ⟨_, rfl⟩
    obtain ⟨r, hr'⟩ : ∃ r, r = xs.drop 4 := ⟨_, rfl⟩
    rw [e1, e2, e3] at c60
    rw [← hN, ← hr'] at c60 hdec
    rw [← hN] at hm hr
    rw [← hr'] at hrl
    have HDEC : Hid (decL decI xs = decNn decI N r) := hdec
    have hNb : N ≤ 1048576 := hm
    clear e1 e2 e3 hdec hN hr' hm hr hl4
    go_enter Tryz.func147, Tryz.ntmps147
    go_wp2_with (go_at_call 168; refine c60.mono ?_; rintro ex w1 ⟨rfl, hd⟩)
    have HD : Hid (RdDid F p r 0 w w1) := hd
    clear hd c60
    go_loopw [7, 12] (fun u i wr => ∃ (k : Nat) (l : List Int) (t : List Nat), k ≤ N ∧ i = .int .i64 k ∧ decNn decI k r = some (l, t) ∧ t.length ≤ xs.length ∧ l.length = k ∧ OwI wr w.heap.size u l ∧ RdDid F p t 0 w wr) (fun _ i _ => N - (intOf i).toNat)
    case atStart => exact ⟨0, [], r, by omega, rfl, rfl, hrl, rfl, ⟨World.ownsRow_nil _ _ _ _, (fun x hx => by cases hx), by simp⟩, HD.out⟩
    case round =>
      clear HD
      obtain ⟨k, l, t, hk, rfl, hdk, htl, hll, hown, hdr⟩ := hrel
      have HDK : Hid (decNn decI k r = some (l, t)) := hdk
      have HOW : Hid (OwI wr w.heap.size u7 l) := hown
      have HDR : Hid (RdDid F p t 0 w wr) := hdr
      have HLL : Hid (l.length = k) := hll
      have HTL : Hid (t.length ≤ xs.length) := htl
      by_cases hlt : k < N
      · have cg := askI F p t 0 wr hdr.1
        clear hdk hown hdr hll htl
        go_upto_region 5 with (go_at_call 109; refine cg.mono ?_; rintro ex w2 ⟨x, s2, rfl, hx, hg, hd2⟩)
        have HX : Hid (I6 x) := hx
        have HG : Hid (Got decI (t, 0) x s2) := hg
        have HD2 : Hid (RdDid F p s2.1 s2.2 wr w2) := hd2
        clear hx hg hd2 cg
        obtain ⟨w3, hw3⟩ : ∃ w3, w3 = w2 := ⟨_, rfl⟩
        subst hw3
        have HD3 := HD2
        obtain ⟨sb, se⟩ := s2
        dsimp only at HD2 HG HD3
        obtain ⟨ra, rn, rc, hv2⟩ := HD3.out.1
        have d1 := hv2.c1
        clear hv2
        by_cases hse : se = 0
        · subst hse
          have hov2 : w3.ownsRow w.heap.size 2 1 u7 k ((l.map clI).flatten) := by
            have := HOW.out.1
            rw [HLL.out] at this
            exact HD3.out.2.owns this (fun g hg e => by have := (HOW.out.1.lt g hg).1; have h3 := HFL.out p HD3.out.fp; omega)
          have HOV2 : Hid (w3.ownsRow w.heap.size 2 1 u7 k ((l.map clI).flatten)) := hov2
          have hsz3 := HD3.out.2.size
          have hszr := HDR.out.2.size
          clear hov2
          go_wp2_with (at_builtin; refine wpList_append_own _ rfl _ _ 58 rfl w.heap.size 2 i0 (.int .i64 0) 1 8 Tryz.underlying58 hi hz0 hz1 hz2 rfl (by decide) _ _ _ rfl (HOV2.out.alloc _) ⟨w3.heap.size, 0, none⟩ 1 1 (clI x) rfl rfl (cells_new w3 (clI x) _ _ rfl) (clI_one x) (by unfold maxLen; omega) (by omega) (by simp; omega) ?_; intro v4 w4 own4 grow4 _)
          have hk4 : Kept (fun k => k = p) w w4 := ((HDR.out.2.trans HD3.out.2 (fun _ h => .inl h)).alloc _).grown grow4 (fun k hk => .inr (HOV2.out.lt k hk).1)
          have hr4 : Rd w4 F p sb 0 := by
            refine HD3.out.1.kept (G := fun k => u7.ownBlock = some k) (((Kept.refl (fun k => u7.ownBlock = some k) w3).alloc _).grown grow4 (fun k hk => .inl hk)) (fun b hb hu => ?_)
            have h3 := HFL.out b hb
            have h4 := (HOV2.out.lt b hu).1
            omega
          have hgot : decI t = some (x, sb) := by
            rcases HG.out.got with ⟨_, _, h⟩ | ⟨h, _⟩
            · exact h
            · exact absurd rfl h
          have own5 : OwI w4 w.heap.size v4 (l ++ [x]) := by
            refine ⟨?_, ?_, ?_⟩
            · rw [flat_snoc, List.length_append, HLL.out]; exact own4
            · intro y hy
              rcases List.mem_append.1 hy with hy | hy
              · exact HOW.out.2.1 y hy
              · simp at hy; subst hy; exact HX.out
            · rw [List.length_append, HLL.out, List.length_singleton]; omega
          have HEND : Hid (decNn decI (k + 1) r = some (l ++ [x], sb) ∧ sb.length ≤ xs.length ∧ OwI w4 w.heap.size v4 (l ++ [x]) ∧ RdDid F p sb 0 w w4) := ⟨step_yes HDK.out hgot, Nat.le_trans HG.out.len HTL.out, own5, hr4, hk4⟩
          clear grow4 own4 own5 hk4 hr4 hgot
          go_wp2
          go_roundw
          case rel => exact ⟨k + 1, l ++ [x], sb, by omega, by go_num, HEND.out.1, HEND.out.2.1, by rw [List.length_append, HLL.out]; rfl, HEND.out.2.2.1, HEND.out.2.2.2⟩
          case measure => simp [intOf]; omega
        · have hse2 : (se == 0) = false := by simpa using hse
          have hno : decI t = none := by
            rcases HG.out.got with ⟨_, h, _⟩ | ⟨_, h⟩
            · exact absurd h hse
            · exact h rfl
          have HNO : Hid (decL decI xs = none) := HDEC.out.trans (dec_none (by omega) (step_no HDK.out hno))
          have HSE : Hid (se ≠ 0) := hse
          clear hse hno
          go_wp2
          go_ret
          first
            | exact ⟨_, [], (sb, se), rfl, ⟨World.ownsRow_nil _ _ _ _, (fun x hx => by cases hx), by simp⟩, got_no decI [] (Nat.le_trans HG.out.len HTL.out) HSE.out (fun _ => HNO.out), HD3.out.1, HDR.out.2.trans HD3.out.2 (fun _ h => .inl h)⟩
            | exact ⟨_, rfl, [], ⟨World.ownsRow_nil _ _ _ _, (fun x hx => by cases hx), by simp⟩, sb, se, got_no decI [] (Nat.le_trans HG.out.len HTL.out) HSE.out (fun _ => HNO.out), HD3.out.1, HDR.out.2.trans HD3.out.2 (fun _ h => .inl h)⟩
      · have hkN : k = N := by omega
        subst hkN
        clear hown hdr hdk hll htl
        go_wp2
        go_ret
        exact ⟨_, l, (t, 0), rfl, HOW.out, ⟨HTL.out, .inl ⟨rfl, rfl, HDEC.out.trans HDK.out⟩⟩, HDR.out⟩
  · obtain ⟨e1, e2, e3⟩ := cn_no hok
    have hno : e = 0 → decL decI xs = none := fun he => by
      unfold decL; rw [if_neg (fun h => hok ⟨he, h⟩)]
    have HNO : Hid (e = 0 → decL decI xs = none) := hno
    rw [e1, e2] at c60
    obtain ⟨ce, hce⟩ : ∃ ce, ce = cnE xs e 1048576 := ⟨_, rfl⟩
    rw [← hce] at c60 e3
    have HCE : Hid (ce ≠ 0) := e3
    clear e1 e2 e3 hok hno hce
    go_enter Tryz.func147, Tryz.ntmps147
    go_wp2_with (go_at_call 168; refine c60.mono ?_; rintro ex w1 ⟨rfl, hd⟩)
    have HD : Hid (RdDid F p xs ce w w1) := hd
    clear hd
    go_loopw [7, 12] (fun u i wr => i = .int .i64 0 ∧ u = .slice none 0 0 ∧ wr = w1) (fun _ _ _ => 0)
    case atStart => exact ⟨rfl, rfl, rfl⟩
    case round =>
      obtain ⟨rfl, rfl, rfl⟩ := hrel
      go_wp2
      go_ret
      exact ⟨_, [], (xs, ce), rfl, ⟨World.ownsRow_nil _ _ _ _, (fun x hx => by cases hx), by simp⟩, got_no decI [] (Nat.le_refl _) HCE.out HNO.out, HD.out⟩

theorem get_I (F : Nat → Prop) (p : Nat) (xs : List Nat) (e : Int) (w : World) (h : Rd w F p xs e) (hsz : xs.length ≤ 1048576) :
    Calls Tryz.prog 108 #[.pointer (some ⟨p, 0, none⟩), .func (.func 109) #[] #[]] w fun ex w' => ∃ v l s', ex = .returned v ∧ OwI w' w.heap.size v l ∧ Got (decL decI) (xs, e) l s' ∧ RdDid F p s'.1 s'.2 w w' := by
  have cc := getList_I F p xs e w h hsz
  clear h hsz
  go_enter Tryz.func108, Tryz.ntmps108
  go_wp2_with (go_at_call 147; refine cc.mono ?_; rintro ex w1 ⟨v, l, s', rfl, h1, h2, h3⟩)
  go_ret
  exact ⟨v, l, s', rfl, h1, h2, h3⟩

end Go.Proofs.YtolmhoenjcinjaaGreat
