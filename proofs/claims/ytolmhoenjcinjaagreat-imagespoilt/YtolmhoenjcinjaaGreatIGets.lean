/-
  One text: IGetPrc, IGetSm, IGetBf, IGetPo.
-/
import Derived.Test.YtolmhoenjcinjaaGreatIGl
import Derived.Test.YtolmhoenjcinjaaGreatIAsks
namespace Go.Proofs.YtolmhoenjcinjaaGreat
open Go.RowKit
set_option linter.unusedVariables false
set_option maxRecDepth 100000

def clPrc (x : Prc) : List Value := [.int .i64 x.en, .int .i64 x.pr, .int .i64 x.pe, .int .i64 x.li, .int .i64 x.ca, .bool x.auto]
theorem clPrc_one (x : Prc) : ∀ u ∈ clPrc x, u.oneCell' = true := by
  intro u hu; unfold clPrc at hu; simp at hu; rcases hu with rfl | rfl | rfl | rfl | rfl | rfl <;> rfl
theorem Tryz.infEPrc : (Tryz.prog.info? 124).map (fun i => (i.zero, i.size, i.bytes)) = some (some (.agg #[.int .i64 0, .int .i64 0, .int .i64 0, .int .i64 0, .int .i64 0, .bool false]), 6, 48) := by kernel_rfl
/-- a list that is wholly the caller's own -/
def OwPrc (w : World) (B : Nat) (v : Value) (l : List Prc) : Prop := w.ownsRow B 124 6 v l.length ((l.map clPrc).flatten) ∧ okL okPrc l ∧ l.length ≤ 1048576

set_option maxHeartbeats 8000000 in
theorem getList_Prc (F : Nat → Prop) (p : Nat) (xs : List Nat) (e : Int) (w : World) (h : Rd w F p xs e) (hsz : xs.length ≤ 1048576) :
    Calls Tryz.prog 171 #[.pointer (some ⟨p, 0, none⟩), .int .i64 1048576, .func (.func 154) #[] #[]] w fun ex w' => ∃ v l s', ex = .returned v ∧ OwPrc w' w.heap.size v l ∧ Got (decL decPrc) (xs, e) l s' ∧ RdDid F p s'.1 s'.2 w w' := by
  obtain ⟨i0, hi, hz0, hz1, hz2⟩ := info_parts Tryz.infEPrc
  have c60 := count_any F p xs e 1048576 w h
  have hflt : ∀ k, F k → k < w.heap.size := by obtain ⟨a, n, c, hv⟩ := h; exact hv.flt
  have HFL : Hid (∀ k, F k → k < w.heap.size) := hflt
  clear h hflt
  by_cases hok : e = 0 ∧ 4 ≤ xs.length ∧ val (xs.take 4) ≤ 1048576 ∧ val (xs.take 4) ≤ xs.length - 4
  · obtain ⟨rfl, hl4, hm, hr⟩ := hok
    obtain ⟨e1, e2, e3⟩ := cn_yes hl4 hm hr
    have hdec := decL_eq decPrc hl4 hm hr
    have hrl : (xs.drop 4).length ≤ xs.length := by rw [List.length_drop]; omega
    obtain ⟨N, hN⟩ : ∃ N, N = val (xs.take 4) := ⟨_, rfl⟩
    obtain ⟨r, hr'⟩ : ∃ r, r = xs.drop 4 := ⟨_, rfl⟩
    rw [e1, e2, e3] at c60
    rw [← hN, ← hr'] at c60 hdec
    rw [← hN] at hm hr
    rw [← hr'] at hrl
    have HDEC : Hid (decL decPrc xs = decNn decPrc N r) := hdec
    have hNb : N ≤ 1048576 := hm
    clear e1 e2 e3 hdec hN hr' hm hr hl4
    go_enter Tryz.func171, Tryz.ntmps171
    go_wp2_with (go_at_call 168; refine c60.mono ?_; rintro ex w1 ⟨rfl, hd⟩)
    have HD : Hid (RdDid F p r 0 w w1) := hd
    clear hd c60
    go_loopw [7, 12] (fun u i wr => ∃ (k : Nat) (l : List Prc) (t : List Nat), k ≤ N ∧ i = .int .i64 k ∧ decNn decPrc k r = some (l, t) ∧ t.length ≤ xs.length ∧ l.length = k ∧ OwPrc wr w.heap.size u l ∧ RdDid F p t 0 w wr) (fun _ i _ => N - (intOf i).toNat)
    case atStart => exact ⟨0, [], r, by omega, rfl, rfl, hrl, rfl, ⟨World.ownsRow_nil _ _ _ _, (fun x hx => by cases hx), by simp⟩, HD.out⟩
    case round =>
      clear HD
      obtain ⟨k, l, t, hk, rfl, hdk, htl, hll, hown, hdr⟩ := hrel
      have HDK : Hid (decNn decPrc k r = some (l, t)) := hdk
      have HOW : Hid (OwPrc wr w.heap.size u7 l) := hown
      have HDR : Hid (RdDid F p t 0 w wr) := hdr
      have HLL : Hid (l.length = k) := hll
      have HTL : Hid (t.length ≤ xs.length) := htl
      by_cases hlt : k < N
      · have cg := askPrc F p t 0 wr hdr.1
        clear hdk hown hdr hll htl
        go_upto_region 5 with (go_at_call 154; refine cg.mono ?_; rintro ex w2 ⟨x, s2, rfl, hx, hg, hd2⟩)
        have HX : Hid (okPrc x) := hx
        have HG : Hid (Got decPrc (t, 0) x s2) := hg
        have HD2 : Hid (RdDid F p s2.1 s2.2 wr w2) := hd2
        clear hx hg hd2 cg
        have hkb : Kept No w2 (w2.alloc (.cells #[.int .i64 x.en, .int .i64 x.pr, .int .i64 x.pe, .int .i64 x.li, .int .i64 x.ca, .bool x.auto] 124)) := (Kept.refl No w2).alloc _
        have HD3 : Hid (RdDid F p s2.1 s2.2 wr (w2.alloc (.cells #[.int .i64 x.en, .int .i64 x.pr, .int .i64 x.pe, .int .i64 x.li, .int .i64 x.ca, .bool x.auto] 124))) := ⟨HD2.out.1.kept hkb (fun _ _ h => h), HD2.out.2.trans hkb (fun _ h => h.elim)⟩
        have HBX : Hid (Bk (w2.alloc (.cells #[.int .i64 x.en, .int .i64 x.pr, .int .i64 x.pe, .int .i64 x.li, .int .i64 x.ca, .bool x.auto] 124)) w2.heap.size (clPrc x) 124) := heap_alloc_new w2 _
        clear hkb
        generalize hW3 : w2.alloc (.cells #[.int .i64 x.en, .int .i64 x.pr, .int .i64 x.pe, .int .i64 x.li, .int .i64 x.ca, .bool x.auto] 124) = w3 at *
        have q0 : w3.cell? ⟨w2.heap.size, 0, none⟩ = some (.int .i64 x.en) := HBX.out.cell (j := 0) rfl
        have q1 : w3.cell? ⟨w2.heap.size, 1, none⟩ = some (.int .i64 x.pr) := HBX.out.cell (j := 1) rfl
        have q2 : w3.cell? ⟨w2.heap.size, 2, none⟩ = some (.int .i64 x.pe) := HBX.out.cell (j := 2) rfl
        have q3 : w3.cell? ⟨w2.heap.size, 3, none⟩ = some (.int .i64 x.li) := HBX.out.cell (j := 3) rfl
        have q4 : w3.cell? ⟨w2.heap.size, 4, none⟩ = some (.int .i64 x.ca) := HBX.out.cell (j := 4) rfl
        have q5 : w3.cell? ⟨w2.heap.size, 5, none⟩ = some (.bool x.auto) := HBX.out.cell (j := 5) rfl
        obtain ⟨sb, se⟩ := s2
        dsimp only at HD2 HG HD3
        obtain ⟨ra, rn, rc, hv2⟩ := HD3.out.1
        have d1 := hv2.c1
        clear hv2
        by_cases hse : se = 0
        · subst hse
          have hov2 : w3.ownsRow w.heap.size 124 6 u7 k ((l.map clPrc).flatten) := by
            have := HOW.out.1
            rw [HLL.out] at this
            exact HD3.out.2.owns this (fun g hg e => by have := (HOW.out.1.lt g hg).1; have h3 := HFL.out p HD3.out.fp; omega)
          have HOV2 : Hid (w3.ownsRow w.heap.size 124 6 u7 k ((l.map clPrc).flatten)) := hov2
          have hsz3 := HD3.out.2.size
          have hszr := HDR.out.2.size
          clear hov2
          go_wp2_with (at_builtin; refine wpList_append_own _ rfl _ _ 60 rfl w.heap.size 124 i0 (.agg #[.int .i64 0, .int .i64 0, .int .i64 0, .int .i64 0, .int .i64 0, .bool false]) 6 48 Tryz.underlying60 hi hz0 hz1 hz2 rfl (by decide) _ _ _ rfl (HOV2.out.alloc _) ⟨w3.heap.size, 0, none⟩ 1 1 (clPrc x) rfl rfl (cells_new w3 (clPrc x) _ _ rfl) (clPrc_one x) (by unfold maxLen; omega) (by omega) (by simp; omega) ?_; intro v4 w4 own4 grow4 _)
          have hk4 : Kept (fun k => k = p) w w4 := ((HDR.out.2.trans HD3.out.2 (fun _ h => .inl h)).alloc _).grown grow4 (fun k hk => .inr (HOV2.out.lt k hk).1)
          have hr4 : Rd w4 F p sb 0 := by
            refine HD3.out.1.kept (G := fun k => u7.ownBlock = some k) (((Kept.refl (fun k => u7.ownBlock = some k) w3).alloc _).grown grow4 (fun k hk => .inl hk)) (fun b hb hu => ?_)
            have h3 := HFL.out b hb
            have h4 := (HOV2.out.lt b hu).1
            omega
          have hgot : decPrc t = some (x, sb) := by
            rcases HG.out.got with ⟨_, _, h⟩ | ⟨h, _⟩
            · exact h
            · exact absurd rfl h
          have own5 : OwPrc w4 w.heap.size v4 (l ++ [x]) := by
            refine ⟨?_, ?_, ?_⟩
            · rw [flat_snoc, List.length_append, HLL.out]; exact own4
            · intro y hy
              rcases List.mem_append.1 hy with hy | hy
              · exact HOW.out.2.1 y hy
              · simp at hy; subst hy; exact HX.out
            · rw [List.length_append, HLL.out, List.length_singleton]; omega
          have HEND : Hid (decNn decPrc (k + 1) r = some (l ++ [x], sb) ∧ sb.length ≤ xs.length ∧ OwPrc w4 w.heap.size v4 (l ++ [x]) ∧ RdDid F p sb 0 w w4) := ⟨step_yes HDK.out hgot, Nat.le_trans HG.out.len HTL.out, own5, hr4, hk4⟩
          clear grow4 own4 own5 hk4 hr4 hgot
          go_wp2
          go_roundw
          case rel => exact ⟨k + 1, l ++ [x], sb, by omega, by go_num, HEND.out.1, HEND.out.2.1, by rw [List.length_append, HLL.out]; rfl, HEND.out.2.2.1, HEND.out.2.2.2⟩
          case measure => simp [intOf]; omega
        · have hse2 : (se == 0) = false := by simpa using hse
          have hno : decPrc t = none := by
            rcases HG.out.got with ⟨_, h, _⟩ | ⟨_, h⟩
            · exact absurd h hse
            · exact h rfl
          have HNO : Hid (decL decPrc xs = none) := HDEC.out.trans (dec_none (by omega) (step_no HDK.out hno))
          have HSE : Hid (se ≠ 0) := hse
          clear hse hno
          go_wp2
          go_ret
          first
            | exact ⟨_, [], (sb, se), rfl, ⟨World.ownsRow_nil _ _ _ _, (fun x hx => by cases hx), by simp⟩, got_no decPrc [] (Nat.le_trans HG.out.len HTL.out) HSE.out (fun _ => HNO.out), HD3.out.1, HDR.out.2.trans HD3.out.2 (fun _ h => .inl h)⟩
            | exact ⟨_, rfl, [], ⟨World.ownsRow_nil _ _ _ _, (fun x hx => by cases hx), by simp⟩, sb, se, got_no decPrc [] (Nat.le_trans HG.out.len HTL.out) HSE.out (fun _ => HNO.out), HD3.out.1, HDR.out.2.trans HD3.out.2 (fun _ h => .inl h)⟩
      · have hkN : k = N := by omega
        subst hkN
        clear hown hdr hdk hll htl
        go_wp2
        go_ret
        exact ⟨_, l, (t, 0), rfl, HOW.out, ⟨HTL.out, .inl ⟨rfl, rfl, HDEC.out.trans HDK.out⟩⟩, HDR.out⟩
  · obtain ⟨e1, e2, e3⟩ := cn_no hok
    have hno : e = 0 → decL decPrc xs = none := fun he => by
      unfold decL; rw [if_neg (fun h => hok ⟨he, h⟩)]
    have HNO : Hid (e = 0 → decL decPrc xs = none) := hno
    rw [e1, e2] at c60
    obtain ⟨ce, hce⟩ : ∃ ce, ce = cnE xs e 1048576 := ⟨_, rfl⟩
    rw [← hce] at c60 e3
    have HCE : Hid (ce ≠ 0) := e3
    clear e1 e2 e3 hok hno hce
    go_enter Tryz.func171, Tryz.ntmps171
    go_wp2_with (go_at_call 168; refine c60.mono ?_; rintro ex w1 ⟨rfl, hd⟩)
    have HD : Hid (RdDid F p xs ce w w1) := hd
    clear hd
    go_loopw [7, 12] (fun u i wr => i = .int .i64 0 ∧ u = .slice none 0 0 ∧ wr = w1) (fun _ _ _ => 0)
    case atStart => exact ⟨rfl, rfl, rfl⟩
    case round =>
      obtain ⟨rfl, rfl, rfl⟩ := hrel
      go_wp2
      go_ret
      exact ⟨_, [], (xs, ce), rfl, ⟨World.ownsRow_nil _ _ _ _, (fun x hx => by cases hx), by simp⟩, got_no decPrc [] (Nat.le_refl _) HCE.out HNO.out, HD.out⟩

theorem get_Prc (F : Nat → Prop) (p : Nat) (xs : List Nat) (e : Int) (w : World) (h : Rd w F p xs e) (hsz : xs.length ≤ 1048576) :
    Calls Tryz.prog 153 #[.pointer (some ⟨p, 0, none⟩), .func (.func 154) #[] #[]] w fun ex w' => ∃ v l s', ex = .returned v ∧ OwPrc w' w.heap.size v l ∧ Got (decL decPrc) (xs, e) l s' ∧ RdDid F p s'.1 s'.2 w w' := by
  have cc := getList_Prc F p xs e w h hsz
  clear h hsz
  go_enter Tryz.func153, Tryz.ntmps153
  go_wp2_with (go_at_call 171; refine cc.mono ?_; rintro ex w1 ⟨v, l, s', rfl, h1, h2, h3⟩)
  go_ret
  exact ⟨v, l, s', rfl, h1, h2, h3⟩

theorem gets_Prc (F : Nat → Prop) (p : Nat) (xs : List Nat) (e : Int) (w : World) (h : Rd w F p xs e) (hsz : xs.length ≤ 1048576) :
    Calls Tryz.prog 111 #[.pointer (some ⟨p, 0, none⟩)] w fun ex w' => ∃ v l s', ex = .returned v ∧ OwPrc w' w.heap.size v l ∧ Got (decL decPrc) (xs, e) l s' ∧ RdDid F p s'.1 s'.2 w w' := by
  have cc := get_Prc F p xs e w h hsz
  clear h hsz
  go_enter Tryz.func111, Tryz.ntmps111
  go_wp2_with (go_at_call 153; refine cc.mono ?_; rintro ex w1 ⟨v, l, s', rfl, h1, h2, h3⟩)
  go_ret
  exact ⟨v, l, s', rfl, h1, h2, h3⟩

end Go.Proofs.YtolmhoenjcinjaaGreat

namespace Go.Proofs.YtolmhoenjcinjaaGreat
open Go.RowKit
set_option linter.unusedVariables false
set_option maxRecDepth 100000

def clSm (x : Sm) : List Value := [.int .i64 x.st, .int .i64 x.mx]
theorem clSm_one (x : Sm) : ∀ u ∈ clSm x, u.oneCell' = true := by
  intro u hu; unfold clSm at hu; simp at hu; rcases hu with rfl | rfl <;> rfl
theorem Tryz.infESm : (Tryz.prog.info? 126).map (fun i => (i.zero, i.size, i.bytes)) = some (some (.agg #[.int .i64 0, .int .i64 0]), 2, 16) := by kernel_rfl
/-- a list that is wholly the caller's own -/
def OwSm (w : World) (B : Nat) (v : Value) (l : List Sm) : Prop := w.ownsRow B 126 2 v l.length ((l.map clSm).flatten) ∧ okL okSm l ∧ l.length ≤ 1048576

set_option maxHeartbeats 8000000 in
theorem getList_Sm (F : Nat → Prop) (p : Nat) (xs : List Nat) (e : Int) (w : World) (h : Rd w F p xs e) (hsz : xs.length ≤ 1048576) :
    Calls Tryz.prog 172 #[.pointer (some ⟨p, 0, none⟩), .int .i64 1048576, .func (.func 156) #[] #[]] w fun ex w' => ∃ v l s', ex = .returned v ∧ OwSm w' w.heap.size v l ∧ Got (decL decSm) (xs, e) l s' ∧ RdDid F p s'.1 s'.2 w w' := by
  obtain ⟨i0, hi, hz0, hz1, hz2⟩ := info_parts Tryz.infESm
  have c60 := count_any F p xs e 1048576 w h
  have hflt : ∀ k, F k → k < w.heap.size := by obtain ⟨a, n, c, hv⟩ := h; exact hv.flt
  have HFL : Hid (∀ k, F k → k < w.heap.size) := hflt
  clear h hflt
  by_cases hok : e = 0 ∧ 4 ≤ xs.length ∧ val (xs.take 4) ≤ 1048576 ∧ val (xs.take 4) ≤ xs.length - 4
  · obtain ⟨rfl, hl4, hm, hr⟩ := hok
    obtain ⟨e1, e2, e3⟩ := cn_yes hl4 hm hr
    have hdec := decL_eq decSm hl4 hm hr
    have hrl : (xs.drop 4).length ≤ xs.length := by rw [List.length_drop]; omega
    obtain ⟨N, hN⟩ : ∃ N, N = val (xs.take 4) := ⟨_, rfl⟩
    obtain ⟨r, hr'⟩ : ∃ r, r = xs.drop 4 := ⟨_, rfl⟩
    rw [e1, e2, e3] at c60
    rw [← hN, ← hr'] at c60 hdec
    rw [← hN] at hm hr
    rw [← hr'] at hrl
    have HDEC : Hid (decL decSm xs = decNn decSm N r) := hdec
    have hNb : N ≤ 1048576 := hm
    clear e1 e2 e3 hdec hN hr' hm hr hl4
    go_enter Tryz.func172, Tryz.ntmps172
    go_wp2_with (go_at_call 168; refine c60.mono ?_; rintro ex w1 ⟨rfl, hd⟩)
    have HD : Hid (RdDid F p r 0 w w1) := hd
    clear hd c60
    go_loopw [7, 12] (fun u i wr => ∃ (k : Nat) (l : List Sm) (t : List Nat), k ≤ N ∧ i = .int .i64 k ∧ decNn decSm k r = some (l, t) ∧ t.length ≤ xs.length ∧ l.length = k ∧ OwSm wr w.heap.size u l ∧ RdDid F p t 0 w wr) (fun _ i _ => N - (intOf i).toNat)
    case atStart => exact ⟨0, [], r, by omega, rfl, rfl, hrl, rfl, ⟨World.ownsRow_nil _ _ _ _, (fun x hx => by cases hx), by simp⟩, HD.out⟩
    case round =>
      clear HD
      obtain ⟨k, l, t, hk, rfl, hdk, htl, hll, hown, hdr⟩ := hrel
      have HDK : Hid (decNn decSm k r = some (l, t)) := hdk
      have HOW : Hid (OwSm wr w.heap.size u7 l) := hown
      have HDR : Hid (RdDid F p t 0 w wr) := hdr
      have HLL : Hid (l.length = k) := hll
      have HTL : Hid (t.length ≤ xs.length) := htl
      by_cases hlt : k < N
      · have cg := askSm F p t 0 wr hdr.1
        clear hdk hown hdr hll htl
        go_upto_region 5 with (go_at_call 156; refine cg.mono ?_; rintro ex w2 ⟨x, s2, rfl, hx, hg, hd2⟩)
        have HX : Hid (okSm x) := hx
        have HG : Hid (Got decSm (t, 0) x s2) := hg
        have HD2 : Hid (RdDid F p s2.1 s2.2 wr w2) := hd2
        clear hx hg hd2 cg
        have hkb : Kept No w2 (w2.alloc (.cells #[.int .i64 x.st, .int .i64 x.mx] 126)) := (Kept.refl No w2).alloc _
        have HD3 : Hid (RdDid F p s2.1 s2.2 wr (w2.alloc (.cells #[.int .i64 x.st, .int .i64 x.mx] 126))) := ⟨HD2.out.1.kept hkb (fun _ _ h => h), HD2.out.2.trans hkb (fun _ h => h.elim)⟩
        have HBX : Hid (Bk (w2.alloc (.cells #[.int .i64 x.st, .int .i64 x.mx] 126)) w2.heap.size (clSm x) 126) := heap_alloc_new w2 _
        clear hkb
        generalize hW3 : w2.alloc (.cells #[.int .i64 x.st, .int .i64 x.mx] 126) = w3 at *
        have q0 : w3.cell? ⟨w2.heap.size, 0, none⟩ = some (.int .i64 x.st) := HBX.out.cell (j := 0) rfl
        have q1 : w3.cell? ⟨w2.heap.size, 1, none⟩ = some (.int .i64 x.mx) := HBX.out.cell (j := 1) rfl
        obtain ⟨sb, se⟩ := s2
        dsimp only at HD2 HG HD3
        obtain ⟨ra, rn, rc, hv2⟩ := HD3.out.1
        have d1 := hv2.c1
        clear hv2
        by_cases hse : se = 0
        · subst hse
          have hov2 : w3.ownsRow w.heap.size 126 2 u7 k ((l.map clSm).flatten) := by
            have := HOW.out.1
            rw [HLL.out] at this
            exact HD3.out.2.owns this (fun g hg e => by have := (HOW.out.1.lt g hg).1; have h3 := HFL.out p HD3.out.fp; omega)
          have HOV2 : Hid (w3.ownsRow w.heap.size 126 2 u7 k ((l.map clSm).flatten)) := hov2
          have hsz3 := HD3.out.2.size
          have hszr := HDR.out.2.size
          clear hov2
          go_wp2_with (at_builtin; refine wpList_append_own _ rfl _ _ 62 rfl w.heap.size 126 i0 (.agg #[.int .i64 0, .int .i64 0]) 2 16 Tryz.underlying62 hi hz0 hz1 hz2 rfl (by decide) _ _ _ rfl (HOV2.out.alloc _) ⟨w3.heap.size, 0, none⟩ 1 1 (clSm x) rfl rfl (cells_new w3 (clSm x) _ _ rfl) (clSm_one x) (by unfold maxLen; omega) (by omega) (by simp; omega) ?_; intro v4 w4 own4 grow4 _)
          have hk4 : Kept (fun k => k = p) w w4 := ((HDR.out.2.trans HD3.out.2 (fun _ h => .inl h)).alloc _).grown grow4 (fun k hk => .inr (HOV2.out.lt k hk).1)
          have hr4 : Rd w4 F p sb 0 := by
            refine HD3.out.1.kept (G := fun k => u7.ownBlock = some k) (((Kept.refl (fun k => u7.ownBlock = some k) w3).alloc _).grown grow4 (fun k hk => .inl hk)) (fun b hb hu => ?_)
            have h3 := HFL.out b hb
            have h4 := (HOV2.out.lt b hu).1
            omega
          have hgot : decSm t = some (x, sb) := by
            rcases HG.out.got with ⟨_, _, h⟩ | ⟨h, _⟩
            · exact h
            · exact absurd rfl h
          have own5 : OwSm w4 w.heap.size v4 (l ++ [x]) := by
            refine ⟨?_, ?_, ?_⟩
            · rw [flat_snoc, List.length_append, HLL.out]; exact own4
            · intro y hy
              rcases List.mem_append.1 hy with hy | hy
              · exact HOW.out.2.1 y hy
              · simp at hy; subst hy; exact HX.out
            · rw [List.length_append, HLL.out, List.length_singleton]; omega
          have HEND : Hid (decNn decSm (k + 1) r = some (l ++ [x], sb) ∧ sb.length ≤ xs.length ∧ OwSm w4 w.heap.size v4 (l ++ [x]) ∧ RdDid F p sb 0 w w4) := ⟨step_yes HDK.out hgot, Nat.le_trans HG.out.len HTL.out, own5, hr4, hk4⟩
          clear grow4 own4 own5 hk4 hr4 hgot
          go_wp2
          go_roundw
          case rel => exact ⟨k + 1, l ++ [x], sb, by omega, by go_num, HEND.out.1, HEND.out.2.1, by rw [List.length_append, HLL.out]; rfl, HEND.out.2.2.1, HEND.out.2.2.2⟩
          case measure => simp [intOf]; omega
        · have hse2 : (se == 0) = false := by simpa using hse
          have hno : decSm t = none := by
            rcases HG.out.got with ⟨_, h, _⟩ | ⟨_, h⟩
            · exact absurd h hse
            · exact h rfl
          have HNO : Hid (decL decSm xs = none) := HDEC.out.trans (dec_none (by omega) (step_no HDK.out hno))
          have HSE : Hid (se ≠ 0) := hse
          clear hse hno
          go_wp2
          go_ret
          first
            | exact ⟨_, [], (sb, se), rfl, ⟨World.ownsRow_nil _ _ _ _, (fun x hx => by cases hx), by simp⟩, got_no decSm [] (Nat.le_trans HG.out.len HTL.out) HSE.out (fun _ => HNO.out), HD3.out.1, HDR.out.2.trans HD3.out.2 (fun _ h => .inl h)⟩
            | exact ⟨_, rfl, [], ⟨World.ownsRow_nil _ _ _ _, (fun x hx => by cases hx), by simp⟩, sb, se, got_no decSm [] (Nat.le_trans HG.out.len HTL.out) HSE.out (fun _ => HNO.out), HD3.out.1, HDR.out.2.trans HD3.out.2 (fun _ h => .inl h)⟩
      · have hkN : k = N := by omega
        subst hkN
        clear hown hdr hdk hll htl
        go_wp2
        go_ret
        exact ⟨_, l, (t, 0), rfl, HOW.out, ⟨HTL.out, .inl ⟨rfl, rfl, HDEC.out.trans HDK.out⟩⟩, HDR.out⟩
  · obtain ⟨e1, e2, e3⟩ := cn_no hok
    have hno : e = 0 → decL decSm xs = none := fun he => by
      unfold decL; rw [if_neg (fun h => hok ⟨he, h⟩)]
    have HNO : Hid (e = 0 → decL decSm xs = none) := hno
    rw [e1, e2] at c60
    obtain ⟨ce, hce⟩ : ∃ ce, ce = cnE xs e 1048576 := ⟨_, rfl⟩
    rw [← hce] at c60 e3
    have HCE : Hid (ce ≠ 0) := e3
    clear e1 e2 e3 hok hno hce
    go_enter Tryz.func172, Tryz.ntmps172
    go_wp2_with (go_at_call 168; refine c60.mono ?_; rintro ex w1 ⟨rfl, hd⟩)
    have HD : Hid (RdDid F p xs ce w w1) := hd
    clear hd
    go_loopw [7, 12] (fun u i wr => i = .int .i64 0 ∧ u = .slice none 0 0 ∧ wr = w1) (fun _ _ _ => 0)
    case atStart => exact ⟨rfl, rfl, rfl⟩
    case round =>
      obtain ⟨rfl, rfl, rfl⟩ := hrel
      go_wp2
      go_ret
      exact ⟨_, [], (xs, ce), rfl, ⟨World.ownsRow_nil _ _ _ _, (fun x hx => by cases hx), by simp⟩, got_no decSm [] (Nat.le_refl _) HCE.out HNO.out, HD.out⟩

theorem get_Sm (F : Nat → Prop) (p : Nat) (xs : List Nat) (e : Int) (w : World) (h : Rd w F p xs e) (hsz : xs.length ≤ 1048576) :
    Calls Tryz.prog 155 #[.pointer (some ⟨p, 0, none⟩), .func (.func 156) #[] #[]] w fun ex w' => ∃ v l s', ex = .returned v ∧ OwSm w' w.heap.size v l ∧ Got (decL decSm) (xs, e) l s' ∧ RdDid F p s'.1 s'.2 w w' := by
  have cc := getList_Sm F p xs e w h hsz
  clear h hsz
  go_enter Tryz.func155, Tryz.ntmps155
  go_wp2_with (go_at_call 172; refine cc.mono ?_; rintro ex w1 ⟨v, l, s', rfl, h1, h2, h3⟩)
  go_ret
  exact ⟨v, l, s', rfl, h1, h2, h3⟩

theorem gets_Sm (F : Nat → Prop) (p : Nat) (xs : List Nat) (e : Int) (w : World) (h : Rd w F p xs e) (hsz : xs.length ≤ 1048576) :
    Calls Tryz.prog 112 #[.pointer (some ⟨p, 0, none⟩)] w fun ex w' => ∃ v l s', ex = .returned v ∧ OwSm w' w.heap.size v l ∧ Got (decL decSm) (xs, e) l s' ∧ RdDid F p s'.1 s'.2 w w' := by
  have cc := get_Sm F p xs e w h hsz
  clear h hsz
  go_enter Tryz.func112, Tryz.ntmps112
  go_wp2_with (go_at_call 155; refine cc.mono ?_; rintro ex w1 ⟨v, l, s', rfl, h1, h2, h3⟩)
  go_ret
  exact ⟨v, l, s', rfl, h1, h2, h3⟩

end Go.Proofs.YtolmhoenjcinjaaGreat

namespace Go.Proofs.YtolmhoenjcinjaaGreat
open Go.RowKit
set_option linter.unusedVariables false
set_option maxRecDepth 100000

def clBf (x : Bf) : List Value := [.int .i64 x.sz, .int .i64 x.dp]
theorem clBf_one (x : Bf) : ∀ u ∈ clBf x, u.oneCell' = true := by
  intro u hu; unfold clBf at hu; simp at hu; rcases hu with rfl | rfl <;> rfl
theorem Tryz.infEBf : (Tryz.prog.info? 128).map (fun i => (i.zero, i.size, i.bytes)) = some (some (.agg #[.int .i64 0, .int .i64 0]), 2, 16) := by kernel_rfl
/-- a list that is wholly the caller's own -/
def OwBf (w : World) (B : Nat) (v : Value) (l : List Bf) : Prop := w.ownsRow B 128 2 v l.length ((l.map clBf).flatten) ∧ okL okBf l ∧ l.length ≤ 1048576

set_option maxHeartbeats 8000000 in
theorem getList_Bf (F : Nat → Prop) (p : Nat) (xs : List Nat) (e : Int) (w : World) (h : Rd w F p xs e) (hsz : xs.length ≤ 1048576) :
    Calls Tryz.prog 173 #[.pointer (some ⟨p, 0, none⟩), .int .i64 1048576, .func (.func 159) #[] #[]] w fun ex w' => ∃ v l s', ex = .returned v ∧ OwBf w' w.heap.size v l ∧ Got (decL decBf) (xs, e) l s' ∧ RdDid F p s'.1 s'.2 w w' := by
  obtain ⟨i0, hi, hz0, hz1, hz2⟩ := info_parts Tryz.infEBf
  have c60 := count_any F p xs e 1048576 w h
  have hflt : ∀ k, F k → k < w.heap.size := by obtain ⟨a, n, c, hv⟩ := h; exact hv.flt
  have HFL : Hid (∀ k, F k → k < w.heap.size) := hflt
  clear h hflt
  by_cases hok : e = 0 ∧ 4 ≤ xs.length ∧ val (xs.take 4) ≤ 1048576 ∧ val (xs.take 4) ≤ xs.length - 4
  · obtain ⟨rfl, hl4, hm, hr⟩ := hok
    obtain ⟨e1, e2, e3⟩ := cn_yes hl4 hm hr
    have hdec := decL_eq decBf hl4 hm hr
    have hrl : (xs.drop 4).length ≤ xs.length := by rw [List.length_drop]; omega
    obtain ⟨N, hN⟩ : ∃ N, N = val (xs.take 4) := ⟨_, rfl⟩
    obtain ⟨r, hr'⟩ : ∃ r, r = xs.drop 4 := ⟨_, rfl⟩
    rw [e1, e2, e3] at c60
    rw [← hN, ← hr'] at c60 hdec
    rw [← hN] at hm hr
    rw [← hr'] at hrl
    have HDEC : Hid (decL decBf xs = decNn decBf N r) := hdec
    have hNb : N ≤ 1048576 := hm
    clear e1 e2 e3 hdec hN hr' hm hr hl4
    go_enter Tryz.func173, Tryz.ntmps173
    go_wp2_with (go_at_call 168; refine c60.mono ?_; rintro ex w1 ⟨rfl, hd⟩)
    have HD : Hid (RdDid F p r 0 w w1) := hd
    clear hd c60
    go_loopw [7, 12] (fun u i wr => ∃ (k : Nat) (l : List Bf) (t : List Nat), k ≤ N ∧ i = .int .i64 k ∧ decNn decBf k r = some (l, t) ∧ t.length ≤ xs.length ∧ l.length = k ∧ OwBf wr w.heap.size u l ∧ RdDid F p t 0 w wr) (fun _ i _ => N - (intOf i).toNat)
    case atStart => exact ⟨0, [], r, by omega, rfl, rfl, hrl, rfl, ⟨World.ownsRow_nil _ _ _ _, (fun x hx => by cases hx), by simp⟩, HD.out⟩
    case round =>
      clear HD
      obtain ⟨k, l, t, hk, rfl, hdk, htl, hll, hown, hdr⟩ := hrel
      have HDK : Hid (decNn decBf k r = some (l, t)) := hdk
      have HOW : Hid (OwBf wr w.heap.size u7 l) := hown
      have HDR : Hid (RdDid F p t 0 w wr) := hdr
      have HLL : Hid (l.length = k) := hll
      have HTL : Hid (t.length ≤ xs.length) := htl
      by_cases hlt : k < N
      · have cg := askBf F p t 0 wr hdr.1
        clear hdk hown hdr hll htl
        go_upto_region 5 with (go_at_call 159; refine cg.mono ?_; rintro ex w2 ⟨x, s2, rfl, hx, hg, hd2⟩)
        have HX : Hid (okBf x) := hx
        have HG : Hid (Got decBf (t, 0) x s2) := hg
        have HD2 : Hid (RdDid F p s2.1 s2.2 wr w2) := hd2
        clear hx hg hd2 cg
        have hkb : Kept No w2 (w2.alloc (.cells #[.int .i64 x.sz, .int .i64 x.dp] 128)) := (Kept.refl No w2).alloc _
        have HD3 : Hid (RdDid F p s2.1 s2.2 wr (w2.alloc (.cells #[.int .i64 x.sz, .int .i64 x.dp] 128))) := ⟨HD2.out.1.kept hkb (fun _ _ h => h), HD2.out.2.trans hkb (fun _ h => h.elim)⟩
        have HBX : Hid (Bk (w2.alloc (.cells #[.int .i64 x.sz, .int .i64 x.dp] 128)) w2.heap.size (clBf x) 128) := heap_alloc_new w2 _
        clear hkb
        generalize hW3 : w2.alloc (.cells #[.int .i64 x.sz, .int .i64 x.dp] 128) = w3 at *
        have q0 : w3.cell? ⟨w2.heap.size, 0, none⟩ = some (.int .i64 x.sz) := HBX.out.cell (j := 0) rfl
        have q1 : w3.cell? ⟨w2.heap.size, 1, none⟩ = some (.int .i64 x.dp) := HBX.out.cell (j := 1) rfl
        obtain ⟨sb, se⟩ := s2
        dsimp only at HD2 HG HD3
        obtain ⟨ra, rn, rc, hv2⟩ := HD3.out.1
        have d1 := hv2.c1
        clear hv2
        by_cases hse : se = 0
        · subst hse
          have hov2 : w3.ownsRow w.heap.size 128 2 u7 k ((l.map clBf).flatten) := by
            have := HOW.out.1
            rw [HLL.out] at this
            exact HD3.out.2.owns this (fun g hg e => by have := (HOW.out.1.lt g hg).1; have h3 := HFL.out p HD3.out.fp; omega)
          have HOV2 : Hid (w3.ownsRow w.heap.size 128 2 u7 k ((l.map clBf).flatten)) := hov2
          have hsz3 := HD3.out.2.size
          have hszr := HDR.out.2.size
          clear hov2
          go_wp2_with (at_builtin; refine wpList_append_own _ rfl _ _ 64 rfl w.heap.size 128 i0 (.agg #[.int .i64 0, .int .i64 0]) 2 16 Tryz.underlying64 hi hz0 hz1 hz2 rfl (by decide) _ _ _ rfl (HOV2.out.alloc _) ⟨w3.heap.size, 0, none⟩ 1 1 (clBf x) rfl rfl (cells_new w3 (clBf x) _ _ rfl) (clBf_one x) (by unfold maxLen; omega) (by omega) (by simp; omega) ?_; intro v4 w4 own4 grow4 _)
          have hk4 : Kept (fun k => k = p) w w4 := ((HDR.out.2.trans HD3.out.2 (fun _ h => .inl h)).alloc _).grown grow4 (fun k hk => .inr (HOV2.out.lt k hk).1)
          have hr4 : Rd w4 F p sb 0 := by
            refine HD3.out.1.kept (G := fun k => u7.ownBlock = some k) (((Kept.refl (fun k => u7.ownBlock = some k) w3).alloc _).grown grow4 (fun k hk => .inl hk)) (fun b hb hu => ?_)
            have h3 := HFL.out b hb
            have h4 := (HOV2.out.lt b hu).1
            omega
          have hgot : decBf t = some (x, sb) := by
            rcases HG.out.got with ⟨_, _, h⟩ | ⟨h, _⟩
            · exact h
            · exact absurd rfl h
          have own5 : OwBf w4 w.heap.size v4 (l ++ [x]) := by
            refine ⟨?_, ?_, ?_⟩
            · rw [flat_snoc, List.length_append, HLL.out]; exact own4
            · intro y hy
              rcases List.mem_append.1 hy with hy | hy
              · exact HOW.out.2.1 y hy
              · simp at hy; subst hy; exact HX.out
            · rw [List.length_append, HLL.out, List.length_singleton]; omega
          have HEND : Hid (decNn decBf (k + 1) r = some (l ++ [x], sb) ∧ sb.length ≤ xs.length ∧ OwBf w4 w.heap.size v4 (l ++ [x]) ∧ RdDid F p sb 0 w w4) := ⟨step_yes HDK.out hgot, Nat.le_trans HG.out.len HTL.out, own5, hr4, hk4⟩
          clear grow4 own4 own5 hk4 hr4 hgot
          go_wp2
          go_roundw
          case rel => exact ⟨k + 1, l ++ [x], sb, by omega, by go_num, HEND.out.1, HEND.out.2.1, by rw [List.length_append, HLL.out]; rfl, HEND.out.2.2.1, HEND.out.2.2.2⟩
          case measure => simp [intOf]; omega
        · have hse2 : (se == 0) = false := by simpa using hse
          have hno : decBf t = none := by
            rcases HG.out.got with ⟨_, h, _⟩ | ⟨_, h⟩
            · exact absurd h hse
            · exact h rfl
          have HNO : Hid (decL decBf xs = none) := HDEC.out.trans (dec_none (by omega) (step_no HDK.out hno))
          have HSE : Hid (se ≠ 0) := hse
          clear hse hno
          go_wp2
          go_ret
          first
            | exact ⟨_, [], (sb, se), rfl, ⟨World.ownsRow_nil _ _ _ _, (fun x hx => by cases hx), by simp⟩, got_no decBf [] (Nat.le_trans HG.out.len HTL.out) HSE.out (fun _ => HNO.out), HD3.out.1, HDR.out.2.trans HD3.out.2 (fun _ h => .inl h)⟩
            | exact ⟨_, rfl, [], ⟨World.ownsRow_nil _ _ _ _, (fun x hx => by cases hx), by simp⟩, sb, se, got_no decBf [] (Nat.le_trans HG.out.len HTL.out) HSE.out (fun _ => HNO.out), HD3.out.1, HDR.out.2.trans HD3.out.2 (fun _ h => .inl h)⟩
      · have hkN : k = N := by omega
        subst hkN
        clear hown hdr hdk hll htl
        go_wp2
        go_ret
        exact ⟨_, l, (t, 0), rfl, HOW.out, ⟨HTL.out, .inl ⟨rfl, rfl, HDEC.out.trans HDK.out⟩⟩, HDR.out⟩
  · obtain ⟨e1, e2, e3⟩ := cn_no hok
    have hno : e = 0 → decL decBf xs = none := fun he => by
      unfold decL; rw [if_neg (fun h => hok ⟨he, h⟩)]
    have HNO : Hid (e = 0 → decL decBf xs = none) := hno
    rw [e1, e2] at c60
    obtain ⟨ce, hce⟩ : ∃ ce, ce = cnE xs e 1048576 := ⟨_, rfl⟩
    rw [← hce] at c60 e3
    have HCE : Hid (ce ≠ 0) := e3
    clear e1 e2 e3 hok hno hce
    go_enter Tryz.func173, Tryz.ntmps173
    go_wp2_with (go_at_call 168; refine c60.mono ?_; rintro ex w1 ⟨rfl, hd⟩)
    have HD : Hid (RdDid F p xs ce w w1) := hd
    clear hd
    go_loopw [7, 12] (fun u i wr => i = .int .i64 0 ∧ u = .slice none 0 0 ∧ wr = w1) (fun _ _ _ => 0)
    case atStart => exact ⟨rfl, rfl, rfl⟩
    case round =>
      obtain ⟨rfl, rfl, rfl⟩ := hrel
      go_wp2
      go_ret
      exact ⟨_, [], (xs, ce), rfl, ⟨World.ownsRow_nil _ _ _ _, (fun x hx => by cases hx), by simp⟩, got_no decBf [] (Nat.le_refl _) HCE.out HNO.out, HD.out⟩

theorem get_Bf (F : Nat → Prop) (p : Nat) (xs : List Nat) (e : Int) (w : World) (h : Rd w F p xs e) (hsz : xs.length ≤ 1048576) :
    Calls Tryz.prog 158 #[.pointer (some ⟨p, 0, none⟩), .func (.func 159) #[] #[]] w fun ex w' => ∃ v l s', ex = .returned v ∧ OwBf w' w.heap.size v l ∧ Got (decL decBf) (xs, e) l s' ∧ RdDid F p s'.1 s'.2 w w' := by
  have cc := getList_Bf F p xs e w h hsz
  clear h hsz
  go_enter Tryz.func158, Tryz.ntmps158
  go_wp2_with (go_at_call 173; refine cc.mono ?_; rintro ex w1 ⟨v, l, s', rfl, h1, h2, h3⟩)
  go_ret
  exact ⟨v, l, s', rfl, h1, h2, h3⟩

theorem gets_Bf (F : Nat → Prop) (p : Nat) (xs : List Nat) (e : Int) (w : World) (h : Rd w F p xs e) (hsz : xs.length ≤ 1048576) :
    Calls Tryz.prog 115 #[.pointer (some ⟨p, 0, none⟩)] w fun ex w' => ∃ v l s', ex = .returned v ∧ OwBf w' w.heap.size v l ∧ Got (decL decBf) (xs, e) l s' ∧ RdDid F p s'.1 s'.2 w w' := by
  have cc := get_Bf F p xs e w h hsz
  clear h hsz
  go_enter Tryz.func115, Tryz.ntmps115
  go_wp2_with (go_at_call 158; refine cc.mono ?_; rintro ex w1 ⟨v, l, s', rfl, h1, h2, h3⟩)
  go_ret
  exact ⟨v, l, s', rfl, h1, h2, h3⟩

end Go.Proofs.YtolmhoenjcinjaaGreat

namespace Go.Proofs.YtolmhoenjcinjaaGreat
open Go.RowKit
set_option linter.unusedVariables false
set_option maxRecDepth 100000

def clPo (x : Po) : List Value := [.int .i64 x.pt, .int .i64 x.kd, .bool x.out, .int .i64 x.sz, .int .i64 x.dp, .int .i64 x.rf]
theorem clPo_one (x : Po) : ∀ u ∈ clPo x, u.oneCell' = true := by
  intro u hu; unfold clPo at hu; simp at hu; rcases hu with rfl | rfl | rfl | rfl | rfl | rfl <;> rfl
theorem Tryz.infEPo : (Tryz.prog.info? 70).map (fun i => (i.zero, i.size, i.bytes)) = some (some (.agg #[.int .i64 0, .int .i64 0, .bool false, .int .i64 0, .int .i64 0, .int .i64 0]), 6, 48) := by kernel_rfl
/-- a list that is wholly the caller's own -/
def OwPo (w : World) (B : Nat) (v : Value) (l : List Po) : Prop := w.ownsRow B 70 6 v l.length ((l.map clPo).flatten) ∧ okL okPo l ∧ l.length ≤ 1048576

set_option maxHeartbeats 8000000 in
theorem getList_Po (F : Nat → Prop) (p : Nat) (xs : List Nat) (e : Int) (w : World) (h : Rd w F p xs e) (hsz : xs.length ≤ 1048576) :
    Calls Tryz.prog 160 #[.pointer (some ⟨p, 0, none⟩), .int .i64 1048576, .func (.func 117) #[] #[]] w fun ex w' => ∃ v l s', ex = .returned v ∧ OwPo w' w.heap.size v l ∧ Got (decL decPo) (xs, e) l s' ∧ RdDid F p s'.1 s'.2 w w' := by
  obtain ⟨i0, hi, hz0, hz1, hz2⟩ := info_parts Tryz.infEPo
  have c60 := count_any F p xs e 1048576 w h
  have hflt : ∀ k, F k → k < w.heap.size := by obtain ⟨a, n, c, hv⟩ := h; exact hv.flt
  have HFL : Hid (∀ k, F k → k < w.heap.size) := hflt
  clear h hflt
  by_cases hok : e = 0 ∧ 4 ≤ xs.length ∧ val (xs.take 4) ≤ 1048576 ∧ val (xs.take 4) ≤ xs.length - 4
  · obtain ⟨rfl, hl4, hm, hr⟩ := hok
    obtain ⟨e1, e2, e3⟩ := cn_yes hl4 hm hr
    have hdec := decL_eq decPo hl4 hm hr
    have hrl : (xs.drop 4).length ≤ xs.length := by rw [List.length_drop]; omega
    obtain ⟨N, hN⟩ : ∃ N, N = val (xs.take 4) := ⟨_, rfl⟩
    obtain ⟨r, hr'⟩ : ∃ r, r = xs.drop 4 := ⟨_, rfl⟩
    rw [e1, e2, e3] at c60
    rw [← hN, ← hr'] at c60 hdec
    rw [← hN] at hm hr
    rw [← hr'] at hrl
    have HDEC : Hid (decL decPo xs = decNn decPo N r) := hdec
    have hNb : N ≤ 1048576 := hm
    clear e1 e2 e3 hdec hN hr' hm hr hl4
    go_enter Tryz.func160, Tryz.ntmps160
    go_wp2_with (go_at_call 168; refine c60.mono ?_; rintro ex w1 ⟨rfl, hd⟩)
    have HD : Hid (RdDid F p r 0 w w1) := hd
    clear hd c60
    go_loopw [7, 12] (fun u i wr => ∃ (k : Nat) (l : List Po) (t : List Nat), k ≤ N ∧ i = .int .i64 k ∧ decNn decPo k r = some (l, t) ∧ t.length ≤ xs.length ∧ l.length = k ∧ OwPo wr w.heap.size u l ∧ RdDid F p t 0 w wr) (fun _ i _ => N - (intOf i).toNat)
    case atStart => exact ⟨0, [], r, by omega, rfl, rfl, hrl, rfl, ⟨World.ownsRow_nil _ _ _ _, (fun x hx => by cases hx), by simp⟩, HD.out⟩
    case round =>
      clear HD
      obtain ⟨k, l, t, hk, rfl, hdk, htl, hll, hown, hdr⟩ := hrel
      have HDK : Hid (decNn decPo k r = some (l, t)) := hdk
      have HOW : Hid (OwPo wr w.heap.size u7 l) := hown
      have HDR : Hid (RdDid F p t 0 w wr) := hdr
      have HLL : Hid (l.length = k) := hll
      have HTL : Hid (t.length ≤ xs.length) := htl
      by_cases hlt : k < N
      · have cg := askPo F p t 0 wr hdr.1
        clear hdk hown hdr hll htl
        go_upto_region 5 with (go_at_call 117; refine cg.mono ?_; rintro ex w2 ⟨x, s2, rfl, hx, hg, hd2⟩)
        have HX : Hid (okPo x) := hx
        have HG : Hid (Got decPo (t, 0) x s2) := hg
        have HD2 : Hid (RdDid F p s2.1 s2.2 wr w2) := hd2
        clear hx hg hd2 cg
        have hkb : Kept No w2 (w2.alloc (.cells #[.int .i64 x.pt, .int .i64 x.kd, .bool x.out, .int .i64 x.sz, .int .i64 x.dp, .int .i64 x.rf] 70)) := (Kept.refl No w2).alloc _
        have HD3 : Hid (RdDid F p s2.1 s2.2 wr (w2.alloc (.cells #[.int .i64 x.pt, .int .i64 x.kd, .bool x.out, .int .i64 x.sz, .int .i64 x.dp, .int .i64 x.rf] 70))) := ⟨HD2.out.1.kept hkb (fun _ _ h => h), HD2.out.2.trans hkb (fun _ h => h.elim)⟩
        have HBX : Hid (Bk (w2.alloc (.cells #[.int .i64 x.pt, .int .i64 x.kd, .bool x.out, .int .i64 x.sz, .int .i64 x.dp, .int .i64 x.rf] 70)) w2.heap.size (clPo x) 70) := heap_alloc_new w2 _
        clear hkb
        generalize hW3 : w2.alloc (.cells #[.int .i64 x.pt, .int .i64 x.kd, .bool x.out, .int .i64 x.sz, .int .i64 x.dp, .int .i64 x.rf] 70) = w3 at *
        have q0 : w3.cell? ⟨w2.heap.size, 0, none⟩ = some (.int .i64 x.pt) := HBX.out.cell (j := 0) rfl
        have q1 : w3.cell? ⟨w2.heap.size, 1, none⟩ = some (.int .i64 x.kd) := HBX.out.cell (j := 1) rfl
        have q2 : w3.cell? ⟨w2.heap.size, 2, none⟩ = some (.bool x.out) := HBX.out.cell (j := 2) rfl
        have q3 : w3.cell? ⟨w2.heap.size, 3, none⟩ = some (.int .i64 x.sz) := HBX.out.cell (j := 3) rfl
        have q4 : w3.cell? ⟨w2.heap.size, 4, none⟩ = some (.int .i64 x.dp) := HBX.out.cell (j := 4) rfl
        have q5 : w3.cell? ⟨w2.heap.size, 5, none⟩ = some (.int .i64 x.rf) := HBX.out.cell (j := 5) rfl
        obtain ⟨sb, se⟩ := s2
        dsimp only at HD2 HG HD3
        obtain ⟨ra, rn, rc, hv2⟩ := HD3.out.1
        have d1 := hv2.c1
        clear hv2
        by_cases hse : se = 0
        · subst hse
          have hov2 : w3.ownsRow w.heap.size 70 6 u7 k ((l.map clPo).flatten) := by
            have := HOW.out.1
            rw [HLL.out] at this
            exact HD3.out.2.owns this (fun g hg e => by have := (HOW.out.1.lt g hg).1; have h3 := HFL.out p HD3.out.fp; omega)
          have HOV2 : Hid (w3.ownsRow w.heap.size 70 6 u7 k ((l.map clPo).flatten)) := hov2
          have hsz3 := HD3.out.2.size
          have hszr := HDR.out.2.size
          clear hov2
          go_wp2_with (at_builtin; refine wpList_append_own _ rfl _ _ 23 rfl w.heap.size 70 i0 (.agg #[.int .i64 0, .int .i64 0, .bool false, .int .i64 0, .int .i64 0, .int .i64 0]) 6 48 Tryz.underlying23 hi hz0 hz1 hz2 rfl (by decide) _ _ _ rfl (HOV2.out.alloc _) ⟨w3.heap.size, 0, none⟩ 1 1 (clPo x) rfl rfl (cells_new w3 (clPo x) _ _ rfl) (clPo_one x) (by unfold maxLen; omega) (by omega) (by simp; omega) ?_; intro v4 w4 own4 grow4 _)
          have hk4 : Kept (fun k => k = p) w w4 := ((HDR.out.2.trans HD3.out.2 (fun _ h => .inl h)).alloc _).grown grow4 (fun k hk => .inr (HOV2.out.lt k hk).1)
          have hr4 : Rd w4 F p sb 0 := by
            refine HD3.out.1.kept (G := fun k => u7.ownBlock = some k) (((Kept.refl (fun k => u7.ownBlock = some k) w3).alloc _).grown grow4 (fun k hk => .inl hk)) (fun b hb hu => ?_)
            have h3 := HFL.out b hb
            have h4 := (HOV2.out.lt b hu).1
            omega
          have hgot : decPo t = some (x, sb) := by
            rcases HG.out.got with ⟨_, _, h⟩ | ⟨h, _⟩
            · exact h
            · exact absurd rfl h
          have own5 : OwPo w4 w.heap.size v4 (l ++ [x]) := by
            refine ⟨?_, ?_, ?_⟩
            · rw [flat_snoc, List.length_append, HLL.out]; exact own4
            · intro y hy
              rcases List.mem_append.1 hy with hy | hy
              · exact HOW.out.2.1 y hy
              · simp at hy; subst hy; exact HX.out
            · rw [List.length_append, HLL.out, List.length_singleton]; omega
          have HEND : Hid (decNn decPo (k + 1) r = some (l ++ [x], sb) ∧ sb.length ≤ xs.length ∧ OwPo w4 w.heap.size v4 (l ++ [x]) ∧ RdDid F p sb 0 w w4) := ⟨step_yes HDK.out hgot, Nat.le_trans HG.out.len HTL.out, own5, hr4, hk4⟩
          clear grow4 own4 own5 hk4 hr4 hgot
          go_wp2
          go_roundw
          case rel => exact ⟨k + 1, l ++ [x], sb, by omega, by go_num, HEND.out.1, HEND.out.2.1, by rw [List.length_append, HLL.out]; rfl, HEND.out.2.2.1, HEND.out.2.2.2⟩
          case measure => simp [intOf]; omega
        · have hse2 : (se == 0) = false := by simpa using hse
          have hno : decPo t = none := by
            rcases HG.out.got with ⟨_, h, _⟩ | ⟨_, h⟩
            · exact absurd h hse
            · exact h rfl
          have HNO : Hid (decL decPo xs = none) := HDEC.out.trans (dec_none (by omega) (step_no HDK.out hno))
          have HSE : Hid (se ≠ 0) := hse
          clear hse hno
          go_wp2
          go_ret
          first
            | exact ⟨_, [], (sb, se), rfl, ⟨World.ownsRow_nil _ _ _ _, (fun x hx => by cases hx), by simp⟩, got_no decPo [] (Nat.le_trans HG.out.len HTL.out) HSE.out (fun _ => HNO.out), HD3.out.1, HDR.out.2.trans HD3.out.2 (fun _ h => .inl h)⟩
            | exact ⟨_, rfl, [], ⟨World.ownsRow_nil _ _ _ _, (fun x hx => by cases hx), by simp⟩, sb, se, got_no decPo [] (Nat.le_trans HG.out.len HTL.out) HSE.out (fun _ => HNO.out), HD3.out.1, HDR.out.2.trans HD3.out.2 (fun _ h => .inl h)⟩
      · have hkN : k = N := by omega
        subst hkN
        clear hown hdr hdk hll htl
        go_wp2
        go_ret
        exact ⟨_, l, (t, 0), rfl, HOW.out, ⟨HTL.out, .inl ⟨rfl, rfl, HDEC.out.trans HDK.out⟩⟩, HDR.out⟩
  · obtain ⟨e1, e2, e3⟩ := cn_no hok
    have hno : e = 0 → decL decPo xs = none := fun he => by
      unfold decL; rw [if_neg (fun h => hok ⟨he, h⟩)]
    have HNO : Hid (e = 0 → decL decPo xs = none) := hno
    rw [e1, e2] at c60
    obtain ⟨ce, hce⟩ : ∃ ce, ce = cnE xs e 1048576 := ⟨_, rfl⟩
    rw [← hce] at c60 e3
    have HCE : Hid (ce ≠ 0) := e3
    clear e1 e2 e3 hok hno hce
    go_enter Tryz.func160, Tryz.ntmps160
    go_wp2_with (go_at_call 168; refine c60.mono ?_; rintro ex w1 ⟨rfl, hd⟩)
    have HD : Hid (RdDid F p xs ce w w1) := hd
    clear hd
    go_loopw [7, 12] (fun u i wr => i = .int .i64 0 ∧ u = .slice none 0 0 ∧ wr = w1) (fun _ _ _ => 0)
    case atStart => exact ⟨rfl, rfl, rfl⟩
    case round =>
      obtain ⟨rfl, rfl, rfl⟩ := hrel
      go_wp2
      go_ret
      exact ⟨_, [], (xs, ce), rfl, ⟨World.ownsRow_nil _ _ _ _, (fun x hx => by cases hx), by simp⟩, got_no decPo [] (Nat.le_refl _) HCE.out HNO.out, HD.out⟩

theorem get_Po (F : Nat → Prop) (p : Nat) (xs : List Nat) (e : Int) (w : World) (h : Rd w F p xs e) (hsz : xs.length ≤ 1048576) :
    Calls Tryz.prog 116 #[.pointer (some ⟨p, 0, none⟩), .func (.func 117) #[] #[]] w fun ex w' => ∃ v l s', ex = .returned v ∧ OwPo w' w.heap.size v l ∧ Got (decL decPo) (xs, e) l s' ∧ RdDid F p s'.1 s'.2 w w' := by
  have cc := getList_Po F p xs e w h hsz
  clear h hsz
  go_enter Tryz.func116, Tryz.ntmps116
  go_wp2_with (go_at_call 160; refine cc.mono ?_; rintro ex w1 ⟨v, l, s', rfl, h1, h2, h3⟩)
  go_ret
  exact ⟨v, l, s', rfl, h1, h2, h3⟩

theorem gets_Po (F : Nat → Prop) (p : Nat) (xs : List Nat) (e : Int) (w : World) (h : Rd w F p xs e) (hsz : xs.length ≤ 1048576) :
    Calls Tryz.prog 68 #[.pointer (some ⟨p, 0, none⟩)] w fun ex w' => ∃ v l s', ex = .returned v ∧ OwPo w' w.heap.size v l ∧ Got (decL decPo) (xs, e) l s' ∧ RdDid F p s'.1 s'.2 w w' := by
  have cc := get_Po F p xs e w h hsz
  clear h hsz
  go_enter Tryz.func68, Tryz.ntmps68
  go_wp2_with (go_at_call 116; refine cc.mono ?_; rintro ex w1 ⟨v, l, s', rfl, h1, h2, h3⟩)
  go_ret
  exact ⟨v, l, s', rfl, h1, h2, h3⟩

end Go.Proofs.YtolmhoenjcinjaaGreat
