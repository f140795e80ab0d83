/-
  objects: State.
-/
import Derived.Test.YtggkajopfbokjaaOTold
import Derived.Test.YtggkajopfbokjaaONew
namespace Go.Proofs.Ytggkajopfbokjaa
open Go.RowKit
set_option linter.unusedVariables false
set_option maxRecDepth 100000

def cntL (S : So) (k : Nat) : List Value := (List.range k).map (fun i => .int .i64 (S.cnt i))
def evL (S : So) : List Value := (List.range S.ne).map (fun i => .bool (S.ev i))
def xsL (S : So) (m : Nat) : List (List (List Int)) := (List.range m).map S.xs
theorem cntL_succ (S : So) (k : Nat) : cntL S (k + 1) = cntL S k ++ [.int .i64 (S.cnt k)] := by simp [cntL, List.range_succ]
theorem xsL_succ (S : So) (k : Nat) : xsL S (k + 1) = xsL S k ++ [S.xs k] := by simp [xsL, List.range_succ]
/-- what State keeps -/
structure Tl (w wr : World) (sv ev bv : Value) (S : So) (r l t : Nat) (ts te tb : Value) (k m : Nat) (lvs : List Value) (mss : List (List Value)) : Prop where
  res : wr.heap[r]? = some (.cells #[.slice none 0 0, .slice none 0 0, .slice none 0 0] 55)
  box : wr.heap[l]? = some (.cells #[sv, ev, bv] 82)
  told : wr.heap[t]? = some (.cells #[ts, te, tb] 55)
  sems : wr.ownsRow w.heap.size 3 1 ts k (cntL S k)
  evs : wr.ownsRow w.heap.size 4 1 te S.ne (evL S)
  bufs : Lb wr w.heap.size tb lvs mss (xsL S m)
  len : lvs.length = m
  kept : Kept No w wr
  ge : w.heap.size ≤ t
  ne : r ≠ t
namespace Tl
variable {w wr wr' : World} {sv ev bv : Value} {S : So} {r l t : Nat} {ts te tb : Value} {k m : Nat} {lvs : List Value} {mss : List (List Value)}
theorem keep (h : Tl w wr sv ev bv S r l t ts te tb k m lvs mss) (K : Kept No wr wr') : Tl w wr' sv ev bv S r l t ts te tb k m lvs mss :=
  ⟨K.at' h.res (fun e => e), K.at' h.box (fun e => e), K.at' h.told (fun e => e), K.owns h.sems (fun _ _ e => e), K.owns h.evs (fun _ _ e => e), h.bufs.keep K, h.len, h.kept.trans K (fun _ e => e.elim), h.ge, h.ne⟩
/-- a block of another type than those that are told in -/
theorem tell {wa : World} (h : Tl w wr sv ev bv S r l t ts te tb k m lvs mss) (x : Nat) (u : Value) : Kept (fun j => j = t) wa (wa.setCell ⟨t, x, none⟩ u) := (Kept.refl (fun j => j = t) wa).setCell (p := ⟨t, x, none⟩) (.inl rfl) _
theorem fb_ne {t' : TypeId} {cs : Array Value} {j : Nat} {B : Nat} {xss : List (List (List Int))} {W : World} (h : Lb W B tb lvs mss xss) (hj : W.heap[j]? = some (.cells cs t')) (h1 : t' ≠ 40) (h2 : t' ≠ 31) (h3 : t' ≠ 2) : ¬ Fb tb lvs mss j := by
  rintro (hk | ⟨i, lv, ms, e1, e2, hk⟩)
  · obtain ⟨_, cs', a⟩ := owns_blk h.own hk
    exact h1 (two_tags hj a)
  · obtain ⟨lv', ms', xs, q1, q2, q3, L⟩ := h.at_ll (List.getElem?_eq_some_iff.1 e1).1
    rw [e1] at q1
    rw [e2] at q2
    injection q1 with q1
    injection q2 with q2
    subst q1 q2
    rcases hk with hk | ⟨v, hv, hk⟩
    · obtain ⟨_, cs', a⟩ := owns_blk L.own hk
      exact h2 (two_tags hj a)
    · obtain ⟨c, hc, e⟩ := List.mem_iff_getElem.1 hv
      obtain ⟨x, _, ho⟩ := L.at_msg (j := c) (v := v) (by rw [List.getElem?_eq_getElem hc, e])
      obtain ⟨_, cs', a⟩ := owns_blk ho hk
      exact h3 (two_tags hj a)
/-- a semaphore's number is told -/
theorem sem {wa : World} {v1 : Value} {o : Obj} (h : Tl w wr sv ev bv S r l t ts te tb k m lvs mss) (own1 : wa.ownsRow w.heap.size 3 1 v1 (k + 1) (cntL S k ++ [.int .i64 (S.cnt k)])) (gr : (wr.alloc o).grownBy wa ts.ownBlock) :
    wa.cell? ⟨t, 0, none⟩ = some ts ∧ wa.frozen? ⟨t, 0, none⟩ = false ∧ Tl w (wa.setCell ⟨t, 0, none⟩ v1) sv ev bv S r l t v1 te tb (k + 1) m lvs mss := by
  have ka : Kept (fun j => ts.ownBlock = some j) wr wa := ((Kept.refl (fun j => ts.ownBlock = some j) wr).alloc o).grown gr (fun j e => .inl e)
  have tag : ∀ j cs t', wr.heap[j]? = some (.cells cs t') → t' ≠ 3 → ¬ ts.ownBlock = some j := fun j cs t' h1 h2 h3 => by
    obtain ⟨_, cs', h4⟩ := owns_blk h.sems h3
    exact h2 (two_tags h1 h4)
  have kb := h.tell (wa := wa) 0 v1
  have hb := ka.at' h.told (tag _ _ _ h.told (by decide))
  have tagb : ∀ j cs t', wa.heap[j]? = some (.cells cs t') → t' ≠ 55 → ¬ j = t := fun j cs t' h1 h2 h3 => by
    subst h3
    exact h2 (two_tags h1 hb)
  have hev := ka.owns h.evs (fun j hj => by obtain ⟨_, cs, h1⟩ := owns_blk h.evs hj; exact tag j _ _ h1 (by decide))
  have hbu := h.bufs.kept ka (fun j hj e => by
    obtain ⟨_, cs', a⟩ := owns_blk h.sems e
    exact fb_ne h.bufs a (by decide) (by decide) (by decide) hj)
  have rest : ∀ {t' s n : Nat} {u : Value} {ys : List Value}, wa.ownsRow w.heap.size t' s u n ys → t' ≠ 55 → (wa.setCell ⟨t, 0, none⟩ v1).ownsRow w.heap.size t' s u n ys := fun ho ht => kb.owns ho (fun j hj => by obtain ⟨_, cs, h1⟩ := owns_blk ho hj; exact tagb j _ _ h1 ht)
  refine ⟨(cell_blk hb 0).trans rfl, fz_blk hb _, ⟨kb.at' (ka.at' h.res (tag _ _ _ h.res (by decide))) h.ne, kb.at' (ka.at' h.box (tag _ _ _ h.box (by decide))) (tagb _ _ _ (ka.at' h.box (tag _ _ _ h.box (by decide))) (by decide)), set_blk hb _ _, ?_, rest hev (by decide), hbu.kept kb (fun j hj e => ?_), h.len, (h.kept.trans ka (fun j e => .inr (owns_blk h.sems e).1)).trans kb (fun j e => .inr (by rw [e]; exact h.ge)), h.ge, h.ne⟩⟩
  · rw [cntL_succ]
    exact rest own1 (by decide)
  · subst e
    exact fb_ne hbu hb (by decide) (by decide) (by decide) hj
/-- a buffer's messages are told: made since wr -/
theorem buf {w1 wa : World} {v1 lv : Value} {ms : List Value} {o : Obj} (h : Tl w wr sv ev bv S r l t ts te tb k m lvs mss) (K1 : Kept No wr w1) (L : Ll w1 wr.heap.size lv ms (S.xs m)) (own1 : wa.ownsRow w.heap.size 40 1 v1 (m + 1) (lvs ++ [lv])) (gr : (w1.alloc o).grownBy wa tb.ownBlock) :
    wa.cell? ⟨t, 2, none⟩ = some tb ∧ wa.frozen? ⟨t, 2, none⟩ = false ∧ Tl w (wa.setCell ⟨t, 2, none⟩ v1) sv ev bv S r l t ts te v1 k (m + 1) (lvs ++ [lv]) (mss ++ [ms]) := by
  have hw := h.kept.size
  obtain ⟨nb, ka⟩ := h.bufs.more hw K1 L (by rw [h.len]; exact own1) gr
  have tag : ∀ j cs t', wr.heap[j]? = some (.cells cs t') → t' ≠ 40 → ¬ tb.ownBlock = some j := fun j cs t' h1 h2 h3 => by
    obtain ⟨_, cs', h4⟩ := owns_blk h.bufs.own h3
    exact h2 (two_tags h1 h4)
  have kb := h.tell (wa := wa) 2 v1
  have hb := ka.at' h.told (tag _ _ _ h.told (by decide))
  have tagb : ∀ j cs t', wa.heap[j]? = some (.cells cs t') → t' ≠ 55 → ¬ j = t := fun j cs t' h1 h2 h3 => by
    subst h3
    exact h2 (two_tags h1 hb)
  have hev := ka.owns h.evs (fun j hj => by obtain ⟨_, cs, h1⟩ := owns_blk h.evs hj; exact tag j _ _ h1 (by decide))
  have hse := ka.owns h.sems (fun j hj => by obtain ⟨_, cs, h1⟩ := owns_blk h.sems hj; exact tag j _ _ h1 (by decide))
  have rest : ∀ {t' s n : Nat} {u : Value} {ys : List Value}, wa.ownsRow w.heap.size t' s u n ys → t' ≠ 55 → (wa.setCell ⟨t, 2, none⟩ v1).ownsRow w.heap.size t' s u n ys := fun ho ht => kb.owns ho (fun j hj => by obtain ⟨_, cs, h1⟩ := owns_blk ho hj; exact tagb j _ _ h1 ht)
  refine ⟨(cell_blk hb 2).trans rfl, fz_blk hb _, ⟨kb.at' (ka.at' h.res (tag _ _ _ h.res (by decide))) h.ne, kb.at' (ka.at' h.box (tag _ _ _ h.box (by decide))) (tagb _ _ _ (ka.at' h.box (tag _ _ _ h.box (by decide))) (by decide)), set_blk hb _ _, rest hse (by decide), rest hev (by decide), ?_, by rw [List.length_append, h.len]; rfl, (h.kept.trans ka (fun j e => .inr (owns_blk h.bufs.own e).1)).trans kb (fun j e => .inr (by rw [e]; exact h.ge)), h.ge, h.ne⟩⟩
  rw [xsL_succ]
  refine nb.kept kb (fun j hj e => ?_)
  subst e
  exact fb_ne nb hb (by decide) (by decide) (by decide) hj
end Tl
theorem Try.infoOS : (Try.prog.info? 55).map (·.size) = some 3 := by kernel_rfl
/-- what State answers -/
def Told (w w' : World) (ts te tb : Value) (S : So) : Prop := ∃ lvs mss, w'.ownsRow w.heap.size 3 1 ts S.ns (cntL S S.ns) ∧ w'.ownsRow w.heap.size 4 1 te S.ne (evL S) ∧ Lb w' w.heap.size tb lvs mss (xsL S S.nb) ∧ lvs.length = S.nb ∧ Kept No w w'
/-- how long its messages may be -/
def Sm (S : So) : Prop := S.ns ≤ 4095 ∧ S.ne ≤ 4095 ∧ S.nb ≤ 4095 ∧ ∀ i, i < S.nb → (S.ms i).length ≤ 1099511627775 ∧ ∀ x ∈ S.xs i, x.length ≤ 17592186044416
section
variable {B b : Nat} {sv ev bv : Value} {S : So}
set_option maxHeartbeats 8000000 in
theorem state_any (w : World) (h : St w B b sv ev bv S) (hS : Sm S) : Calls Try.prog 13 #[.pointer (some ⟨b, 0, none⟩)] w fun e w' => ∃ ts te tb, e = .returned (.agg #[ts, te, tb]) ∧ Told w w' ts te tb S := by
  obtain ⟨ea, ec, rfl, hev⟩ := Vs.of_rc h.evs
  have hev1 : ∀ u ∈ evL S, u.oneCell' = true := fun u hu => by
    unfold evL at hu
    rw [List.mem_map] at hu
    obtain ⟨i, _, rfl⟩ := hu
    rfl
  have FL : Hid (∀ W, Kept No w W → Calls Try.prog 29 #[.slice ea S.ne ec] W fun e w' => ∃ ya yc, e = .returned (.slice ya S.ne yc) ∧ w'.ownsRow W.heap.size 4 1 (.slice ya S.ne yc) S.ne (evL S) ∧ Kept No W w') := fun W k => flags_any W (hev.kept k (fun _ _ e => e)) hev1 (by have := hS.2.1; omega)
  have LI : Hid (∀ W, Kept No w W → Calls Try.prog 31 #[.pointer (some ⟨b, 0, none⟩)] W fun e w' => e = .returned (.agg #[sv, .slice ea S.ne ec, bv]) ∧ Kept No W w') := fun W k => lists_any W (h.keep k)
  obtain ⟨sa, sc, rfl, hsc, hsm⟩ := h.sems.shape
  obtain ⟨ba, bc, rfl, hbc, hbm⟩ := h.bufs.shape
  have HH : Hid (St w B b (.slice sa S.ns sc) (.slice ea S.ne ec) (.slice ba S.nb bc) S ∧ Sm S) := ⟨h, hS⟩
  have hns := hS.1
  have hnb := hS.2.2.1
  clear hev hev1 h hS
  go_enter Try.func13, Try.ntmps13
  go_upto_region 1 with fail
  have K1 : Hid (Kept No w (w.alloc (.cells #[.slice none 0 0, .slice none 0 0, .slice none 0 0] 55)) ∧ (w.alloc (.cells #[.slice none 0 0, .slice none 0 0, .slice none 0 0] 55)).heap[w.heap.size]? = some (.cells #[.slice none 0 0, .slice none 0 0, .slice none 0 0] 55)) := ⟨(Kept.refl No w).alloc _, alloc_new w _⟩
  generalize (w.alloc (.cells #[.slice none 0 0, .slice none 0 0, .slice none 0 0] 55)) = w1 at *
  go_upto_region 2 with (go_at_call 31; refine (LI.out _ K1.out.1).mono ?_; rintro e w2 ⟨rfl, k2⟩; have K2 := hid k2; clear k2 LI)
  have K3 : Hid (Kept No w (w2.alloc (.cells #[.slice sa S.ns sc, .slice ea S.ne ec, .slice ba S.nb bc] 82)) ∧ (w2.alloc (.cells #[.slice sa S.ns sc, .slice ea S.ne ec, .slice ba S.nb bc] 82)).heap[w2.heap.size]? = some (.cells #[.slice sa S.ns sc, .slice ea S.ne ec, .slice ba S.nb bc] 82) ∧ (w2.alloc (.cells #[.slice sa S.ns sc, .slice ea S.ne ec, .slice ba S.nb bc] 82)).heap[w.heap.size]? = some (.cells #[.slice none 0 0, .slice none 0 0, .slice none 0 0] 55)) := ⟨(K1.out.1.trans K2.out (fun _ e => e.elim)).alloc _, alloc_new w2 _, (K2.out.alloc _).at' K1.out.2 (fun e => e)⟩
  have c1 : (w2.alloc (.cells #[.slice sa S.ns sc, .slice ea S.ne ec, .slice ba S.nb bc] 82)).cell? ⟨w2.heap.size, 1, none⟩ = some (.slice ea S.ne ec) := (cell_blk K3.out.2.1 1).trans rfl
  clear K1 K2
  generalize (w2.alloc (.cells #[.slice sa S.ns sc, .slice ea S.ne ec, .slice ba S.nb bc] 82)) = w3 at *
  generalize w2.heap.size = l at *
  go_upto_region 3 with (go_at_call 29; refine (FL.out _ K3.out.1).mono ?_; rintro e w4 ⟨ya, yc, rfl, o4, k4⟩; have O4 := hid o4; have K4 := hid k4; clear o4 k4 FL)
  have T0 : Tl w (w4.alloc (.cells #[.slice none 0 0, .slice ya S.ne yc, .slice none 0 0] 55)) (.slice sa S.ns sc) (.slice ea S.ne ec) (.slice ba S.nb bc) S w.heap.size l w4.heap.size (.slice none 0 0) (.slice ya S.ne yc) (.slice none 0 0) 0 0 [] [] := by
    have s3 := K3.out.1.size
    have s4 := K4.out.size
    have hr := heap_lt K3.out.2.2
    exact ⟨(K4.out.alloc _).at' K3.out.2.2 (fun e => e), (K4.out.alloc _).at' K3.out.2.1 (fun e => e), alloc_new w4 _, World.ownsRow_nil _ _ _ _, (owns_base O4.out s3).alloc _, Lb.none _ _, rfl, (K3.out.1.trans K4.out (fun _ e => e.elim)).alloc _, by omega, by omega⟩
  have HT0 := hid T0
  have c0 : (w4.alloc (.cells #[.slice none 0 0, .slice ya S.ne yc, .slice none 0 0] 55)).cell? ⟨l, 0, none⟩ = some (.slice sa S.ns sc) := (cell_blk T0.box 0).trans rfl
  clear T0 O4 K4 K3 c1
  generalize (w4.alloc (.cells #[.slice none 0 0, .slice ya S.ne yc, .slice none 0 0] 55)) = w5 at *
  generalize w4.heap.size = t at *
  go_wp2
  clear c0
  go_loopw [21] (fun x wr => ∃ (k : Nat) (ts : Value), k ≤ S.ns ∧ x = .int .i64 k ∧ Tl w wr (.slice sa S.ns sc) (.slice ea S.ne ec) (.slice ba S.nb bc) S w.heap.size l t ts (.slice ya S.ne yc) (.slice none 0 0) k 0 [] []) (fun x _ => S.ns - (intOf x).toNat)
  case atStart => exact ⟨0, .slice none 0 0, Nat.zero_le _, rfl, HT0.out⟩
  case round =>
    clear HT0
    obtain ⟨k, ts, hk, rfl, htl⟩ := hrel
    have HT := hid htl
    clear htl
    by_cases hlt : k < S.ns
    · have hltz : (k : Int) < (S.ns : Int) := by omega
      obtain ⟨g, cap, hgv, _, _, _, hce, _⟩ := (HH.out.1.keep HT.out.kept).sems.look hlt
      injection hgv with hgv _ hcv
      subst hgv hcv
      have e0 : wr.cell? ⟨g, k * 2, none⟩ = some (.int .i64 (S.cnt k)) := hce 0 (by decide)
      have e1 : wr.cell? ⟨g, k * 2 + 1, none⟩ = some (.int .i64 (S.mx k)) := hce 1 (by decide)
      clear hce
      go_upto_region 6 with fail
      have HZ : Hid (Tl w (wr.alloc (.cells #[.int .i64 (S.cnt k), .int .i64 (S.mx k)] 84)) (.slice (some ⟨g, 0, none⟩) S.ns sc) (.slice ea S.ne ec) (.slice ba S.nb bc) S w.heap.size l t ts (.slice ya S.ne yc) (.slice none 0 0) k 0 [] []) := HT.out.keep ((Kept.refl No wr).alloc _)
      have cz : (wr.alloc (.cells #[.int .i64 (S.cnt k), .int .i64 (S.mx k)] 84)).cell? ⟨wr.heap.size, 0, none⟩ = some (.int .i64 (S.cnt k)) := (cell_blk (alloc_new wr _) 0).trans rfl
      clear HT e0 e1
      generalize (wr.alloc (.cells #[.int .i64 (S.cnt k), .int .i64 (S.mx k)] 84)) = wz at *
      generalize wr.heap.size = z at *
      obtain ⟨ta, tn, tc, rfl⟩ := own_slice HZ.out.sems
      have ct : wz.cell? ⟨t, 0, none⟩ = some (.slice ta tn tc) := (cell_blk HZ.out.told 0).trans rfl
      have AP : Hid ((wz.alloc (.cells #[.int .i64 (S.cnt k)] 3)).ownsRow w.heap.size 3 1 (.slice ta tn tc) k (cntL S k) ∧ w.heap.size ≤ (wz.alloc (.cells #[.int .i64 (S.cnt k)] 3)).heap.size ∧ (wz.alloc (.cells #[.int .i64 (S.cnt k)] 3)).cell? ⟨wz.heap.size, 0, none⟩ = some (.int .i64 (S.cnt k))) := ⟨HZ.out.sems.alloc _, by have := HZ.out.kept.size; rw [World.size_alloc]; omega, (cell_blk (alloc_new wz _) 0).trans rfl⟩
      go_wp2_with (at_builtin; refine wpList_app1 rfl _ _ 52 3 rfl _ 8 Try.underlying52 Try.infoI rfl w.heap.size (.slice ta tn tc) k (cntL S k) rfl AP.out.1 AP.out.2.1 ⟨wz.heap.size, 0, none⟩ 1 (.int .i64 (S.cnt k)) rfl AP.out.2.2 rfl (by omega) (by unfold maxLen; omega) ?_; intro va vc wa own1 gr1 lo1; obtain ⟨q1, q2, q3⟩ := HZ.out.sem own1.out gr1.out; have HF := hid q3; clear q3)
      go_roundw
      case rel => exact ⟨k + 1, _, by omega, by go_num, HF.out⟩
      case measure => simp [intOf]; omega
    · have hltz : ¬ (k : Int) < (S.ns : Int) := by omega
      have hkn : k = S.ns := by omega
      subst hkn
      have c2 : wr.cell? ⟨l, 2, none⟩ = some (.slice ba S.nb bc) := (cell_blk HT.out.box 2).trans rfl
      go_wp2
      clear c2
      go_loopw [36] (fun x wr => ∃ (m : Nat) (tb : Value) (lvs : List Value) (mss : List (List Value)), m ≤ S.nb ∧ x = .int .i64 m ∧ Tl w wr (.slice sa S.ns sc) (.slice ea S.ne ec) (.slice ba S.nb bc) S w.heap.size l t ts (.slice ya S.ne yc) tb S.ns m lvs mss) (fun x _ => S.nb - (intOf x).toNat)
      case atStart => exact ⟨0, .slice none 0 0, [], [], Nat.zero_le _, rfl, HT.out⟩
      case round =>
        clear HT
        obtain ⟨m, tb, lvs, mss, hm, rfl, htl⟩ := hrel
        have HT := hid htl
        clear htl
        by_cases hlt2 : m < S.nb
        · have hltz2 : (m : Int) < (S.nb : Int) := by omega
          obtain ⟨g, cap, hgv, _, _, _, hce, _⟩ := (HH.out.1.keep HT.out.kept).bufs.look hlt2
          injection hgv with hgv _ hcv
          subst hgv hcv
          obtain ⟨ia, ic, hia, hic, hic2⟩ := (HH.out.1.its m hlt2).shape
          have e0 : wr.cell? ⟨g, m * 3, none⟩ = some (.slice ia (S.ms m).length ic) := by rw [← hia]; exact hce 0 (by decide)
          have e1 : wr.cell? ⟨g, m * 3 + 1, none⟩ = some (.int .i64 (S.dp m)) := hce 1 (by decide)
          have e2 : wr.cell? ⟨g, m * 3 + 2, none⟩ = some (.int .i64 (S.sz m)) := hce 2 (by decide)
          clear hce
          go_upto_region 11 with fail
          have HZ : Hid (Tl w (wr.alloc (.cells #[.slice ia (S.ms m).length ic, .int .i64 (S.dp m), .int .i64 (S.sz m)] 88)) (.slice sa S.ns sc) (.slice ea S.ne ec) (.slice (some ⟨g, 0, none⟩) S.nb bc) S w.heap.size l t ts (.slice ya S.ne yc) tb S.ns m lvs mss) := HT.out.keep ((Kept.refl No wr).alloc _)
          have cz : (wr.alloc (.cells #[.slice ia (S.ms m).length ic, .int .i64 (S.dp m), .int .i64 (S.sz m)] 88)).cell? ⟨wr.heap.size, 0, none⟩ = some (.slice ia (S.ms m).length ic) := (cell_blk (alloc_new wr _) 0).trans rfl
          clear HT e0 e1 e2
          generalize (wr.alloc (.cells #[.slice ia (S.ms m).length ic, .int .i64 (S.dp m), .int .i64 (S.sz m)] 88)) = wz at *
          generalize wr.heap.size = z at *
          go_upto_region 13 with fail
          clear cz
          have hml : (S.ms m).length ≤ 1099511627775 := (HH.out.2.2.2.2 m hlt2).1
          go_loopw [9, 44] (fun u x wi => ∃ (j : Nat) (ns : List Value), j ≤ (S.ms m).length ∧ x = .int .i64 j ∧ Ll wi wz.heap.size u ns ((S.xs m).take j) ∧ ns.length = j ∧ Kept No wz wi) (fun u x _ => (S.ms m).length - (intOf x).toNat)
          case atStart => exact ⟨0, [], Nat.zero_le _, rfl, Ll.none _ _, rfl, Kept.refl No _⟩
          case round =>
            obtain ⟨j, ns, hj, rfl, hll, hnl, hki⟩ := hrel
            obtain ⟨la, ln, lc, rfl⟩ := own_slice hll.own
            have HL : Hid (Ll wr wz.heap.size (.slice la ln lc) ns ((S.xs m).take j) ∧ Kept No wz wr) := ⟨hll, hki⟩
            clear hll hki
            by_cases hlt3 : j < (S.ms m).length
            · have hltz3 : (j : Int) < ((S.ms m).length : Int) := by omega
              obtain ⟨v, hv⟩ : ∃ v, (S.ms m)[j]? = some v := ⟨_, List.getElem?_eq_getElem hlt3⟩
              have st := HH.out.1.keep (HZ.out.kept.trans HL.out.2 (fun _ e => e.elim))
              obtain ⟨x, hx, hox⟩ := st.at_msg hlt2 hv
              obtain ⟨gq, oq, cq, hq, _, _, _, cv, _⟩ := (st.its m hlt2).look hv
              rw [hia] at hq
              injection hq with hq _ hcq
              subst hq hcq
              obtain ⟨xa, xc, rfl, hzx⟩ := Zs.of_owns hox
              have hxl : x.length ≤ 17592186044416 := (HH.out.2.2.2.2 m hlt2).2 x (List.mem_of_getElem? hx)
              have CW := hid (words_any wr hzx hxl)
              have HX : Hid ((S.xs m).take (j + 1) = (S.xs m).take j ++ [x]) := by
                show List.take (j + 1) (S.xs m) = _
                rw [List.take_add_one, hx]
                rfl
              have HM : Hid (∀ W1, Kept No wr W1 → W1.heap.size = W1.heap.size) := fun _ _ => rfl
              clear st hox hzx hv hx hxl HM
              have hnl2 := hid hnl
              go_upto_region 15 with fail
              clear cv
              go_wp2_with (first
                | (go_at_call 34; refine CW.out.mono ?_; rintro e w6 ⟨pa, pc, rfl, o6, k6⟩; have O6 := hid o6; have K6 := hid k6; clear o6 k6 CW; have AP : Hid ((w6.alloc (.cells #[.slice pa x.length pc] 31)).ownsRow wz.heap.size 31 1 (.slice la ln lc) ns.length ns ∧ wz.heap.size ≤ (w6.alloc (.cells #[.slice pa x.length pc] 31)).heap.size ∧ (w6.alloc (.cells #[.slice pa x.length pc] 31)).cell? ⟨w6.heap.size, 0, none⟩ = some (.slice pa x.length pc)) := ⟨(K6.out.owns HL.out.1.own (fun _ _ e => e)).alloc _, (by have := HL.out.2.size; have := K6.out.size; rw [World.size_alloc]; omega), (cell_blk (alloc_new w6 _) 0).trans rfl⟩)
                | (at_builtin; refine wpList_app1 rfl _ _ 40 31 rfl _ 24 Try.underlying40 Try.infoL rfl wz.heap.size (.slice la ln lc) ns.length ns rfl AP.out.1 AP.out.2.1 ⟨w6.heap.size, 0, none⟩ 1 (.slice pa x.length pc) rfl AP.out.2.2 rfl (by omega) (by unfold maxLen; omega) ?_; intro va vc wa own1 gr1 lo1; obtain ⟨q1, q2⟩ := HL.out.1.more HL.out.2.size rfl K6.out O6.out own1.out gr1.out; have HF : Hid (Ll wa wz.heap.size (.slice va (ns.length + 1) vc) (ns ++ [.slice pa x.length pc]) ((S.xs m).take (j + 1)) ∧ Kept No wz wa) := (by rw [HX.out]; exact ⟨q1, HL.out.2.trans q2 (fun k e => .inr (owns_at HL.out.1.own e).1)⟩); clear q1 q2))
              go_roundw
              case rel =>
                refine ⟨j + 1, ns ++ [.slice pa x.length pc], by omega, by go_num, ?_, ?_, HF.out.2⟩
                · have h7 := HF.out.1
                  rw [hnl2.out] at h7
                  exact h7
                · have h7 := hnl2.out
                  rw [List.length_append, List.length_singleton]
                  omega
              case measure => simp [intOf]; omega
            · have hltz3 : ¬ (j : Int) < ((S.ms m).length : Int) := by omega
              have hjn : j = (S.ms m).length := by omega
              have HX : Hid ((S.xs m).take j = S.xs m) := by
                show List.take j (S.xs m) = S.xs m
                rw [hjn, ← HH.out.1.len m hlt2, List.take_length]
              have hz1 := HZ.out.keep HL.out.2
              obtain ⟨ta, tn, tc, rfl⟩ := own_slice hz1.bufs.own
              have ct : wr.cell? ⟨t, 2, none⟩ = some (.slice ta tn tc) := (cell_blk hz1.told 2).trans rfl
              have AP : Hid ((wr.alloc (.cells #[.slice la ln lc] 40)).ownsRow w.heap.size 40 1 (.slice ta tn tc) m lvs ∧ w.heap.size ≤ (wr.alloc (.cells #[.slice la ln lc] 40)).heap.size ∧ (wr.alloc (.cells #[.slice la ln lc] 40)).cell? ⟨wr.heap.size, 0, none⟩ = some (.slice la ln lc)) := ⟨by have := hz1.bufs.own.alloc (.cells #[.slice la ln lc] 40); rw [hz1.len] at this; exact this, by have := hz1.kept.size; rw [World.size_alloc]; omega, (cell_blk (alloc_new wr _) 0).trans rfl⟩
              have HM : Hid (∀ wa v1, wa.ownsRow w.heap.size 40 1 v1 (m + 1) (lvs ++ [.slice la ln lc]) → (wr.alloc (.cells #[.slice la ln lc] 40)).grownBy wa (Value.slice ta tn tc).ownBlock → wa.cell? ⟨t, 2, none⟩ = some (.slice ta tn tc) ∧ wa.frozen? ⟨t, 2, none⟩ = false ∧ Tl w (wa.setCell ⟨t, 2, none⟩ v1) (.slice sa S.ns sc) (.slice ea S.ne ec) (.slice (some ⟨g, 0, none⟩) S.nb bc) S w.heap.size l t ts (.slice ya S.ne yc) v1 S.ns (m + 1) (lvs ++ [.slice la ln lc]) (mss ++ [ns])) := fun wa v1 o1 g1 => by
                have L := HL.out.1
                rw [HX.out] at L
                exact HZ.out.buf HL.out.2 L o1 g1
              clear HX hz1 hjn HL
              go_wp2_with (at_builtin; refine wpList_app1 rfl _ _ 53 40 rfl _ 24 Try.underlying53 Try.infoLL rfl w.heap.size (.slice ta tn tc) m lvs rfl AP.out.1 AP.out.2.1 ⟨wr.heap.size, 0, none⟩ 1 (.slice la ln lc) rfl AP.out.2.2 rfl (by omega) (by unfold maxLen; omega) ?_; intro va vc wa own1 gr1 lo1; obtain ⟨q1, q2, q3⟩ := HM.out _ _ own1.out gr1.out; have HF := hid q3; clear q3)
              go_roundw
              case rel => exact ⟨m + 1, _, _, _, by omega, by go_num, HF.out⟩
              case measure => simp [intOf]; omega
        · have hltz2 : ¬ (m : Int) < (S.nb : Int) := by omega
          have hmn : m = S.nb := by omega
          subst hmn
          have hT := HT.out
          obtain ⟨sa', sn', sc', rfl⟩ := own_slice hT.sems
          obtain ⟨ba', bn', bc', rfl⟩ := own_slice hT.bufs.own
          have d0 : wr.cell? ⟨t, 0, none⟩ = some _ := (cell_blk hT.told 0).trans rfl
          have d1 : wr.cell? ⟨t, 1, none⟩ = some _ := (cell_blk hT.told 1).trans rfl
          have d2 : wr.cell? ⟨t, 2, none⟩ = some _ := (cell_blk hT.told 2).trans rfl
          have r0 : wr.cell? ⟨w.heap.size, 0, none⟩ = some _ := (cell_blk hT.res 0).trans rfl
          have r1 : wr.cell? ⟨w.heap.size, 1, none⟩ = some _ := (cell_blk hT.res 1).trans rfl
          have r2 : wr.cell? ⟨w.heap.size, 2, none⟩ = some _ := (cell_blk hT.res 2).trans rfl
          have f0 := fz_blk hT.res 0
          have f1 := fz_blk hT.res 1
          have f2 := fz_blk hT.res 2
          clear hT
          go_wp2
          refine bodyPost_ret (results_cell_row rfl _ _ w.heap.size 55 #[.slice sa' sn' sc', .slice ya S.ne yc, .slice ba' bn' bc'] (0, 0) _ rfl (set3 HT.out.res _ _ _) Try.underlying55 rfl Try.infoOS) rfl ?_
          have hT := HT.out
          have K : Kept (fun j => j = w.heap.size) wr (((wr.setCell ⟨w.heap.size, 0, none⟩ (.slice sa' sn' sc')).setCell ⟨w.heap.size, 1, none⟩ (.slice ya S.ne yc)).setCell ⟨w.heap.size, 2, none⟩ (.slice ba' bn' bc')) := (((Kept.refl (fun j => j = w.heap.size) wr).setCell (p := ⟨w.heap.size, 0, none⟩) (.inl rfl) _).setCell (p := ⟨w.heap.size, 1, none⟩) (.inl rfl) _).setCell (p := ⟨w.heap.size, 2, none⟩) (.inl rfl) _
          have tag : ∀ {t' s n : Nat} {u : Value} {ys : List Value}, wr.ownsRow w.heap.size t' s u n ys → t' ≠ 55 → ∀ k, u.ownBlock = some k → ¬ k = w.heap.size := fun ho ht k hk e => by
            obtain ⟨_, cs, h1⟩ := owns_blk ho hk
            subst e
            exact ht (two_tags h1 hT.res)
          refine ⟨_, _, _, rfl, lvs, mss, K.owns hT.sems (tag hT.sems (by decide)), K.owns hT.evs (tag hT.evs (by decide)), hT.bufs.kept K (fun k hk e => ?_), hT.len, hT.kept.trans K (fun k e => .inr (by rw [e]; exact Nat.le_refl _))⟩
          subst e
          exact Tl.fb_ne hT.bufs hT.res (by decide) (by decide) (by decide) hk
end
end Go.Proofs.Ytggkajopfbokjaa
