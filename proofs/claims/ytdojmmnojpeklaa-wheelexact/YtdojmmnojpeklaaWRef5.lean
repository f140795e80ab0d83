/-
  The document's Advance.
-/
import Derived.Test.YtdojmmnojpeklaaWRef4
namespace Go.Proofs.Ytdojmmnojpeklaa
open Go.RowKit
set_option linter.unusedVariables false
set_option maxRecDepth 100000

theorem results_c3 {fn : Func} {p u x : Tmp} {ty : TypeId} (h : fn.results = #[.cell p ty, .tmp u, .tmp x]) (tmps : Array Value) (P : Program) (w : World) :
    (results fn tmps).run P w =
      ((asAddr (tmps.getD p undef)).run P w).andThen fun a w₁ => ((loadVar ty a).run P w₁).andThen fun v w₂ => .ok (.tuple #[v, tmps.getD u undef, tmps.getD x undef]) w₂ := by
  simp only [results, h]
  simp [Sem.run_bind, Result.andThen]
/-- while what has run out is parted from what is left: box q and the two rows -/
structure Ag (W : World) (q : Nat) (bx : Array Value) (A B : List Fi) (a b : Value) (w : World) : Prop where
  bel : Below W.heap.size W w
  box : w.heap[q]? = some (.cells bx 47)
  box' : w.heap[q + 1]? = some (.cells #[.int .i64 0, .slice none 0 0] 47)
  ra : w.ownsRow W.heap.size 32 2 a A.length (fcL A)
  rb : w.ownsRow W.heap.size 32 2 b B.length (fcL B)
  aq : ∀ g, a.ownBlock = some g → q + 1 < g
  bq : ∀ g, b.ownBlock = some g → q + 1 < g
  ne : ∀ g, a.ownBlock = some g → b.ownBlock ≠ some g
namespace Ag
variable {W w w' : World} {q : Nat} {bx : Array Value} {A B : List Fi} {a b v : Value}
theorem flip (h : Ag W q bx A B a b w) : Ag W q bx B A b a w := ⟨h.bel, h.box, h.box', h.rb, h.ra, h.bq, h.aq, fun g hg e => h.ne g e hg⟩
theorem more (h : Ag W q bx A B a b w) {x : Fi} {y : Obj} (own : w'.ownsRow W.heap.size 32 2 v (A.length + 1) (fcL A ++ fc x)) (gr : (w.alloc y).grownBy w' a.ownBlock) (at' : v.ownBlock = a.ownBlock ∨ v.ownBlock = some (w.alloc y).heap.size) : Ag W q bx (A ++ [x]) B v b w' := by
  have hk : Kept (fun k => a.ownBlock = some k) w w' := ((Kept.refl _ w).alloc y).grown gr (fun k e => .inl e)
  have hq := heap_lt h.box'
  refine ⟨h.bel.trans (hk.below (fun k e => (h.ra.lt k e).1) h.bel.size), hk.at' h.box (fun e => by have := h.aq _ e; omega), hk.at' h.box' (fun e => by have := h.aq _ e; omega), ?_, hk.owns h.rb (fun g hg e => h.ne g e hg), fun g hg => ?_, h.bq, fun g hg e => ?_⟩
  · rw [List.length_append, fcL_append]; exact own
  · rcases at' with e2 | e2
    · exact h.aq g (e2 ▸ hg)
    · rw [e2] at hg; injection hg with hg; rw [World.size_alloc] at hg; omega
  · rcases at' with e2 | e2
    · exact h.ne g (e2 ▸ hg) e
    · rw [e2] at hg; injection hg with hg; rw [World.size_alloc] at hg; have := (h.rb.lt g e).2; omega
end Ag
def upT (tg : Int) (L : List Fi) : List Fi := L.filter (fun x => decide (x.t ≤ tg))
def pastT (tg : Int) (L : List Fi) : List Fi := L.filter (fun x => !decide (x.t ≤ tg))
theorem upT_more {tg : Int} {L : List Fi} {j : Nat} {x : Fi} (h : L[j]? = some x) : (upT tg (L.take (j + 1)) = if x.t ≤ tg then upT tg (L.take j) ++ [x] else upT tg (L.take j)) ∧ (pastT tg (L.take (j + 1)) = if x.t ≤ tg then pastT tg (L.take j) else pastT tg (L.take j) ++ [x]) := by
  unfold upT pastT
  rw [List.take_add_one, h, List.filter_append, List.filter_append]
  by_cases e : x.t ≤ tg
  · rw [if_pos e, if_pos e]; simp [e]
  · rw [if_neg e, if_neg e]; simp [e]
theorem upT_split {tg : Int} {T L' : List Fi} (h1 : ∀ x, x ∈ T → x.t ≤ tg) (h2 : ∀ x, x ∈ L' → tg < x.t) : upT tg (T ++ L') = T ∧ pastT tg (T ++ L') = L' := by
  unfold upT pastT
  rw [List.filter_append, List.filter_append]
  have e1 : T.filter (fun x => decide (x.t ≤ tg)) = T := List.filter_eq_self.2 (fun x hx => decide_eq_true (h1 x hx))
  have e2 : L'.filter (fun x => decide (x.t ≤ tg)) = [] := List.filter_eq_nil_iff.2 (fun x hx => by have := h2 x hx; simp; omega)
  have e3 : T.filter (fun x => !decide (x.t ≤ tg)) = [] := List.filter_eq_nil_iff.2 (fun x hx => by have := h1 x hx; simp [this])
  have e4 : L'.filter (fun x => !decide (x.t ≤ tg)) = L' := List.filter_eq_self.2 (fun x hx => by have := h2 x hx; simp; omega)
  rw [e1, e2, e3, e4, List.append_nil, List.nil_append]
  exact ⟨rfl, rfl⟩
section
variable {W : World} {N : Nat} {v : Value} {L : List Fi} {n : Nat}
set_option maxHeartbeats 1000000 in
theorem radv_no (x : Int) (hx : x < N ∨ x > 1099511627776) (hv : W.ownsRow 0 32 2 v n (fcL L)) : Calls Try.prog 31 #[mv N v, .int .i64 x] W fun ex w' => ex = .returned (.tuple #[mv N v, .slice none 0 0, .int .i64 2]) ∧ Below W.heap.size W w' := by
  obtain ⟨_, a, c, rfl, -⟩ := owns_fis hv
  obtain ⟨QA, QB⟩ := heap_two W (.cells #[.int .i64 N, .slice a n c] 47) (.cells #[.int .i64 0, .slice none 0 0] 47)
  have K1 : Hid (Kept No W ((W.alloc (.cells #[.int .i64 N, .slice a n c] 47)).alloc (.cells #[.int .i64 0, .slice none 0 0] 47))) := ((Kept.refl No W).alloc _).alloc _
  have q0 := cell_of_row (k := 0) (v := .int .i64 N) QA rfl
  have q1 := cell_of_row (k := 1) (v := .slice a n c) QA rfl
  have f0 := fz_row QB
  have p0 := cell_of_row (k := 0) (v := .int .i64 0) QB rfl
  have p1 := cell_of_row (k := 1) (v := .slice none 0 0) QB rfl
  have HB : Hid (((W.alloc (.cells #[.int .i64 N, .slice a n c] 47)).alloc (.cells #[.int .i64 0, .slice none 0 0] 47)).heap[W.heap.size + 1]? = some (.cells #[.int .i64 0, .slice none 0 0] 47)) := QB
  unfold mv
  clear hv QA QB
  have key : x < N ∨ (¬ x < N ∧ x > 1099511627776) := by omega
  clear hx
  rcases key with c1 | ⟨c1, c2⟩
  all_goals
    go_enter Try.func31, Try.ntmps31
    go_upto_region 1 with fail
    generalize (W.alloc (.cells #[.int .i64 N, .slice a n c] 47)).alloc (.cells #[.int .i64 0, .slice none 0 0] 47) = w1 at *
    go_wp2
    have hld := answer47 (x := .int .i64 N) (y := .slice a n c) HB.out
    refine bodyPost_ret (v := .tuple #[.agg #[.int .i64 N, .slice a n c], .slice none 0 0, .int .i64 2]) ?_ rfl ⟨rfl, (set2_kept K1.out (Nat.le_succ _) _ _).below0⟩
    rw [results_c3 rfl]
    simp [asAddr, Result.andThen, hld]
set_option maxHeartbeats 4000000 in
theorem radv_yes (tg : Nat) (h1 : N ≤ tg) (h2 : tg ≤ 1099511627776) (hv : W.ownsRow 0 32 2 v n (fcL L)) (hn : n ≤ 1000000) : Calls Try.prog 31 #[mv N v, .int .i64 tg] W fun ex w' => ∃ u o, ex = .returned (.tuple #[mv tg u, o, .int .i64 0]) ∧ w'.ownsRow W.heap.size 32 2 o (upT tg L).length (fcL (upT tg L)) ∧ w'.ownsRow W.heap.size 32 2 u (pastT tg L).length (fcL (pastT tg L)) ∧ (∀ g, o.ownBlock = some g → u.ownBlock ≠ some g) ∧ Below W.heap.size W w' := by
  obtain ⟨hl, a, c, rfl, hc1, hc2, -⟩ := owns_fis hv
  obtain ⟨QA, QB⟩ := heap_two W (.cells #[.int .i64 N, .slice a n c] 47) (.cells #[.int .i64 0, .slice none 0 0] 47)
  have HG0 : Hid (Ag W W.heap.size #[.int .i64 N, .slice a n c] [] [] (.slice none 0 0) (.slice none 0 0) ((W.alloc (.cells #[.int .i64 N, .slice a n c] 47)).alloc (.cells #[.int .i64 0, .slice none 0 0] 47))) := ⟨((Below.refl _ W).alloc (Nat.le_refl _) _).alloc (by simp) _, QA, QB, World.ownsRow_nil _ _ _ _, World.ownsRow_nil _ _ _ _, (fun g e => by cases e), (fun g e => by cases e), (fun g e => by cases e)⟩
  have HX : Hid (W.ownsRow 0 32 2 (.slice a n c) n (fcL L) ∧ L.length = n) := ⟨hv, hl⟩
  have q0 := cell_of_row (k := 0) (v := .int .i64 N) QA rfl
  have q1 := cell_of_row (k := 1) (v := .slice a n c) QA rfl
  obtain ⟨i0, hi, hz0, hz1, hz2⟩ := info_parts info32
  have HLE : Hid (∀ j, (upT tg (L.take j)).length ≤ 1000000 ∧ (pastT tg (L.take j)).length ≤ 1000000) := (fun j => by
    have h3 : (L.take j).length ≤ L.length := List.length_take_le' j L
    have h4 : (upT tg (L.take j)).length ≤ (L.take j).length := List.length_filter_le _ _
    have h5 : (pastT tg (L.take j)).length ≤ (L.take j).length := List.length_filter_le _ _
    exact ⟨by omega, by omega⟩)
  have g1 : ¬ ((tg : Int) < (N : Int)) := by omega
  have g2 : ¬ ((tg : Int) > 1099511627776) := by omega
  unfold mv
  clear hv QA QB hl
  go_enter Try.func31, Try.ntmps31
  go_upto_region 1 with fail
  generalize (W.alloc (.cells #[.int .i64 N, .slice a n c] 47)).alloc (.cells #[.int .i64 0, .slice none 0 0] 47) = w1 at *
  go_wp2
  go_loopw [7, 8, 9] (fun o u d wr => ∃ j : Nat, j ≤ n ∧ d = .int .i64 j ∧ Ag W W.heap.size #[.int .i64 N, .slice a n c] (upT tg (L.take j)) (pastT tg (L.take j)) o u wr) (fun _ _ d _ => n - (intOf d).toNat)
  case atStart => exact ⟨0, Nat.zero_le _, rfl, HG0.out⟩
  case round =>
    clear HG0 q0 q1
    obtain ⟨j, hj, rfl, hg⟩ := hrel
    have HG : Hid (Ag W W.heap.size #[.int .i64 N, .slice a n c] (upT tg (L.take j)) (pastT tg (L.take j)) u7 u8 wr) := hg
    have q1 := cell_of_row (k := 1) (v := .slice a n c) hg.box rfl
    by_cases hlt : j < n
    · obtain ⟨x, hx⟩ : ∃ x, L[j]? = some x := ⟨_, List.getElem?_eq_getElem (by rw [HX.out.2]; exact hlt)⟩
      obtain ⟨g, rfl, r0, r1⟩ : ∃ g, a = some ⟨g, 0, none⟩ ∧ wr.cell? ⟨g, j * 2, none⟩ = some (.int .i64 x.t) ∧ wr.cell? ⟨g, j * 2 + 1, none⟩ = some (.int .i64 x.i) := by
        have hrow := (Kept.of_below (F := No) hg.bel).owns HX.out.1 (fun _ _ h => h)
        obtain ⟨_, a', c', e, _, _, h3⟩ := owns_fis hrow
        injection e with e1 _ _
        subst e1
        exact h3 j x hx
      obtain ⟨m1, m2⟩ := upT_more (tg := tg) hx
      have hsz := hg.bel.size
      obtain ⟨l1, l2⟩ := HLE.out j
      obtain ⟨xt, xi⟩ := x
      dsimp only at r0 r1 m1 m2
      clear hg hx
      by_cases hxt : xt ≤ (tg : Int)
      · rw [if_pos hxt] at m1 m2
        have HM : Hid (upT tg (L.take (j + 1)) = upT tg (L.take j) ++ [⟨xt, xi⟩] ∧ pastT tg (L.take (j + 1)) = pastT tg (L.take j)) := ⟨m1, m2⟩
        clear m1 m2
        go_wp2_with (at_builtin; refine wpList_append_own_at _ rfl _ _ 22 rfl W.heap.size 32 i0 (.agg #[.int .i64 0, .int .i64 0]) 2 16 Try.underlying22 hi hz0 hz1 hz2 rfl (by decide) _ _ _ rfl (HG.out.ra.alloc _) ⟨wr.heap.size, 0, none⟩ 1 1 (fc ⟨xt, xi⟩) rfl rfl (cell2_new _ ⟨xt, xi⟩) (fc_one _) (by unfold maxLen; omega) (by omega) (by simp; omega) ?_; intro v1 w6 own1 grow1 _ at1; have HG2 : Hid (Ag W W.heap.size #[.int .i64 N, .slice (some ⟨g, 0, none⟩) n c] (upT tg (L.take j) ++ [⟨xt, xi⟩]) (pastT tg (L.take j)) v1 u8 w6) := HG.out.more own1 grow1 at1; clear own1 grow1 at1)
        go_roundw
        case rel => exact ⟨j + 1, by omega, by go_num, by rw [HM.out.1, HM.out.2]; exact HG2.out⟩
        case measure => simp [intOf]; omega
      · rw [if_neg hxt] at m1 m2
        have HM : Hid (upT tg (L.take (j + 1)) = upT tg (L.take j) ∧ pastT tg (L.take (j + 1)) = pastT tg (L.take j) ++ [⟨xt, xi⟩]) := ⟨m1, m2⟩
        clear m1 m2
        go_wp2_with (at_builtin; refine wpList_append_own_at _ rfl _ _ 22 rfl W.heap.size 32 i0 (.agg #[.int .i64 0, .int .i64 0]) 2 16 Try.underlying22 hi hz0 hz1 hz2 rfl (by decide) _ _ _ rfl (HG.out.rb.alloc _) ⟨wr.heap.size, 0, none⟩ 1 1 (fc ⟨xt, xi⟩) rfl rfl (cell2_new _ ⟨xt, xi⟩) (fc_one _) (by unfold maxLen; omega) (by omega) (by simp; omega) ?_; intro v1 w6 own1 grow1 _ at1; have HG2 : Hid (Ag W W.heap.size #[.int .i64 N, .slice (some ⟨g, 0, none⟩) n c] (pastT tg (L.take j) ++ [⟨xt, xi⟩]) (upT tg (L.take j)) v1 u7 w6) := HG.out.flip.more own1 grow1 at1; clear own1 grow1 at1)
        go_roundw
        case rel => exact ⟨j + 1, by omega, by go_num, by rw [HM.out.1, HM.out.2]; exact HG2.out.flip⟩
        case measure => simp [intOf]; omega
    · have hjn : j = n := by omega
      subst hjn
      have hg1 : Ag W W.heap.size #[.int .i64 N, .slice a j c] (upT tg L) (pastT tg L) u7 u8 wr := (by have h2 := hg; rw [List.take_of_length_le (by rw [HX.out.2]; exact Nat.le_refl _)] at h2; exact h2)
      obtain ⟨_, a8, c8, hu8, -⟩ := owns_fis hg1.rb
      subst hu8
      have HG1 : Hid (Ag W W.heap.size #[.int .i64 N, .slice a j c] (upT tg L) (pastT tg L) u7 (.slice a8 (pastT tg L).length c8) wr) := hg1
      generalize (pastT tg L).length = pl at *
      have p0 := cell_of_row (k := 0) (v := .int .i64 0) hg1.box' rfl
      have p1 := cell_of_row (k := 1) (v := .slice none 0 0) hg1.box' rfl
      have pf := fz_row hg1.box'
      clear hg hg1
      go_wp2
      have hld := answer47 (x := .int .i64 tg) (y := .slice a8 pl c8) HG1.out.box'
      have kq := set2_keptF (q := W.heap.size + 1) wr (.int .i64 tg) (.slice a8 pl c8)
      refine bodyPost_ret (v := .tuple #[.agg #[.int .i64 tg, .slice a8 pl c8], u7, .int .i64 0]) ?_ rfl ⟨_, _, rfl, kq.owns HG1.out.ra (fun g hg e => by have := HG1.out.aq g hg; omega), kq.owns HG1.out.rb (fun g hg e => by have := HG1.out.bq g hg; omega), HG1.out.ne, HG1.out.bel.trans (kq.below (fun k e => by omega) HG1.out.bel.size)⟩
      rw [results_c3 rfl]
      simp [asAddr, Result.andThen, hld]
end
end Go.Proofs.Ytdojmmnojpeklaa
