/-
  The document's placed.
-/
import Derived.Test.YtdojmmnojpeklaaWRef1
import Derived.BigQuiet
namespace Go.Proofs.Ytdojmmnojpeklaa
open Go.RowKit
set_option linter.unusedVariables false
set_option maxRecDepth 100000

theorem ins_app_no {f : Fi} : ∀ {A B : List Fi}, (∀ y, y ∈ A → ¬ lt2 f y) → ins f (A ++ B) = A ++ ins f B
  | [], B, _ => rfl
  | a :: A, B, h => by
    show ins f (a :: (A ++ B)) = a :: (A ++ ins f B)
    rw [ins, if_neg (h a List.mem_cons_self), ins_app_no (fun y hy => h y (List.mem_cons_of_mem _ hy))]
theorem ins_app_yes {f : Fi} : ∀ {A B : List Fi}, (∃ y, y ∈ A ∧ lt2 f y) → ins f (A ++ B) = ins f A ++ B
  | [], B, ⟨y, hy, _⟩ => by cases hy
  | a :: A, B, ⟨y, hy, hl⟩ => by
    show ins f (a :: (A ++ B)) = ins f (a :: A) ++ B
    by_cases h : lt2 f a
    · rw [ins, if_pos h, ins, if_pos h]; rfl
    · rw [ins, if_neg h, ins, if_neg h]
      have hyA : y ∈ A := by
        rcases List.mem_cons.1 hy with e | e
        · subst e; exact absurd hl h
        · exact e
      rw [ins_app_yes ⟨y, hyA, hl⟩]; rfl
/-- what stands behind j of them -/
def Pl (f : Fi) (A : List Fi) (done : Bool) (out : List Fi) : Prop :=
  (done = true ∧ (∃ y, y ∈ A ∧ lt2 f y) ∧ out = ins f A) ∨ (done = false ∧ (∀ y, y ∈ A → ¬ lt2 f y) ∧ out = A)
theorem Pl.len {f : Fi} {A out : List Fi} {d : Bool} (h : Pl f A d out) : out.length ≤ A.length + 1 := by
  rcases h with ⟨_, _, rfl⟩ | ⟨_, _, rfl⟩
  · rw [ins_length]; exact Nat.le_refl _
  · omega
theorem tg_app {W w w' : World} {out : List Fi} {u v1 : Value} {x : Fi} {q : Nat} {o : Obj} {y : Obj} (h : Tg W out u w) (hq : u.ownBlock ≠ some q) (box : w.heap[q]? = some o) (own : w'.ownsRow W.heap.size 32 2 v1 (out.length + 1) (fcL out ++ fc x)) (gr : (w.alloc y).grownBy w' u.ownBlock) (at1 : v1.ownBlock = u.ownBlock ∨ v1.ownBlock = some (w.alloc y).heap.size) : Tg W (out ++ [x]) v1 w' ∧ v1.ownBlock ≠ some q ∧ w'.heap[q]? = some o := by
  have hk : Kept (fun k => u.ownBlock = some k) w w' := ((Kept.refl _ w).alloc y).grown gr (fun k e => .inl e)
  refine ⟨(h.alloc y).more own gr, fun e => ?_, hk.at' box (fun e => hq e)⟩
  rcases at1 with e2 | e2
  · exact hq (e2 ▸ e)
  · rw [e2] at e; injection e with e; rw [World.size_alloc] at e; have := heap_lt box; omega
set_option maxHeartbeats 4000000 in
theorem placed_any (L : List Fi) (v : Value) (n : Nat) (W : World) (f : Fi) (hx : W.ownsRow 0 32 2 v n (fcL L)) (hn : n ≤ 1000000) :
    Calls Try.prog 38 #[v, .agg #[.int .i64 f.t, .int .i64 f.i]] W fun ex w' => ∃ u, ex = .returned u ∧ w'.ownsRow W.heap.size 32 2 u (ins f L).length (fcL (ins f L)) ∧ Below W.heap.size W w' := by
  obtain ⟨hl, a, c, rfl, hc1, hc2, -⟩ := owns_fis hx
  have HX : Hid (W.ownsRow 0 32 2 (.slice a n c) n (fcL L) ∧ L.length = n) := ⟨hx, hl⟩
  obtain ⟨i0, hi, hz0, hz1, hz2⟩ := info_parts info32
  have HQ : Hid ((W.alloc (.cells #[.int .i64 f.t, .int .i64 f.i] 32)).heap[W.heap.size]? = some (.cells #[.int .i64 f.t, .int .i64 f.i] 32)) := heap_last _ _
  have HG0 : Hid (Tg W [] (.slice none 0 0) (W.alloc (.cells #[.int .i64 f.t, .int .i64 f.i] 32))) := ⟨(Below.refl _ W).alloc (Nat.le_refl _) _, World.ownsRow_nil _ _ _ _⟩
  clear hx hl
  go_enter Try.func38, Try.ntmps38
  go_wp2
  generalize W.alloc (.cells #[.int .i64 f.t, .int .i64 f.i] 32) = w1 at *
  go_loopw [5, 6, 7] (fun p dn d wr => ∃ (j : Nat) (b : Bool) (out : List Fi), j ≤ n ∧ d = .int .i64 j ∧ dn = .bool b ∧ Pl f (L.take j) b out ∧ Tg W out p wr ∧ p.ownBlock ≠ some W.heap.size ∧ wr.heap[W.heap.size]? = some (.cells #[.int .i64 f.t, .int .i64 f.i] 32)) (fun _ _ d _ => n - (intOf d).toNat)
  case atStart => exact ⟨0, false, [], Nat.zero_le _, rfl, rfl, .inr ⟨rfl, (fun y hy => by cases hy), rfl⟩, HG0.out, (fun e => by cases e), HQ.out⟩
  case round =>
    clear HG0 HQ
    obtain ⟨j, b, out, hj, rfl, rfl, hpl, hg, hpq, hq⟩ := hrel
    have HG : Hid (Tg W out u5 wr ∧ u5.ownBlock ≠ some W.heap.size) := ⟨hg, hpq⟩
    have HPL : Hid (Pl f (L.take j) b out) := hpl
    have hqlt := heap_lt hq
    have f0 := cell_of_row (k := 0) (v := .int .i64 f.t) hq rfl
    have f1 := cell_of_row (k := 1) (v := .int .i64 f.i) hq rfl
    have HQ : Hid (wr.heap[W.heap.size]? = some (.cells #[.int .i64 f.t, .int .i64 f.i] 32)) := hq
    have hol : out.length ≤ n + 1 := by have := hpl.len; have h2 : (L.take j).length ≤ L.length := List.length_take_le' j L; rw [HX.out.2] at h2; omega
    by_cases hlt : j < n
    · obtain ⟨x, hx⟩ : ∃ x, L[j]? = some x := ⟨_, List.getElem?_eq_getElem (by rw [HX.out.2]; exact hlt)⟩
      obtain ⟨g, rfl, r0, r1⟩ : ∃ g, a = some ⟨g, 0, none⟩ ∧ wr.cell? ⟨g, j * 2, none⟩ = some (.int .i64 x.t) ∧ wr.cell? ⟨g, j * 2 + 1, none⟩ = some (.int .i64 x.i) := by
        have hrow := (Kept.of_below (F := No) hg.bel).owns HX.out.1 (fun _ _ h => h)
        obtain ⟨_, a', c', e, _, _, h3⟩ := owns_fis hrow
        injection e with e1 _ _
        subst e1
        exact h3 j x hx
      have HT : Hid (L.take (j + 1) = L.take j ++ [x]) := (show _ = _ by rw [List.take_add_one, hx]; rfl)
      have HXJ : Hid (L[j]? = some x) := hx
      obtain ⟨g1, hg1⟩ : ∃ lt : Bool, lt = decide (lt2 f x) := ⟨_, rfl⟩
      have HLT : Hid (g1 = decide (lt2 f x)) := hg1
      have HLTD : Hid (lt2 f x ↔ (f.t < x.t ∨ x.t = f.t ∧ f.i < x.i)) := (by show _ ↔ _; unfold lt2; omega)
      obtain ⟨xt, xi⟩ := x
      dsimp only at r0 r1 HLTD
      have hgW : g < W.heap.size := by
        have := HX.out.1.lt g rfl
        exact this.2
      clear hg hx hpl hpq hq hg1
      go_upto_region 6 with fail
      -- the later one
      go_cut [8] (fun s wx => s = .bool g1 ∧ ∃ q, wx = wr.drewN q)
      case first =>
        by_cases c1 : f.t < xt
        · have d1 : decide (f.t < xt) = true := decide_eq_true c1
          have e : g1 = true := by rw [HLT.out]; exact decide_eq_true (HLTD.out.2 (.inl c1))
          go_quiet (fail)
          go_wp2
          go_meet
          exact ⟨by rw [e], _, rfl⟩
        · have d1 : decide (f.t < xt) = false := decide_eq_false c1
          by_cases c2 : xt = f.t
          · have d2 : (xt == f.t) = true := by simp [c2]
            by_cases c3 : f.i < xi
            · have d3 : decide (f.i < xi) = true := decide_eq_true c3
              have e : g1 = true := by rw [HLT.out]; exact decide_eq_true (HLTD.out.2 (.inr ⟨c2, c3⟩))
              clear c2
              go_quiet (fail)
              go_wp2
              go_meet
              exact ⟨by rw [e], _, rfl⟩
            · have d3 : decide (f.i < xi) = false := decide_eq_false c3
              have e : g1 = false := by rw [HLT.out]; exact decide_eq_false (fun h => by rcases HLTD.out.1 h with h | h; exact c1 h; exact c3 h.2)
              clear c2
              go_quiet (fail)
              go_wp2
              go_meet
              exact ⟨by rw [e], _, rfl⟩
          · have d2 : (xt == f.t) = false := by simp [c2]
            have e : g1 = false := by rw [HLT.out]; exact decide_eq_false (fun h => by rcases HLTD.out.1 h with h | h; exact c1 h; exact c2 h.1)
            go_quiet (fail)
            go_wp2
            go_meet
            exact ⟨by rw [e], _, rfl⟩
      case rest =>
        obtain ⟨rfl, q, hwc⟩ := hcut
        have HGc : Hid (Tg W out u5 wc ∧ u5.ownBlock ≠ some W.heap.size) := (by rw [hwc]; exact ⟨HG.out.1.drewN q, HG.out.2⟩)
        have HQc : Hid (wc.heap[W.heap.size]? = some (.cells #[.int .i64 f.t, .int .i64 f.i] 32)) := (by rw [hwc]; exact HQ.out)
        have r0c : wc.cell? ⟨g, j * 2, none⟩ = some (.int .i64 xt) := by rw [hwc]; exact r0
        have r1c : wc.cell? ⟨g, j * 2 + 1, none⟩ = some (.int .i64 xi) := by rw [hwc]; exact r1
        have f0c := cell_of_row (k := 0) (v := .int .i64 f.t) HQc.out rfl
        have f1c := cell_of_row (k := 1) (v := .int .i64 f.i) HQc.out rfl
        have hszc := HGc.out.1.bel.size
        clear hwc r0 r1 f0 f1 HG HQ
        cases g1 with
        | false =>
          have HNL : Hid (¬ lt2 f ⟨xt, xi⟩) := of_decide_eq_false HLT.out.symm
          have HPN : Hid (Pl f (L.take (j + 1)) b (out ++ [⟨xt, xi⟩])) := (by
            show Pl _ _ _ _
            rw [HT.out]
            rcases HPL.out with ⟨e1, e2, e3⟩ | ⟨e1, e2, e3⟩
            · obtain ⟨y, hy, hl⟩ := e2
              exact .inl ⟨e1, ⟨y, List.mem_append_left _ hy, hl⟩, by rw [e3, ins_app_yes ⟨y, hy, hl⟩]⟩
            · refine .inr ⟨e1, fun y hy => ?_, by rw [e3]⟩
              rcases List.mem_append.1 hy with h | h
              · exact e2 y h
              · rw [List.mem_singleton] at h; subst h; exact HNL.out)
          go_wp2_with (at_builtin; refine wpList_append_own_at _ rfl _ _ 22 rfl W.heap.size 32 i0 (.agg #[.int .i64 0, .int .i64 0]) 2 16 Try.underlying22 hi hz0 hz1 hz2 rfl (by decide) _ _ _ rfl (HGc.out.1.row.alloc _) ⟨wc.heap.size, 0, none⟩ 1 1 (fc ⟨xt, xi⟩) rfl rfl (cell2_new _ ⟨xt, xi⟩) (fc_one _) (by unfold maxLen; omega) (by omega) (by simp; omega) ?_; intro v1 w6 own1 grow1 _ at1; have HR6 : Hid (Tg W (out ++ [⟨xt, xi⟩]) v1 w6 ∧ v1.ownBlock ≠ some W.heap.size ∧ w6.heap[W.heap.size]? = some (.cells #[.int .i64 f.t, .int .i64 f.i] 32)) := tg_app HGc.out.1 HGc.out.2 HQc.out own1 grow1 at1; clear own1 grow1 at1)
          go_roundw
          case rel => exact ⟨j + 1, b, _, by omega, by go_num, rfl, HPN.out, HR6.out.1, HR6.out.2.1, HR6.out.2.2⟩
          case measure => simp [intOf]; omega
        | true =>
          have HL2 : Hid (lt2 f ⟨xt, xi⟩) := (show lt2 f ⟨xt, xi⟩ from of_decide_eq_true HLT.out.symm)
          cases b with
          | true =>
            have HPN : Hid (Pl f (L.take (j + 1)) true (out ++ [⟨xt, xi⟩])) := (by
              show Pl _ _ _ _
              rw [HT.out]
              rcases HPL.out with ⟨e1, e2, e3⟩ | ⟨e1, e2, e3⟩
              · obtain ⟨y, hy, hl⟩ := e2
                exact .inl ⟨e1, ⟨y, List.mem_append_left _ hy, hl⟩, by rw [e3, ins_app_yes ⟨y, hy, hl⟩]⟩
              · cases e1)
            go_wp2_with (at_builtin; refine wpList_append_own_at _ rfl _ _ 22 rfl W.heap.size 32 i0 (.agg #[.int .i64 0, .int .i64 0]) 2 16 Try.underlying22 hi hz0 hz1 hz2 rfl (by decide) _ _ _ rfl (HGc.out.1.row.alloc _) ⟨wc.heap.size, 0, none⟩ 1 1 (fc ⟨xt, xi⟩) rfl rfl (cell2_new _ ⟨xt, xi⟩) (fc_one _) (by unfold maxLen; omega) (by omega) (by simp; omega) ?_; intro v1 w6 own1 grow1 _ at1; have HR6 : Hid (Tg W (out ++ [⟨xt, xi⟩]) v1 w6 ∧ v1.ownBlock ≠ some W.heap.size ∧ w6.heap[W.heap.size]? = some (.cells #[.int .i64 f.t, .int .i64 f.i] 32)) := tg_app HGc.out.1 HGc.out.2 HQc.out own1 grow1 at1; clear own1 grow1 at1)
            go_roundw
            case rel => exact ⟨j + 1, true, _, by omega, by go_num, rfl, HPN.out, HR6.out.1, HR6.out.2.1, HR6.out.2.2⟩
            case measure => simp [intOf]; omega
          | false =>
            have HPN : Hid (Pl f (L.take (j + 1)) true ((out ++ [f]) ++ [⟨xt, xi⟩])) := (by
              show Pl _ _ _ _
              rw [HT.out]
              rcases HPL.out with ⟨e1, e2, e3⟩ | ⟨e1, e2, e3⟩
              · cases e1
              · refine .inl ⟨rfl, ⟨_, List.mem_append_right _ (List.mem_singleton.2 rfl), HL2.out⟩, ?_⟩
                rw [e3, ins_app_no e2, List.append_assoc]
                show _ = _ ++ ins f [⟨xt, xi⟩]
                rw [ins, if_pos HL2.out]; rfl)
            go_upto_region 10 with (at_builtin; refine wpList_append_own_at _ rfl _ _ 22 rfl W.heap.size 32 i0 (.agg #[.int .i64 0, .int .i64 0]) 2 16 Try.underlying22 hi hz0 hz1 hz2 rfl (by decide) _ _ _ rfl (HGc.out.1.row.alloc _) ⟨wc.heap.size, 0, none⟩ 1 1 (fc f) rfl rfl (cell2_new _ f) (fc_one _) (by unfold maxLen; omega) (by omega) (by simp; omega) ?_; intro v1 w6 own1 grow1 _ at1; have HR6 : Hid (Tg W (out ++ [f]) v1 w6 ∧ v1.ownBlock ≠ some W.heap.size ∧ w6.heap[W.heap.size]? = some (.cells #[.int .i64 f.t, .int .i64 f.i] 32)) := tg_app HGc.out.1 HGc.out.2 HQc.out own1 grow1 at1; clear own1 grow1 at1)
            obtain ⟨g', e', r0d, r1d⟩ : ∃ g', (some ⟨g, 0, none⟩ : Option Addr) = some ⟨g', 0, none⟩ ∧ w6.cell? ⟨g', j * 2, none⟩ = some (.int .i64 xt) ∧ w6.cell? ⟨g', j * 2 + 1, none⟩ = some (.int .i64 xi) := by
              have hrow := (Kept.of_below (F := No) HR6.out.1.bel).owns HX.out.1 (fun _ _ h => h)
              obtain ⟨_, a', c', e, _, _, h3⟩ := owns_fis hrow
              injection e with e1 _ _
              subst e1
              exact h3 j ⟨xt, xi⟩ HXJ.out
            injection e' with e'
            injection e' with e' _ _
            subst e'
            have hsz6 := HR6.out.1.bel.size
            clear r0c r1c f0c f1c
            go_wp2_with (at_builtin; refine wpList_append_own_at _ rfl _ _ 22 rfl W.heap.size 32 i0 (.agg #[.int .i64 0, .int .i64 0]) 2 16 Try.underlying22 hi hz0 hz1 hz2 rfl (by decide) _ _ _ rfl (HR6.out.1.row.alloc _) ⟨w6.heap.size, 0, none⟩ 1 1 (fc ⟨xt, xi⟩) rfl rfl (cell2_new _ ⟨xt, xi⟩) (fc_one _) (by unfold maxLen; rw [List.length_append, List.length_singleton]; omega) (by rw [List.length_append, List.length_singleton]; omega) (by simp; omega) ?_; intro v1 w7 own1 grow1 _ at1; have HR7 : Hid (Tg W ((out ++ [f]) ++ [⟨xt, xi⟩]) v1 w7 ∧ v1.ownBlock ≠ some W.heap.size ∧ w7.heap[W.heap.size]? = some (.cells #[.int .i64 f.t, .int .i64 f.i] 32)) := tg_app HR6.out.1 HR6.out.2.1 HR6.out.2.2 own1 grow1 at1; clear own1 grow1 at1)
            go_roundw
            case rel => exact ⟨j + 1, true, _, by omega, by go_num, rfl, HPN.out, HR7.out.1, HR7.out.2.1, HR7.out.2.2⟩
            case measure => simp [intOf]; omega
    · have hjn : j = n := by omega
      subst hjn
      have hpl' : Pl f L b out := by have h2 := hpl; rw [List.take_of_length_le (by rw [HX.out.2]; exact Nat.le_refl _)] at h2; exact h2
      cases b with
      | true =>
        have HO : Hid (out = ins f L) := (by rcases hpl' with ⟨e1, e2, e3⟩ | ⟨e1, e2, e3⟩; exact e3; cases e1)
        clear hg hpl hpl' hpq hq
        go_wp2
        go_ret
        exact ⟨u5, rfl, by rw [← HO.out]; exact HG.out.1.row, HG.out.1.bel⟩
      | false =>
        have HO : Hid (out ++ [f] = ins f L) := (by
          rcases hpl' with ⟨e1, e2, e3⟩ | ⟨e1, e2, e3⟩
          · cases e1
          · show _ = _
            have := ins_app_no (B := []) e2
            rw [List.append_nil] at this
            rw [this, e3]; rfl)
        have hsz := hg.bel.size
        clear hg hpl hpl' hpq hq
        go_wp2_with (at_builtin; refine wpList_append_own_at _ rfl _ _ 22 rfl W.heap.size 32 i0 (.agg #[.int .i64 0, .int .i64 0]) 2 16 Try.underlying22 hi hz0 hz1 hz2 rfl (by decide) _ _ _ rfl (HG.out.1.row.alloc _) ⟨wr.heap.size, 0, none⟩ 1 1 (fc f) rfl rfl (cell2_new _ f) (fc_one _) (by unfold maxLen; omega) (by omega) (by simp; omega) ?_; intro v1 w6 own1 grow1 _ at1; have HR6 : Hid (Tg W (out ++ [f]) v1 w6 ∧ v1.ownBlock ≠ some W.heap.size ∧ w6.heap[W.heap.size]? = some (.cells #[.int .i64 f.t, .int .i64 f.i] 32)) := tg_app HG.out.1 HG.out.2 HQ.out own1 grow1 at1; clear own1 grow1 at1)
        go_ret
        exact ⟨v1, rfl, by rw [← HO.out]; exact HR6.out.1.row, HR6.out.1.bel⟩
end Go.Proofs.Ytdojmmnojpeklaa
