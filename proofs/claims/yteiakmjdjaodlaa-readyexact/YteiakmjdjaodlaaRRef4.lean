/-
  The document's First, Take, List.
-/
import Derived.Test.YteiakmjdjaodlaaRRef3
namespace Go.Proofs.Yteiakmjdjaodlaa
open Go.Shelf Go.RowKit Go.Lib Go.Sort
set_option linter.unusedVariables false
set_option maxRecDepth 100000

theorem insE_perm (e : En) : ∀ S : List En, (insE e S).Perm (e :: S)
  | [] => List.Perm.refl _
  | x :: r => by
    unfold insE
    split
    · exact ((insE_perm e r).cons x).trans (List.Perm.swap e x r)
    · exact List.Perm.refl _
theorem perm_put {T S : List En} (h : T.Perm S) (i : Int) (e : En) : (outE i T ++ [e]).Perm (insE e (outE i S)) :=
  ((List.perm_append_singleton e (outE i T)).trans ((h.filter _).cons e)).trans (insE_perm e (outE i S)).symm
theorem perm_out {T S : List En} (h : T.Perm S) (i : Int) : (outE i T).Perm (outE i S) := h.filter _
theorem perm_has {T S : List En} (h : T.Perm S) (i : Int) : hasE i T = hasE i S := by
  cases e : hasE i S with
  | false =>
    cases e2 : hasE i T with
    | false => rfl
    | true => obtain ⟨x, hx, hi⟩ := hasE_yes e2; exact absurd hi (hasE_no e x (h.mem_iff.1 hx))
  | true =>
    cases e2 : hasE i T with
    | true => rfl
    | false => obtain ⟨x, hx, hi⟩ := hasE_yes e; exact absurd hi (hasE_no e2 x (h.mem_iff.2 hx))
theorem perm_find {T S : List En} {mo nx : Nat} (h : T.Perm S) (ok : Okl mo nx S) (i : Int) : findE i T = findE i S := by
  cases e : findE i T with
  | none =>
    cases e2 : findE i S with
    | none => rfl
    | some y => obtain ⟨h1, h2⟩ := findE_hit e2; exact absurd h2 (findE_none e y (h.mem_iff.2 h1))
  | some x =>
    obtain ⟨h1, h2⟩ := findE_hit e
    have := ok.find (h.mem_iff.1 h1)
    rw [h2] at this
    rw [this]
theorem perm_nodup {T S : List En} {mo nx : Nat} (h : T.Perm S) (ok : Okl mo nx S) {j m : Nat} {x y : En} (hx : T[j]? = some x) (hy : T[m]? = some y) (hjm : j ≠ m) : x.pl ≠ y.pl := by
  intro e
  have hS : S.Nodup := ok.srt.imp (fun {a b} hab e => by subst e; exact lt'.irr a hab)
  have hT : T.Nodup := h.nodup_iff.2 hS
  obtain ⟨h1, e1⟩ := List.getElem?_eq_some_iff.1 hx
  obtain ⟨h2, e2⟩ := List.getElem?_eq_some_iff.1 hy
  have exy : x = y := ok.cu x y (h.mem_iff.1 (by rw [← e1]; exact List.getElem_mem h1)) (h.mem_iff.1 (by rw [← e2]; exact List.getElem_mem h2)) (.inl e)
  unfold List.Nodup at hT
  rw [List.pairwise_iff_getElem] at hT
  rcases Nat.lt_or_gt_of_ne hjm with h3 | h3
  · exact hT j m h1 h2 h3 (by rw [e1, e2, exy])
  · exact hT m j h2 h1 h3 (by rw [e1, e2, exy])
/-- the one ahead of all others is the head -/
theorem best_head {T S : List En} {mo nx k : Nat} {x : En} (h : T.Perm S) (ok : Okl mo nx S) (hx : T[k]? = some x) (hb : ∀ m y, T[m]? = some y → m = k ∨ lt' x y) : headI S = x.id ∧ S.head?.isSome = true := by
  have hxS : x ∈ S := h.mem_iff.1 (List.mem_of_getElem? hx)
  cases S with
  | nil => cases hxS
  | cons y r =>
    refine ⟨?_, rfl⟩
    show y.id = x.id
    have hyT : y ∈ T := h.mem_iff.2 List.mem_cons_self
    obtain ⟨m, hm, e⟩ := List.getElem_of_mem hyT
    have hym : T[m]? = some y := by rw [List.getElem?_eq_getElem hm, e]
    rcases hb m y hym with e2 | e2
    · subst e2; rw [hx] at hym; injection hym with hym; rw [hym]
    · rcases List.mem_cons.1 hxS with e3 | e3
      · rw [e3]
      · exact absurd ((List.pairwise_cons.1 ok.srt).1 x e3) e2.asymm

section
variable {W : World} {N t : Nat} {v : Value} {T S : List En} {n mo nx : Nat}
set_option maxHeartbeats 4000000 in
theorem rfirst_any (hv : W.ownsRow 0 77 3 v n (rcL T)) (hp : T.Perm S) (ok : Okl mo nx S) : Calls Try.prog 29 #[rv N v t] W fun ex w' => ex = .returned (.tuple #[.int .i64 (headI S), .bool S.head?.isSome]) ∧ Below W.heap.size W w' := by
  obtain ⟨hl, a, c, rfl, hc1, hc2, h3⟩ := owns_ref hv
  have Q1 : Hid ((W.alloc (.cells #[.int .i64 N, .slice a n c, .int .i64 t] 42)).heap[W.heap.size]? = some (.cells #[.int .i64 N, .slice a n c, .int .i64 t] 42)) := heap_last _ _
  have K1 : Hid (Below W.heap.size W (W.alloc (.cells #[.int .i64 N, .slice a n c, .int .i64 t] 42))) := (Below.refl _ W).alloc (Nat.le_refl _) _
  have HL : Hid (T.length = n) := hl
  have H3 : Hid (∀ k x, T[k]? = some x → ∃ g, a = some ⟨g, 0, none⟩ ∧ (W.alloc (.cells #[.int .i64 N, .slice a n c, .int .i64 t] 42)).cell? ⟨g, k * 3, none⟩ = some (.int .i64 x.id) ∧ (W.alloc (.cells #[.int .i64 N, .slice a n c, .int .i64 t] 42)).cell? ⟨g, k * 3 + 1, none⟩ = some (.int .i64 x.pr) ∧ (W.alloc (.cells #[.int .i64 N, .slice a n c, .int .i64 t] 42)).cell? ⟨g, k * 3 + 2, none⟩ = some (.int .i64 (x.pl + 1))) := (fun k x hx => by
    obtain ⟨g, e, h4, h5, h6⟩ := h3 k x hx
    have kk := (Kept.refl No W).alloc (.cells #[.int .i64 N, .slice a n c, .int .i64 t] 42)
    exact ⟨g, e, kk.cell h4 (fun h => h), kk.cell h5 (fun h => h), kk.cell h6 (fun h => h)⟩)
  have HP : Hid (T.Perm S ∧ Okl mo nx S) := ⟨hp, ok⟩
  unfold rv
  clear hv h3 hl hp ok
  go_enter Try.func29, Try.ntmps29
  go_wp2
  generalize W.alloc (.cells #[.int .i64 N, .slice a n c, .int .i64 t] 42) = w1 at *
  go_loopw [4, 5] (fun bst d wr => ∃ j : Nat, j ≤ n ∧ d = .int .i64 j ∧ ((j = 0 ∧ bst = .int .i64 (-1)) ∨ ∃ k : Nat, k < j ∧ bst = .int .i64 k ∧ ∀ m x y, m < j → T[k]? = some x → T[m]? = some y → m = k ∨ lt' x y) ∧ ∃ q, wr = w1.drewN q) (fun _ d _ => n - (intOf d).toNat)
  case atStart => exact ⟨0, Nat.zero_le _, rfl, .inl ⟨rfl, rfl⟩, 0, rfl⟩
  case round =>
    obtain ⟨j, hj, rfl, hbest, q, hwr⟩ := hrel
    have HW : Hid (wr = w1.drewN q) := hwr
    have q1 : wr.cell? ⟨W.heap.size, 1, none⟩ = some (.slice a n c) := by rw [hwr]; exact cell_of_row (w := w1) Q1.out rfl
    by_cases hlt : j < n
    · obtain ⟨x, hx⟩ : ∃ x, T[j]? = some x := ⟨_, List.getElem?_eq_getElem (by rw [HL.out]; exact hlt)⟩
      obtain ⟨g, rfl, r0', r1', r2'⟩ := H3.out j x hx
      have r1 : wr.cell? ⟨g, j * 3 + 1, none⟩ = some (.int .i64 x.pr) := by rw [hwr]; exact r1'
      have r2 : wr.cell? ⟨g, j * 3 + 2, none⟩ = some (.int .i64 (x.pl + 1)) := by rw [hwr]; exact r2'
      have HX : Hid (T[j]? = some x) := hx
      rcases hbest with ⟨rfl, rfl⟩ | ⟨k, hk, rfl, hmin⟩
      · clear hx r0' r1' r2' hwr r1 r2
        go_upto_region 5 with fail
        go_quiet (fail)
        go_wp2
        go_roundw
        case rel =>
          refine ⟨1, by omega, rfl, .inr ⟨0, by omega, rfl, fun m x y hm h1 h2 => .inl (by omega)⟩, _, by rw [HW.out, World.drewN_drewN]⟩
        case measure => simp [intOf]; omega
      · obtain ⟨y, hy⟩ : ∃ y, T[k]? = some y := ⟨_, List.getElem?_eq_getElem (by rw [HL.out]; omega)⟩
        obtain ⟨g', e', s0', s1', s2'⟩ := H3.out k y hy
        injection e' with e'
        injection e' with e' _ _
        subst e'
        have s1 : wr.cell? ⟨g, k * 3 + 1, none⟩ = some (.int .i64 y.pr) := by rw [hwr]; exact s1'
        have s2 : wr.cell? ⟨g, k * 3 + 2, none⟩ = some (.int .i64 (y.pl + 1)) := by rw [hwr]; exact s2'
        have HY : Hid (T[k]? = some y) := hy
        have HMIN : Hid (∀ m z, m < j → T[m]? = some z → m = k ∨ lt' y z) := (fun m z hm hz => hmin m y z hm hy hz)
        have HNE : Hid (x.pl ≠ y.pl) := perm_nodup HP.out.1 HP.out.2 hx hy (by omega)
        have HYES : Hid (lt' x y → ∀ m x' z, m < j + 1 → T[j]? = some x' → T[m]? = some z → m = j ∨ lt' x' z) := (fun hlt' m x' z hm h1 h2 => by
          rw [HX.out] at h1; injection h1 with h1; subst h1
          by_cases e : m = j
          · exact .inl e
          · rcases HMIN.out m z (by omega) h2 with e2 | e2
            · subst e2; rw [HY.out] at h2; injection h2 with h2; subst h2; exact .inr hlt'
            · exact .inr (hlt'.trans e2))
        have HNO : Hid (¬ lt' x y → ∀ m y' z, m < j + 1 → T[k]? = some y' → T[m]? = some z → m = k ∨ lt' y' z) := (fun hnl m y' z hm h1 h2 => by
          rw [HY.out] at h1; injection h1 with h1; subst h1
          by_cases e : m = j
          · subst e; rw [HX.out] at h2; injection h2 with h2; subst h2
            exact .inr ((lt'.total HNE.out).resolve_left hnl)
          · exact HMIN.out m z (by omega) h2)
        clear hx hy r0' r1' r2' s0' s1' s2' hwr hmin HMIN
        have hkn : k < n := by omega
        have hb0 : decide ((k : Int) < 0) = false := decide_eq_false (by omega)
        obtain ⟨xt, hxt⟩ : ∃ xt, xt = x.pl + 1 := ⟨_, rfl⟩
        obtain ⟨yt, hyt⟩ : ∃ yt, yt = y.pl + 1 := ⟨_, rfl⟩
        rw [← hxt] at r2
        rw [← hyt] at s2
        by_cases c1 : y.pr < x.pr
        · have HLT : Hid (lt' x y) := (by show lt' x y; unfold lt'; omega)
          have d1 : decide (y.pr < x.pr) = true := decide_eq_true c1
          clear hxt hyt
          go_upto_region 5 with fail
          go_quiet (fail)
          go_wp2
          go_roundw
          case rel => exact ⟨j + 1, by omega, by go_num, .inr ⟨j, by omega, rfl, HYES.out HLT.out⟩, _, by rw [HW.out, World.drewN_drewN]⟩
          case measure => simp [intOf]; omega
        · have d1 : decide (y.pr < x.pr) = false := decide_eq_false c1
          by_cases c2 : x.pr = y.pr
          · have d2 : (x.pr == y.pr) = true := by simp [c2]
            by_cases c3 : xt < yt
            · have HLT : Hid (lt' x y) := (by show lt' x y; unfold lt'; omega)
              have d3 : decide (xt < yt) = true := decide_eq_true c3
              clear hxt hyt c2
              go_upto_region 5 with fail
              go_quiet (fail)
              go_wp2
              go_roundw
              case rel => exact ⟨j + 1, by omega, by go_num, .inr ⟨j, by omega, rfl, HYES.out HLT.out⟩, _, by rw [HW.out, World.drewN_drewN]⟩
              case measure => simp [intOf]; omega
            · have HLT : Hid (¬ lt' x y) := (by show ¬ lt' x y; unfold lt'; omega)
              have d3 : decide (xt < yt) = false := decide_eq_false c3
              clear hxt hyt c2
              go_upto_region 5 with fail
              go_quiet (fail)
              go_wp2
              go_roundw
              case rel => exact ⟨j + 1, by omega, by go_num, .inr ⟨k, by omega, rfl, HNO.out HLT.out⟩, _, by rw [HW.out, World.drewN_drewN]⟩
              case measure => simp [intOf]; omega
          · have HLT : Hid (¬ lt' x y) := (by show ¬ lt' x y; unfold lt'; omega)
            have d2 : (x.pr == y.pr) = false := by simp [c2]
            clear hxt hyt
            go_upto_region 5 with fail
            go_quiet (fail)
            go_wp2
            go_roundw
            case rel => exact ⟨j + 1, by omega, by go_num, .inr ⟨k, by omega, rfl, HNO.out HLT.out⟩, _, by rw [HW.out, World.drewN_drewN]⟩
            case measure => simp [intOf]; omega
    · have hjn : j = n := by omega
      subst hjn
      have HBW : Hid (Below W.heap.size W wr) := (by rw [hwr]; exact K1.out.trans ⟨rfl, rfl, rfl, Nat.le_refl _, fun _ _ => rfl⟩)
      rcases hbest with ⟨h0, rfl⟩ | ⟨k, hk, rfl, hmin⟩
      · subst h0
        have HS : Hid (S = []) := (show _ = _ by
          have hT : T = [] := List.eq_nil_of_length_eq_zero HL.out
          have := HP.out.1
          rw [hT] at this
          exact List.nil_perm.1 this)
        clear hwr
        go_wp2
        go_ret2
        exact ⟨by rw [HS.out]; rfl, HBW.out⟩
      · obtain ⟨y, hy⟩ : ∃ y, T[k]? = some y := ⟨_, List.getElem?_eq_getElem (by rw [HL.out]; omega)⟩
        obtain ⟨g, rfl, s0', _⟩ := H3.out k y hy
        have s0 : wr.cell? ⟨g, k * 3, none⟩ = some (.int .i64 y.id) := by rw [hwr]; exact s0'
        have hB := best_head HP.out.1 HP.out.2 hy (fun m z hz => hmin m y z (by rw [← HL.out]; exact (List.getElem?_eq_some_iff.1 hz).1) hy hz)
        have HB1 : Hid (headI S = y.id) := hB.1
        have HB2 : Hid (S.head?.isSome = true) := hB.2
        clear hwr s0' hy hmin hB
        go_wp2
        go_ret2
        exact ⟨by rw [HB1.out, HB2.out]; rfl, HBW.out⟩
theorem results_c3 {fn : Func} {p u x : Tmp} {ty : TypeId} (h : fn.results = #[.cell p ty, .tmp u, .tmp x]) (tmps : Array Value) (P : Program) (w : World) :
    (results fn tmps).run P w =
      ((asAddr (tmps.getD p undef)).run P w).andThen fun a w₁ => ((loadVar ty a).run P w₁).andThen fun v w₂ => .ok (.tuple #[v, tmps.getD u undef, tmps.getD x undef]) w₂ := by
  simp only [results, h]
  simp [Sem.run_bind, Result.andThen]
set_option maxHeartbeats 2000000 in
theorem rtake_any (hv : W.ownsRow 0 77 3 v n (rcL T)) (hn : n ≤ 1000000) (hp : T.Perm S) (ok : Okl mo nx S) : Calls Try.prog 30 #[rv N v t] W fun ex w' => ∃ u, ex = .returned (.tuple #[rv N u t, .int .i64 (headI S), .bool S.head?.isSome]) ∧ w'.ownsRow 0 77 3 u (outE (headI S) T).length (rcL (outE (headI S) T)) ∧ (∀ g, u.ownBlock = some g → v.ownBlock = some g ∨ W.heap.size ≤ g) ∧ Below W.heap.size W w' := by
  obtain ⟨hl, a, c, rfl, hc1, hc2, _⟩ := owns_ref hv
  obtain ⟨QA, QB⟩ := heap_two W (.cells #[.int .i64 N, .slice a n c, .int .i64 t] 42) (.cells #[.int .i64 0, .slice none 0 0, .int .i64 0] 42)
  have K1 : Hid (Kept No W ((W.alloc (.cells #[.int .i64 N, .slice a n c, .int .i64 t] 42)).alloc (.cells #[.int .i64 0, .slice none 0 0, .int .i64 0] 42))) := ((Kept.refl No W).alloc _).alloc _
  have q0 := cell_of_row (k := 0) (v := .int .i64 N) QA rfl
  have q1 := cell_of_row (k := 1) (v := .slice a n c) QA rfl
  have q2 := cell_of_row (k := 2) (v := .int .i64 t) QA rfl
  have HA : Hid (((W.alloc (.cells #[.int .i64 N, .slice a n c, .int .i64 t] 42)).alloc (.cells #[.int .i64 0, .slice none 0 0, .int .i64 0] 42)).heap[W.heap.size]? = some (.cells #[.int .i64 N, .slice a n c, .int .i64 t] 42)) := QA
  have HB : Hid (((W.alloc (.cells #[.int .i64 N, .slice a n c, .int .i64 t] 42)).alloc (.cells #[.int .i64 0, .slice none 0 0, .int .i64 0] 42)).heap[W.heap.size + 1]? = some (.cells #[.int .i64 0, .slice none 0 0, .int .i64 0] 42)) := QB
  have HV : Hid (((W.alloc (.cells #[.int .i64 N, .slice a n c, .int .i64 t] 42)).alloc (.cells #[.int .i64 0, .slice none 0 0, .int .i64 0] 42)).ownsRow 0 77 3 (.slice a n c) n (rcL T)) := (hv.alloc _).alloc _
  have HVW : Hid (∀ g, (Value.slice a n c).ownBlock = some g → g < W.heap.size) := (fun g hg => (hv.lt g hg).2)
  have cF := rfirst_any (N := N) (t := t) HV.out hp ok
  have HP : Hid (T.Perm S) := hp
  obtain ⟨hI, hhI⟩ : ∃ hI, headI S = hI := ⟨_, rfl⟩
  obtain ⟨bb, hbb⟩ : ∃ bb, S.head?.isSome = bb := ⟨_, rfl⟩
  rw [hhI, hbb] at cF
  rw [hhI, hbb]
  have HHI : Hid (S.head?.isSome = bb) := hbb
  unfold rv at cF ⊢
  clear hv QA QB hl hp ok hhI hbb
  go_enter Try.func30, Try.ntmps30
  go_upto_region 1 with fail
  generalize (W.alloc (.cells #[.int .i64 N, .slice a n c, .int .i64 t] 42)).alloc (.cells #[.int .i64 0, .slice none 0 0, .int .i64 0] 42) = w1 at *
  go_upto_region 2 with (go_at_call 29; refine cF.mono ?_; rintro ex w2 ⟨rfl, hb2⟩)
  have kb := Kept.of_below (F := No) hb2
  have HA2 : Hid (w2.heap[W.heap.size]? = some (.cells #[.int .i64 N, .slice a n c, .int .i64 t] 42)) := kb.at' HA.out (fun h => h)
  have HB2 : Hid (w2.heap[W.heap.size + 1]? = some (.cells #[.int .i64 0, .slice none 0 0, .int .i64 0] 42)) := kb.at' HB.out (fun h => h)
  have HV2 : Hid (w2.ownsRow 0 77 3 (.slice a n c) n (rcL T)) := kb.owns HV.out (fun _ _ h => h)
  have K2 : Hid (Kept No W w2) := K1.out.trans kb (fun k hk => .inl hk)
  have hlt2 : W.heap.size + 1 < w2.heap.size := heap_lt HB2.out
  clear cF hb2 kb q0 q1 q2 HA HB HV K1
  have x0 := cell_of_row (k := 0) (v := .int .i64 N) HA2.out rfl
  have x1 := cell_of_row (k := 1) (v := .slice a n c) HA2.out rfl
  have x2 := cell_of_row (k := 2) (v := .int .i64 t) HA2.out rfl
  have xf := fz_row HA2.out
  cases bb with
  | false =>
    have HT : Hid (outE hI T = T) := (show _ = _ by
      have hS : S = [] := by cases S with | nil => rfl | cons y r => exact absurd HHI.out (by simp)
      have := HP.out
      rw [hS] at this
      rw [List.perm_nil.1 this]; rfl)
    have p0 := cell_of_row (k := 0) (v := .int .i64 0) HB2.out rfl
    have p1 := cell_of_row (k := 1) (v := .slice none 0 0) HB2.out rfl
    have p2 := cell_of_row (k := 2) (v := .int .i64 0) HB2.out rfl
    have pf := fz_row HB2.out
    go_wp2
    have hld := ld42 (set3' HB2.out (.int .i64 N) (.slice a n c) (.int .i64 t))
    refine bodyPost_ret (v := .tuple #[.agg #[.int .i64 N, .slice a n c, .int .i64 t], .int .i64 hI, .bool false]) ?_ rfl ⟨_, rfl, ?_, fun g hg => .inl hg, (set3_kept K2.out (Nat.le_succ _) _ _ _).below0⟩
    · rw [results_c3 rfl]
      simp [asAddr, Result.andThen, hld]
    · rw [HT.out]
      have hl := (owns_ref HV2.out).1
      rw [hl]
      exact (set3_keptF (q := W.heap.size + 1) w2 _ _ _).owns HV2.out (fun g hg e => by have := HVW.out g hg; omega)
  | true =>
    have cR := rremove_any (N := N) (t := t) hI HV2.out hn
    unfold rv at cR
    generalize hasE hI T = hh at cR
    go_upto_region 4 with (go_at_call 28; refine cR.mono ?_; rintro ex w3 ⟨u, rfl, own3, hb3⟩; have kb := Kept.of_below (F := No) hb3; obtain ⟨a3, n3, c3, hu3⟩ : ∃ a n c, u = .slice a n c := (by
        obtain ⟨_, a, c, e, _⟩ := owns_ref own3
        exact ⟨a, _, c, e⟩); subst hu3; have HA3 := kb.at' HA2.out (fun h => h); have y0 := cell_of_row (k := 0) (v := .int .i64 N) HA3 rfl; have y1 := cell_of_row (k := 1) (v := .slice a n c) HA3 rfl; have y2 := cell_of_row (k := 2) (v := .int .i64 t) HA3 rfl; have yf := fz_row HA3; have HB3 : Hid (w3.heap[W.heap.size + 1]? = some (.cells #[.int .i64 0, .slice none 0 0, .int .i64 0] 42)) := kb.at' HB2.out (fun h => h); have OW : Hid (w3.ownsRow w2.heap.size 77 3 (.slice a3 n3 c3) (outE hI T).length (rcL (outE hI T)) ∧ Kept No W w3) := ⟨own3, K2.out.trans kb (fun k hk => .inl hk)⟩; clear own3 hb3 kb)
    have own3c : ∀ g, (Value.slice a3 n3 c3).ownBlock = some g → w2.heap.size ≤ g := fun g e => (OW.out.1.lt g e).1
    have HA4 : Hid ((((w3.setCell ⟨W.heap.size, 0, none⟩ (.int .i64 N)).setCell ⟨W.heap.size, 1, none⟩ (.slice a3 n3 c3)).setCell ⟨W.heap.size, 2, none⟩ (.int .i64 t)).heap[W.heap.size]? = some (.cells #[.int .i64 N, .slice a3 n3 c3, .int .i64 t] 42)) := set3' HA3 _ _ _
    have kq := set3_keptF (q := W.heap.size) w3 (.int .i64 N) (.slice a3 n3 c3) (.int .i64 t)
    have HB4 : Hid ((((w3.setCell ⟨W.heap.size, 0, none⟩ (.int .i64 N)).setCell ⟨W.heap.size, 1, none⟩ (.slice a3 n3 c3)).setCell ⟨W.heap.size, 2, none⟩ (.int .i64 t)).heap[W.heap.size + 1]? = some (.cells #[.int .i64 0, .slice none 0 0, .int .i64 0] 42)) := kq.at' HB3.out (by omega)
    have HR4 : Hid ((((w3.setCell ⟨W.heap.size, 0, none⟩ (.int .i64 N)).setCell ⟨W.heap.size, 1, none⟩ (.slice a3 n3 c3)).setCell ⟨W.heap.size, 2, none⟩ (.int .i64 t)).ownsRow 0 77 3 (.slice a3 n3 c3) (outE hI T).length (rcL (outE hI T))) := kq.owns (owns_base OW.out.1 (Nat.zero_le _)) (fun g hg e => by have := own3c g hg; omega)
    have K4 : Hid (Kept No W (((w3.setCell ⟨W.heap.size, 0, none⟩ (.int .i64 N)).setCell ⟨W.heap.size, 1, none⟩ (.slice a3 n3 c3)).setCell ⟨W.heap.size, 2, none⟩ (.int .i64 t))) := OW.out.2.trans kq (fun k e => .inr (by omega))
    generalize ((w3.setCell ⟨W.heap.size, 0, none⟩ (.int .i64 N)).setCell ⟨W.heap.size, 1, none⟩ (.slice a3 n3 c3)).setCell ⟨W.heap.size, 2, none⟩ (.int .i64 t) = w4 at *
    clear kq y0 y1 y2 yf HA3 cR x0 x1 x2 xf
    have p0 := cell_of_row (k := 0) (v := .int .i64 0) HB4.out rfl
    have p1 := cell_of_row (k := 1) (v := .slice none 0 0) HB4.out rfl
    have p2 := cell_of_row (k := 2) (v := .int .i64 0) HB4.out rfl
    have pf := fz_row HB4.out
    have x0 := cell_of_row (k := 0) (v := .int .i64 N) HA4.out rfl
    have x1 := cell_of_row (k := 1) (v := .slice a3 n3 c3) HA4.out rfl
    have x2 := cell_of_row (k := 2) (v := .int .i64 t) HA4.out rfl
    go_wp2
    have hld := ld42 (set3' HB4.out (.int .i64 N) (.slice a3 n3 c3) (.int .i64 t))
    refine bodyPost_ret (v := .tuple #[.agg #[.int .i64 N, .slice a3 n3 c3, .int .i64 t], .int .i64 hI, .bool true]) ?_ rfl ⟨_, rfl, ?_, fun g hg => .inr (by have := own3c g hg; omega), (set3_kept K4.out (Nat.le_succ _) _ _ _).below0⟩
    · rw [results_c3 rfl]
      simp [asAddr, Result.andThen, hld]
    · exact (set3_keptF (q := W.heap.size + 1) w4 _ _ _).owns HR4.out (fun g hg e => by have := own3c g hg; omega)
end
end Go.Proofs.Yteiakmjdjaodlaa
