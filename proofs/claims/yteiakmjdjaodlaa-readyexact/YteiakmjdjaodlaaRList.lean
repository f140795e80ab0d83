/-
  sorted, List.
-/
import Derived.Test.YteiakmjdjaodlaaRSort
import Derived.Laws.AppendOwn
import Derived.Laws.AppendOwnNone
import Derived.Lib.SliceRun
namespace Go.Proofs.Yteiakmjdjaodlaa
open Go.Shelf Go.RowKit Go.Lib Go.Sort
set_option linter.unusedVariables false
set_option maxRecDepth 100000

theorem Full.sorted {h : Nat → En} {H S A : List En} {M : Int → Option Int} {mo nx : Nat} (k : Full (hd H) H.length M (fun x => x ∈ S)) (ok : Okl mo nx S) (p : A.Perm H) (ha : A.Pairwise (fun x y => ¬ lt' y x)) : A = S := by
  have hmem : ∀ x, x ∈ A ↔ x ∈ S := fun x => by rw [p.mem_iff, k.mem x, hd_mem]
  have hnd : H.Nodup := by
    unfold List.Nodup
    rw [List.pairwise_iff_getElem]
    intro i j hi hj hij e
    have := k.inj hi hj (by unfold hd; simp [List.getD, hi, hj, e])
    omega
  have hnA : A.Nodup := (p.nodup_iff).2 hnd
  refine srt_ext ?_ ok.srt hmem
  unfold Srt
  rw [List.pairwise_iff_getElem] at *
  unfold List.Nodup at hnA
  rw [List.pairwise_iff_getElem] at hnA
  intro i j hi hj hij
  refine (lt'.total (fun e => ?_)).resolve_right (ha i j hi hj hij)
  exact hnA i j hi hj hij (ok.cu _ _ ((hmem _).1 (List.getElem_mem hi)) ((hmem _).1 (List.getElem_mem hj)) (.inl e))

theorem info57' : ∃ i0, Try.prog.info? 57 = some i0 ∧ i0.zero = some (.agg #[.int .i64 0, .int .i64 0, .int .i64 0]) ∧ i0.size = 3 ∧ i0.bytes = 24 := info_parts info57

theorem owns_base {w : World} {B B' : Nat} {e : TypeId} {size : Nat} {v : Value} {n : Nat} {xs : List Value} (h : w.ownsRow B e size v n xs) (hB : B' ≤ B) : w.ownsRow B' e size v n xs := by
  refine ⟨h.1, ?_⟩
  rcases h.2 with h1 | ⟨g, cap, cur, hv, hb, r⟩
  · exact .inl h1
  · exact .inr ⟨g, cap, cur, hv, Nat.le_trans hB hb, r⟩
theorem owns_up {w : World} {B B' g n cap : Nat} {e : TypeId} {size : Nat} {xs : List Value} (h : w.ownsRow B e size (.slice (some ⟨g, 0, none⟩) n cap) n xs) (hB : B' ≤ g) : w.ownsRow B' e size (.slice (some ⟨g, 0, none⟩) n cap) n xs := by
  refine ⟨h.1, ?_⟩
  rcases h.2 with ⟨h1, _⟩ | ⟨g', cap', cur, hv, hb, r⟩
  · cases h1
  · injection hv with e1 _ e3
    injection e1 with e1
    injection e1 with e1 _ _
    subst e1 e3
    exact .inr ⟨g, cap, cur, rfl, hB, r⟩
/-- slices.Clone -/
theorem clone_any (xs : List En) (v : Value) (n : Nat) (w : World) (h : w.ownsRow 0 57 3 v n (fcL xs)) (hn : n ≤ 1000000) : Calls Try.prog 33 #[v] w fun ex w' => ∃ u, ex = .returned u ∧ w'.ownsRow w.heap.size 57 3 u n (fcL xs) ∧ Below w.heap.size w w' := by
  obtain ⟨i0, hi, hz0, hz1, hz2⟩ := info57'
  rcases owns_cells3 h with ⟨rfl, rfl, rfl⟩ | ⟨g, cap, rfl, _⟩
  · clear h
    have hq := fun w => run_eql_slice_nil (P := Try.prog) w 48 57 none 0 0 0 0 Try.underlying48
    dsimp only [Option.isNone_none] at hq
    go_enter Try.func33, Try.ntmps33
    go_wp2
    go_ret
    exact ⟨_, rfl, World.ownsRow_nil _ _ _ _, Below.refl _ _⟩
  · have hb := heap_last w (.cells #[] 57)
    have hrow : (w.alloc (.cells #[] 57)).ownsRow w.heap.size 57 3 (.slice (some ⟨w.heap.size, 0, none⟩) 0 0) 0 [] :=
      ⟨rfl, .inr ⟨w.heap.size, 0, #[], rfl, Nat.le_refl _, hb, Nat.le_refl _, by unfold maxLen; omega, rfl, rfl⟩⟩
    have hsrc := h.alloc (.cells #[] 57)
    have HL := owns_len3 h
    have HB : Hid (Below w.heap.size w (w.alloc (.cells #[] 57))) := (Below.refl _ w).alloc (Nat.le_refl _) _
    clear h hb
    have hq := fun w => run_eql_slice_nil (P := Try.prog) w 48 57 (some ⟨g, 0, none⟩) n cap 0 0 Try.underlying48
    dsimp only [Option.isNone_some] at hq
    go_enter Try.func33, Try.ntmps33
    go_wp2_with (at_builtin; refine wpList_append_own_at _ rfl _ _ 48 rfl w.heap.size 57 i0 (.agg #[.int .i64 0, .int .i64 0, .int .i64 0]) 3 24 Try.underlying48 hi hz0 hz1 hz2 rfl (by decide) _ _ _ rfl hrow ⟨g, 0, none⟩ n cap (fcL xs) rfl (by rw [fcL_length, HL]) (hsrc.cells (g := g) rfl) (fcL_one xs) (by unfold maxLen; omega) (by omega) (by simp) ?_; intro v1 w1 own1 grow1 _ at1)
    go_ret
    refine ⟨v1, rfl, ?_, HB.out.trans ((Kept.grown (F := fun k => w.heap.size ≤ k) (Kept.refl _ _) grow1 (fun k e => ?_)).below (fun k hk => hk) HB.out.size)⟩
    · rw [Nat.zero_add, List.nil_append] at own1; exact own1
    · have he : w.heap.size = k := Option.some.inj e
      exact .inl (Nat.le_of_eq he)
/-- of nothing -/
theorem insert_nil (w : World) : Calls Try.prog 44 #[.slice none 0 0, .int .i64 0, .int .i64 0, .func (.func 35) #[] #[]] w fun ex w' => ex = .returned (.tuple #[]) ∧ w' = w := by
  go_enter Try.func44, Try.ntmps44
  go_wp2
  go_loopw [8] (fun d wr => d = .int .i64 1 ∧ wr = w) (fun d _ => 0)
  case atStart => exact ⟨rfl, rfl⟩
  case round =>
    obtain ⟨rfl, rfl⟩ := hrel
    go_wp2
    go_end0
    exact ⟨rfl, rfl⟩
theorem pdq_nil (w : World) (l : Int) : Calls Try.prog 39 #[.slice none 0 0, .int .i64 0, .int .i64 0, .int .i64 l, .func (.func 35) #[] #[]] w fun ex w' => ex = .returned (.tuple #[]) ∧ w' = w := by
  have cI := insert_nil w
  go_enter Try.func39, Try.ntmps39
  go_wp2
  go_loopw [1, 2] (fun a d wr => a = .int .i64 0 ∧ d = .int .i64 0 ∧ wr = w) (fun _ _ _ => 0)
  case atStart => exact ⟨rfl, rfl, rfl⟩
  case round =>
    obtain ⟨rfl, rfl, hwr⟩ := hrel
    obtain rfl := hwr.symm
    go_wp2_with (go_at_call 44; refine cI.mono ?_; rintro ex w2 ⟨rfl, hw2⟩; obtain rfl := hw2.symm)
    refine bodyPost_ret (results_none rfl _ _ _) rfl ?_
    exact ⟨rfl, rfl⟩
theorem sort_nil (w : World) : Calls Try.prog 34 #[.slice none 0 0, .func (.func 35) #[] #[]] w fun ex w' => ex = .returned (.tuple #[]) ∧ w' = w := by
  have cP := fun l => pdq_nil w l
  have hlen := Any.bits_Len Try.bitsLen (0 : Int) w (by omega) (by omega)
  change Calls Try.prog 40 _ _ _ at hlen
  go_enter Try.func34, Try.ntmps34
  go_wp2_with (first
    | (go_at_call 40; refine hlen.mono ?_; rintro e w' ⟨rfl, hw⟩; obtain rfl := hw.symm)
    | (go_at_call 39; refine (cP _).mono ?_; rintro e w' ⟨rfl, hw⟩; obtain rfl := hw.symm))
  go_end0
  exact ⟨rfl, rfl⟩
section
variable {w : World} {F : Nat → Prop} {b mo nx : Nat} {S : List En}
theorem sorted_any (h : Ln w F b mo nx S) : Calls Try.prog 21 #[.pointer (some ⟨b, 0, none⟩)] w fun ex w' => ∃ u, ex = .returned u ∧ w'.ownsRow w.heap.size 57 3 u S.length (fcL S) ∧ Below w.heap.size w w' := by
  obtain ⟨h1, h2, mb, v, ⟨H, M, h3, h4, h5⟩, h6⟩ := h
  have hfew := h2.few
  have h0 := h3.heap
  have cC := clone_any H v H.length w h3.row (by omega)
  have HF : Hid (∀ A : List En, A.Perm H → A.Pairwise (fun x y => ¬ lt' y x) → A = S) := (fun A p ha => Full.sorted (h := hd H) (by rw [h5]; exact h4) h2 p ha)
  have HH : Hid (H.length = S.length) := h5
  clear h2 h3 h4 h5 h6
  go_enter Try.func21, Try.ntmps21
  go_upto_region 2 with (go_at_call 33; refine cC.mono ?_; rintro ex w2 ⟨u, rfl, own2, hb2⟩)
  clear cC h0
  have HB : Hid (Below w.heap.size w w2) := hb2
  rcases owns_cells3 own2 with ⟨rfl, e1, e2⟩ | ⟨g, cap, rfl, hg, hgl, hgc, _⟩
  · have HS : Hid (S = []) := (show _ = _ from (HF.out [] (by rw [e2]) List.Pairwise.nil).symm)
    have cS := sort_nil w2
    clear own2 hb2
    go_wp2_with (go_at_call 34; refine cS.mono ?_; rintro ex w3 ⟨rfl, hw3⟩; obtain rfl := hw3.symm)
    go_ret
    exact ⟨_, rfl, by rw [HS.out]; exact World.ownsRow_nil _ _ _ _, HB.out⟩
  · have cS := sort_any H g H.length cap w2 (owns_base own2 (Nat.zero_le _)) (by have := HH.out; omega)
    have HG : Hid (w.heap.size ≤ g) := hg
    clear own2 hb2
    generalize H.length = n at *
    go_wp2_with (go_at_call 34; refine cS.mono ?_; rintro ex w3 ⟨rfl, A, hp, hpw, own3, hk3⟩)
    go_ret
    have hAS := HF.out A hp hpw
    subst hAS
    exact ⟨_, rfl, by rw [← HH.out]; exact owns_up own3 HG.out, HB.out.trans (hk3.below (fun k e => by rw [e]; exact HG.out) HB.out.size)⟩
def idL (S : List En) : List Int := S.map En.id
/-- while the list is told -/
structure Lg (W : World) (S : List En) (us u : Value) (j : Nat) (w : World) : Prop where
  bel : Below W.heap.size W w
  src : w.ownsRow W.heap.size 57 3 us S.length (fcL S)
  own : w.ownsRow W.heap.size 3 1 u j ((idL (S.take j)).map iv)
  ne : ∀ g, us.ownBlock = some g → u.ownBlock ≠ some g
theorem Lg.alloc {W w : World} {S : List En} {us u : Value} {j : Nat} (h : Lg W S us u j w) (o : Obj) : Lg W S us u j (w.alloc o) :=
  ⟨h.bel.alloc h.bel.size o, h.src.alloc o, h.own.alloc o, h.ne⟩
theorem Lg.more {W w w' : World} {S : List En} {us u v : Value} {j : Nat} {x : En} (h : Lg W S us u j w) (hx : S[j]? = some x) (own : w'.ownsRow W.heap.size 3 1 v (j + 1) ((idL (S.take j)).map iv ++ [.int .i64 x.id])) (gr : w.grownBy w' u.ownBlock) (at' : v.ownBlock = u.ownBlock ∨ v.ownBlock = some w.heap.size) : Lg W S us v (j + 1) w' := by
  have hk : Kept (fun k => u.ownBlock = some k) w w' := (Kept.refl _ w).grown gr (fun k e => .inl e)
  refine ⟨h.bel.trans (hk.below (fun k e => (h.own.lt k e).1) h.bel.size), hk.owns h.src (fun g hg e => h.ne g hg e), ?_, fun g hg e => ?_⟩
  · have e1 : (idL (S.take (j + 1))).map iv = (idL (S.take j)).map iv ++ [.int .i64 x.id] := by
      unfold idL
      rw [List.take_add_one, hx]
      simp [iv]
    rw [e1]
    exact own
  · rcases at' with e2 | e2
    · exact h.ne g hg (e2 ▸ e)
    · rw [e2] at e; injection e with e; have := (h.src.lt g hg).2; omega
theorem cell_one_new (w : World) (x : Int) (t : TypeId) : ∀ j u, ([Value.int .i64 x] : List Value)[j]? = some u → (w.alloc (.cells #[.int .i64 x] t)).cell? ((⟨w.heap.size, 0, none⟩ : Addr).add j) = some u := by
  intro j u hu
  rw [add_none, Nat.zero_add]
  have hb := heap_last w (.cells #[.int .i64 x] t)
  match j, hu with
  | 0, hu => exact cell_of_row hb (by simpa using hu)
  | j + 1, hu => simp at hu
set_option maxHeartbeats 1000000 in
theorem list_any (h : Ln w F b mo nx S) : Calls Try.prog 7 #[.pointer (some ⟨b, 0, none⟩)] w fun ex w' => ∃ u, ex = .returned u ∧ w'.ownsRow w.heap.size 3 1 u S.length ((idL S).map iv) ∧ Below w.heap.size w w' := by
  have hfew := h.2.1.few
  have hmo := h.1
  have HLN : Hid (Ln w F b mo nx S) := h
  have cC : Calls Try.prog 20 #[.pointer (some ⟨b, 0, none⟩)] w fun ex w' => ex = .returned (.int .i64 S.length) ∧ w' = w := by
    obtain ⟨h1, h2, mb, v, ⟨H, M, h3, h4, h5⟩, h6⟩ := h
    have := count_any h3
    rw [h5] at this
    exact this
  clear h
  obtain ⟨i0, hi, hz0, hz1, hz2⟩ := info_parts info3
  generalize hn : S.length = n at *
  have HN : Hid (S.length = n) := hn
  clear hn
  go_enter Try.func7, Try.ntmps7
  go_upto_region 2 with (first
    | (go_at_call 20; refine cC.mono ?_; rintro ex w2 ⟨rfl, hw2⟩; obtain rfl := hw2.symm)
    | (at_make; refine wpList_make_own w rfl _ _ 29 rfl w.heap.size 3 i0 (.int .i64 0) 1 Try.underlying29 hi hz0 hz1 .i64 .i64 n n rfl rfl rfl (by rw [hz2]; omega) (by unfold maxLen; omega) (Nat.le_refl _) ?_; intro w2 own2 grow2))
  have hb2 : Below w.heap.size w w2 := ((Kept.refl No w).grown grow2 (fun k e => by cases e)).below0
  have cS := sorted_any (HLN.out.below hb2)
  have O2 : Hid (w2.ownsRow w.heap.size 3 1 (.slice (some ⟨w.heap.size, 0, none⟩) 0 n) 0 [] ∧ Below w.heap.size w w2 ∧ w.heap.size < w2.heap.size) := ⟨own2, hb2, (own2.lt w.heap.size rfl).2⟩
  clear own2 grow2 hb2 cC HLN
  go_upto_region 3 with (go_at_call 21; refine cS.mono ?_; rintro ex w3 ⟨us, rfl, own3, hb3⟩; obtain ⟨sa, sc, hsv⟩ : ∃ a c, us = .slice a S.length c := (by
      rcases owns_cells3 own3 with ⟨e1, e2, _⟩ | ⟨g, cap, e1, _⟩
      · exact ⟨none, 0, by rw [e1, e2]⟩
      · exact ⟨_, _, e1⟩); subst hsv)
  have HG0 : Hid (Lg w S (.slice sa n sc) (.slice (some ⟨w.heap.size, 0, none⟩) 0 n) 0 w3) := (by
    have e := HN.out
    rw [e] at own3
    refine ⟨O2.out.2.1.trans (hb3.mono O2.out.2.1.size), by rw [e]; exact owns_base own3 O2.out.2.1.size, (Kept.of_below (F := No) hb3).owns O2.out.1 (fun _ _ h => h), fun g hg e2 => ?_⟩
    have e3 : w.heap.size = g := Option.some.inj e2
    have := (own3.lt g hg).1
    have := O2.out.2.2
    omega)
  rw [HN.out]
  clear own3 hb3 cS O2
  go_loopw [3, 16] (fun u d wr => ∃ j : Nat, j ≤ n ∧ d = .int .i64 j ∧ Lg w S (.slice sa n sc) u j wr) (fun _ d _ => n - (intOf d).toNat)
  case atStart => exact ⟨0, Nat.zero_le _, rfl, HG0.out⟩
  case round =>
    clear HG0
    obtain ⟨j, hj, rfl, hg⟩ := hrel
    have HG : Hid (Lg w S (.slice sa n sc) u3 j wr) := hg
    by_cases hlt : j < n
    · obtain ⟨x, hx⟩ : ∃ x, S[j]? = some x := ⟨_, List.getElem?_eq_getElem (by rw [HN.out]; exact hlt)⟩
      obtain ⟨g, rfl, hcap, r0, r1, r2⟩ : ∃ g, sa = some ⟨g, 0, none⟩ ∧ n ≤ sc ∧ wr.cell? ⟨g, j * 3, none⟩ = some (.int .i64 x.id) ∧ wr.cell? ⟨g, j * 3 + 1, none⟩ = some (.int .i64 x.pr) ∧ wr.cell? ⟨g, j * 3 + 2, none⟩ = some (.int .i64 x.pl) := by
        rcases owns_cells3 hg.src with ⟨e1, e2, _⟩ | ⟨g, cap, e1, _, _, hc, _, h3, _⟩
        · rw [HN.out] at e2; omega
        · injection e1 with e1 e2 e3
          obtain ⟨c0, c1, c2⟩ := h3 j x hx
          exact ⟨g, e1, by rw [e3, ← HN.out]; exact hc, c0, c1, c2⟩
      have HX : Hid (S[j]? = some x) := hx
      have hsz := hg.bel.size
      clear hg hx
      go_upto_region 5 with fail
      have HG1 : Hid (Lg w S (.slice (some ⟨g, 0, none⟩) n sc) u3 j (wr.alloc (.cells #[.int .i64 x.id, .int .i64 x.pr, .int .i64 x.pl] 57))) := HG.out.alloc _
      have q0 := cell_of_row (k := 0) (v := .int .i64 x.id) (heap_last wr (.cells #[.int .i64 x.id, .int .i64 x.pr, .int .i64 x.pl] 57)) rfl
      have hsz1 : w.heap.size ≤ (wr.alloc (.cells #[.int .i64 x.id, .int .i64 x.pr, .int .i64 x.pl] 57)).heap.size := HG1.out.bel.size
      generalize wr.alloc (.cells #[.int .i64 x.id, .int .i64 x.pr, .int .i64 x.pl] 57) = w5 at *
      clear r0 r1 r2
      go_wp2_with (at_builtin; refine wpList_append_own_at _ rfl _ _ 29 rfl w.heap.size 3 i0 (.int .i64 0) 1 8 Try.underlying29 hi hz0 hz1 hz2 rfl (by decide) _ _ _ rfl (HG1.out.own.alloc _) ⟨w5.heap.size, 0, none⟩ 1 1 [.int .i64 x.id] rfl rfl (cell_one_new _ _ _) (one_one _ _) (by unfold maxLen; omega) (by omega) (by simp; omega) ?_; intro v1 w6 own1 grow1 _ at1; have HG2 : Hid (Lg w S (.slice (some ⟨g, 0, none⟩) n sc) v1 (j + 1) w6) := (by
          have hh := HG1.out.alloc (.cells #[.int .i64 x.id] 3)
          exact hh.more HX.out own1 grow1 at1); clear own1 grow1 at1)
      go_roundw
      case rel => exact ⟨j + 1, by omega, by go_num, HG2.out⟩
      case measure => simp [intOf]; omega
    · have hjn : j = n := by omega
      subst hjn
      clear hg
      go_wp2
      go_ret
      refine ⟨u3, rfl, ?_, HG.out.bel⟩
      have := HG.out.own
      rw [List.take_of_length_le (by rw [HN.out]; exact Nat.le_refl _)] at this
      exact this
end
end Go.Proofs.Yteiakmjdjaodlaa
