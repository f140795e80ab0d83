/-
  The document's List.
-/
import Derived.Test.YteiakmjdjaodlaaRRef4
import Derived.Test.YteiakmjdjaodlaaRLawB
namespace Go.Proofs.Yteiakmjdjaodlaa
open Go.Shelf Go.RowKit Go.Lib Go.Sort
set_option linter.unusedVariables false
set_option maxRecDepth 100000

def lenOf : Value → Nat
  | .slice _ n _ => n
  | _ => 0
theorem Okl.suffix {mo nx : Nat} {D S : List En} (h : Okl mo nx (D ++ S)) : Okl mo nx S :=
  ⟨(List.pairwise_append.1 h.srt).2.1, fun x hx => h.ok x (List.mem_append_right _ hx), fun x y hx hy => h.cu x y (List.mem_append_right _ hx) (List.mem_append_right _ hy)⟩
/-- while the document's list is told: box q, what is left, what is told -/
structure Dg (W : World) (q N t : Nat) (D S' : List En) (T' : List En) (v' u : Value) (w : World) : Prop where
  bel : Below W.heap.size W w
  box : w.heap[q]? = some (.cells #[.int .i64 N, v', .int .i64 t] 42)
  perm : T'.Perm S'
  left : w.ownsRow 0 77 3 v' T'.length (rcL T')
  told : w.ownsRow W.heap.size 3 1 u D.length ((idL D).map iv)
  nq : v'.ownBlock ≠ some q
  uq : u.ownBlock ≠ some q
  ne : ∀ g, v'.ownBlock = some g → u.ownBlock ≠ some g
section
variable {W : World} {N t : Nat} {v : Value} {T S : List En} {n mo nx : Nat}
set_option maxHeartbeats 4000000 in
theorem rlist_any (hv : W.ownsRow 0 77 3 v n (rcL T)) (hn : n ≤ 1000000) (hp : T.Perm S) (ok : Okl mo nx S) : Calls Try.prog 32 #[rv N v t] W fun ex w' => ∃ u, ex = .returned u ∧ w'.ownsRow W.heap.size 3 1 u S.length ((idL S).map iv) ∧ Below W.heap.size W w' := by
  obtain ⟨hl, a, c, rfl, hc1, hc2, _⟩ := owns_ref hv
  have hSn : S.length = n := by rw [← hp.length_eq]; exact hl
  have HD0 : Hid (Dg W W.heap.size N t [] S T (.slice a n c) (.slice none 0 0) (W.alloc (.cells #[.int .i64 N, .slice a n c, .int .i64 t] 42))) := ⟨(Below.refl _ W).alloc (Nat.le_refl _) _, heap_last _ _, hp, by rw [hl]; exact hv.alloc _, World.ownsRow_nil _ _ _ _, fun e => by have := (hv.lt _ e).2; omega, (fun e => by cases e), (fun g _ e => by cases e)⟩
  have HOK : Hid (Okl mo nx S) := ok
  have HSN : Hid (S.length = n) := hSn
  obtain ⟨i0, hz, hz0, hz1, hz2⟩ := info_parts info3
  unfold rv
  clear hv hl hp ok hSn
  go_enter Try.func32, Try.ntmps32
  go_wp2
  generalize W.alloc (.cells #[.int .i64 N, .slice a n c, .int .i64 t] 42) = w1 at *
  go_loopw [3] (fun u wr => ∃ D S' T' v', S = D ++ S' ∧ Dg W W.heap.size N t D S' T' v' u wr) (fun u _ => n - lenOf u)
  case atStart => exact ⟨[], S, T, _, rfl, HD0.out⟩
  case round =>
    clear HD0
    obtain ⟨D, S', T', v', hS, hd⟩ := hrel
    have HS : Hid (S = D ++ S') := hS
    have HD : Hid (Dg W W.heap.size N t D S' T' v' u3 wr) := hd
    have hok' : Okl mo nx S' := Okl.suffix (D := D) (by rw [← hS]; exact HOK.out)
    have hlen : D.length + S'.length = n := by have := congrArg List.length hS; rw [HSN.out, List.length_append] at this; omega
    obtain ⟨m, hm⟩ : ∃ m, T'.length = m := ⟨_, rfl⟩
    have hSm : S'.length = m := by rw [← hd.perm.length_eq]; exact hm
    have hrow := hd.left
    rw [hm] at hrow
    obtain ⟨_, a', c', hv', hcc1, hcc2, _⟩ := owns_ref hrow
    subst hv'
    obtain ⟨du, hdu⟩ : ∃ du, D.length = du := ⟨_, rfl⟩
    have htold := hd.told
    rw [hdu] at htold hlen
    obtain ⟨_, ua, uc, hu, huc1, huc2, _⟩ := owns_ints htold
    subst hu
    have x0 := cell_of_row (k := 0) (v := .int .i64 N) hd.box rfl
    have x1 := cell_of_row (k := 1) (v := .slice a' m c') hd.box rfl
    have x2 := cell_of_row (k := 2) (v := .int .i64 t) hd.box rfl
    by_cases hpos : 0 < m
    · have cT := rtake_any (N := N) (t := t) hrow (by omega) hd.perm hok'
      obtain ⟨x, r, hxr⟩ : ∃ x r, S' = x :: r := by
        cases h : S' with
        | nil => rw [h] at hSm; simp at hSm; omega
        | cons x r => exact ⟨x, r, rfl⟩
      have HOUT : Hid (outE x.id S' = r) := (show _ = _ by rw [hxr]; exact out_head (by rw [← hxr]; exact hok'))
      rw [hxr, show headI (x :: r) = x.id from rfl, show (x :: r).head?.isSome = true from rfl] at cT
      unfold rv at cT
      have HXR : Hid (S' = x :: r) := hxr
      have HDU : Hid (D.length = du) := hdu
      have hsz := hd.bel.size
      have hqlt := heap_lt hd.box
      have hdn : du < n := by omega
      clear hS hok' hm hSm hrow hdu htold hxr hd
      go_upto_region 4 with (go_at_call 30; refine cT.mono ?_; rintro ex w2 ⟨u2, rfl, own2, hfr2, hb2⟩; obtain ⟨a2, n2, c2, hu2⟩ : ∃ a n c, u2 = .slice a n c := (by
          obtain ⟨_, a, c, e, _⟩ := owns_ref own2
          exact ⟨a, _, c, e⟩); subst hu2)
      have kb := Kept.of_below (F := No) hb2
      have HD2 : Hid (Below W.heap.size W w2 ∧ w2.heap[W.heap.size]? = some (.cells #[.int .i64 N, .slice a' m c', .int .i64 t] 42) ∧ w2.ownsRow 0 77 3 (.slice a2 n2 c2) (outE x.id T').length (rcL (outE x.id T')) ∧ w2.ownsRow W.heap.size 3 1 (.slice ua du uc) du ((idL D).map iv) ∧ (Value.slice a2 n2 c2).ownBlock ≠ some W.heap.size ∧ (∀ g, (Value.slice a2 n2 c2).ownBlock = some g → (Value.slice ua du uc).ownBlock ≠ some g)) := (by
        refine ⟨HD.out.bel.trans (hb2.mono HD.out.bel.size), kb.at' HD.out.box (fun h => h), own2, ?_, fun e => ?_, fun g hg e => ?_⟩
        · have := kb.owns HD.out.told (fun _ _ h => h)
          rw [HDU.out] at this
          exact this
        · rcases hfr2 _ e with e2 | e2
          · exact HD.out.nq e2
          · omega
        · rcases hfr2 _ hg with e2 | e2
          · exact HD.out.ne g e2 e
          · have := (HD.out.told.lt g e).2; omega)
      clear own2 hfr2 hb2 kb x0 x1 x2 cT
      have W3 : Hid (Below W.heap.size W (w2.alloc (.cells #[.int .i64 N, .slice a2 n2 c2, .int .i64 t] 42)) ∧ (w2.alloc (.cells #[.int .i64 N, .slice a2 n2 c2, .int .i64 t] 42)).heap[W.heap.size]? = some (.cells #[.int .i64 N, .slice a' m c', .int .i64 t] 42) ∧ (w2.alloc (.cells #[.int .i64 N, .slice a2 n2 c2, .int .i64 t] 42)).ownsRow 0 77 3 (.slice a2 n2 c2) (outE x.id T').length (rcL (outE x.id T')) ∧ (w2.alloc (.cells #[.int .i64 N, .slice a2 n2 c2, .int .i64 t] 42)).ownsRow W.heap.size 3 1 (.slice ua du uc) du ((idL D).map iv) ∧ (w2.alloc (.cells #[.int .i64 N, .slice a2 n2 c2, .int .i64 t] 42)).heap[w2.heap.size]? = some (.cells #[.int .i64 N, .slice a2 n2 c2, .int .i64 t] 42)) := (by
        have kk := (Kept.refl No w2).alloc (.cells #[.int .i64 N, .slice a2 n2 c2, .int .i64 t] 42)
        exact ⟨HD2.out.1.alloc HD2.out.1.size _, kk.at' HD2.out.2.1 (fun h => h), HD2.out.2.2.1.alloc _, HD2.out.2.2.2.1.alloc _, heap_last _ _⟩)
      have HNW : Hid (∀ g, (Value.slice ua du uc).ownBlock = some g → g < w2.heap.size) := (fun g hg => (HD2.out.2.2.2.1.lt g hg).2)
      have HQ2 : Hid (W.heap.size < w2.heap.size) := heap_lt HD2.out.2.1
      generalize w2.alloc (.cells #[.int .i64 N, .slice a2 n2 c2, .int .i64 t] 42) = w3 at *
      have hsz3 := W3.out.1.size
      go_upto_region 5 with (at_builtin; (refine wpList_append_own_at _ rfl _ _ 29 rfl W.heap.size 3 i0 (.int .i64 0) 1 8 Try.underlying29 hz hz0 hz1 hz2 rfl (by decide) _ _ _ rfl (W3.out.2.2.2.1.alloc _) ⟨w3.heap.size, 0, none⟩ 1 1 [.int .i64 x.id] rfl rfl (cell_one_new _ _ _) (one_one _ _) (by unfold maxLen; omega) (by omega) (by simp; omega) ?_); intro v1 w6 own1 grow1 _ at1; have hk6 : Kept (fun k => (Value.slice ua du uc).ownBlock = some k) w3 w6 := ((Kept.refl _ w3).alloc _).grown grow1 (fun k e => .inl e); obtain ⟨a6, c6, hv1⟩ : ∃ a c, v1 = .slice a (du + 1) c := (by
          rcases own1.2 with ⟨_, e2⟩ | ⟨g, cap, cur, e, _⟩
          · omega
          · exact ⟨_, _, e⟩); subst hv1; have OW : Hid (w6.ownsRow W.heap.size 3 1 (.slice a6 (du + 1) c6) (du + 1) ((idL D).map iv ++ [.int .i64 x.id]) ∧ Kept (fun k => (Value.slice ua du uc).ownBlock = some k) w3 w6 ∧ ((Value.slice a6 (du + 1) c6).ownBlock = (Value.slice ua du uc).ownBlock ∨ (Value.slice a6 (du + 1) c6).ownBlock = some (w3.alloc (.cells #[.int .i64 x.id] 3)).heap.size)) := ⟨own1, hk6, at1⟩; clear own1 grow1 at1 hk6)
      have huq : (Value.slice ua du uc).ownBlock ≠ some W.heap.size := HD.out.uq
      have hA6 := OW.out.2.1.at' W3.out.2.1 (fun e => huq e)
      have hB6 := OW.out.2.1.at' W3.out.2.2.2.2 (fun e => by have := HNW.out _ e; omega)
      have y0 := cell_of_row (k := 0) (v := .int .i64 N) hB6 rfl
      have y1 := cell_of_row (k := 1) (v := .slice a2 n2 c2) hB6 rfl
      have y2 := cell_of_row (k := 2) (v := .int .i64 t) hB6 rfl
      have x0 := cell_of_row (k := 0) (v := .int .i64 N) hA6 rfl
      have x1 := cell_of_row (k := 1) (v := .slice a' m c') hA6 rfl
      have x2 := cell_of_row (k := 2) (v := .int .i64 t) hA6 rfl
      have xf := fz_row hA6
      have hqlt3 : W.heap.size < w3.heap.size := heap_lt W3.out.2.1
      have HNEW : Hid (Dg W W.heap.size N t (D ++ [x]) r (outE x.id T') (.slice a2 n2 c2) (.slice a6 (du + 1) c6) (((w6.setCell ⟨W.heap.size, 0, none⟩ (.int .i64 N)).setCell ⟨W.heap.size, 1, none⟩ (.slice a2 n2 c2)).setCell ⟨W.heap.size, 2, none⟩ (.int .i64 t))) := (by
        have kq := set3_keptF (q := W.heap.size) w6 (.int .i64 N) (.slice a2 n2 c2) (.int .i64 t)
        have huq6 : (Value.slice a6 (du + 1) c6).ownBlock ≠ some W.heap.size := fun e => by
          rcases OW.out.2.2 with e2 | e2
          · exact huq (e2 ▸ e)
          · rw [e2] at e; injection e with e; rw [World.size_alloc] at e; omega
        have hb6 : Below W.heap.size W w6 := W3.out.1.trans (OW.out.2.1.below (fun k e => (W3.out.2.2.2.1.lt k e).1) W3.out.1.size)
        refine ⟨hb6.trans (kq.below (fun k e => by omega) hb6.size), set3' hA6 _ _ _, ?_, ?_, ?_, HD2.out.2.2.2.2.1, huq6, fun g hg e => ?_⟩
        · have := perm_out HD.out.perm x.id
          rw [HOUT.out] at this
          exact this
        · exact kq.owns (OW.out.2.1.owns W3.out.2.2.1 (fun g hg e => HD2.out.2.2.2.2.2 g hg e)) (fun g hg e => by subst e; exact HD2.out.2.2.2.2.1 hg)
        · have e1 : (idL (D ++ [x])).map iv = (idL D).map iv ++ [.int .i64 x.id] := by unfold idL; simp [iv]
          rw [List.length_append, HDU.out, e1]
          exact kq.owns OW.out.1 (fun g hg e => by subst e; exact huq6 hg)
        · rcases OW.out.2.2 with e2 | e2
          · exact HD2.out.2.2.2.2.2 g hg (e2 ▸ e)
          · rw [e2] at e; injection e with e; rw [World.size_alloc] at e; have := (W3.out.2.2.1.lt g hg).2; omega)
      clear huq hA6 hB6
      go_wp2
      go_roundw
      case rel => exact ⟨D ++ [x], r, outE x.id T', _, by rw [HS.out, HXR.out, List.append_assoc]; rfl, HNEW.out⟩
      case measure => simp [lenOf]; omega
    · have hm0 : m = 0 := by omega
      subst hm0
      have hS0 : S' = [] := List.eq_nil_of_length_eq_zero hSm
      have HDS : Hid (S = D) := (show _ = _ by rw [hS, hS0, List.append_nil])
      clear hd hrow htold
      go_wp2
      go_ret
      exact ⟨_, rfl, by rw [HDS.out]; exact HD.out.told, HD.out.bel⟩
end
end Go.Proofs.Yteiakmjdjaodlaa
