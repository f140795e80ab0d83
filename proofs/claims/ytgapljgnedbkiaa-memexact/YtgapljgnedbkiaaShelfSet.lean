/-
  The Shelf: one list of it turned where it lies; an append that tells of the room.
-/
import Derived.Test.YtgapljgnedbkiaaHolds
namespace Go.Proofs.Ytgapljgnedbkiaa
open Go.RowKit
set_option linter.unusedVariables false

theorem enVals_cons (e : En) (es : List En) : enVals (e :: es) = e.l :: e.h :: enVals es := by simp [enVals]
theorem enVals_set : ∀ (es : List En) (i : Nat) (e : En), es[i]? = some e → ∀ ys, enVals (es.set i ⟨e.l, e.h, ys⟩) = enVals es
  | [], i, e, h, ys => by simp at h
  | f :: es, 0, e, h, ys => by simp at h; subst h; simp [enVals_cons]
  | f :: es, i + 1, e, h, ys => by
    rw [List.set_cons_succ, enVals_cons, enVals_cons, enVals_set es i e (by simpa using h) ys]
theorem map_set_l (es : List En) (i : Nat) (e : En) (h : es[i]? = some e) (ys : List Int) : (es.set i ⟨e.l, e.h, ys⟩).map (·.l) = es.map (·.l) ∧ (es.set i ⟨e.l, e.h, ys⟩).map (·.h) = es.map (·.h) := by
  have hlt : i < es.length := (List.getElem?_eq_some_iff.1 h).1
  have hge : es[i] = e := (List.getElem?_eq_some_iff.1 h).2
  constructor
  · apply List.ext_getElem?
    intro j
    rw [List.getElem?_map, List.getElem?_map, List.getElem?_set]
    by_cases hj : i = j
    · subst hj; simp [hlt, hge]
    · simp [hj]
  · apply List.ext_getElem?
    intro j
    rw [List.getElem?_map, List.getElem?_map, List.getElem?_set]
    by_cases hj : i = j
    · subst hj; simp [hlt, hge]
    · simp [hj]

theorem apart_self : ∀ (es : List En), (enVals es).Pairwise Far → ∀ (j : Nat) (e : En), es[j]? = some e → Far e.l e.h
  | [], _, j, e, h => by simp at h
  | f :: es, hp, 0, e, h => by
    simp at h; subst h
    rw [enVals_cons, List.pairwise_cons] at hp
    exact hp.1 _ (by simp)
  | f :: es, hp, j + 1, e, h => by
    rw [enVals_cons, List.pairwise_cons, List.pairwise_cons] at hp
    exact apart_self es hp.2.2 j e (by simpa using h)
theorem apart_two : ∀ (es : List En), (enVals es).Pairwise Far → ∀ (i j : Nat) (e f : En), i < j → es[i]? = some e → es[j]? = some f → (Far e.l f.l ∧ Far e.l f.h) ∧ (Far e.h f.l ∧ Far e.h f.h)
  | [], _, i, j, e, f, _, h, _ => by simp at h
  | d :: es, hp, i, 0, e, f, h, _, _ => by omega
  | d :: es, hp, 0, j + 1, e, f, _, h, h2 => by
    simp at h; subst h
    rw [enVals_cons, List.pairwise_cons, List.pairwise_cons] at hp
    have hm := mem_enVals (List.mem_of_getElem? (by simpa using h2 : es[j]? = some f))
    exact ⟨⟨hp.1 _ (List.mem_cons_of_mem _ hm.1), hp.1 _ (List.mem_cons_of_mem _ hm.2)⟩, ⟨hp.2.1 _ hm.1, hp.2.1 _ hm.2⟩⟩
  | d :: es, hp, i + 1, j + 1, e, f, hl, h, h2 => by
    rw [enVals_cons, List.pairwise_cons, List.pairwise_cons] at hp
    exact apart_two es hp.2.2 i j e f (by omega) (by simpa using h) (by simpa using h2)

/-- one list of the shelf and its copy turned where they lie -/
theorem Sh.chg {w w' : World} {F : Nat → Prop} {s : Nat} {bvv hvv : Value} {es : List En} (h : Sh w F s bvv hvv es) {i : Nat} {e : En} (hi : es[i]? = some e) {ys : List Int} (hyl : ys.length = e.xs.length)
    (hk : Kept (fun k => e.l.ownBlock = some k ∨ e.h.ownBlock = some k) w w') (hl : w'.ownsRow 0 2 1 e.l ys.length (ys.map iv)) (hh : w'.ownsRow 0 2 1 e.h ys.length (ys.map iv)) (hy : ∀ y ∈ ys, y = y) :
    Sh w' F s bvv hvv (es.set i ⟨e.l, e.h, ys⟩) := by
  have hmem := List.mem_of_getElem? hi
  obtain ⟨o1, o2, _⟩ := h.ent e hmem
  have nl : ∀ {v : Value} {n : Nat} {xs : List Value}, w.ownsRow 0 22 1 v n xs → ∀ k, v.ownBlock = some k → ¬ (e.l.ownBlock = some k ∨ e.h.ownBlock = some k) := by
    intro v n xs ho k e1 e2
    rcases e2 with e2 | e2
    · exact owns_far ho o1 (by decide) k e1 e2
    · exact owns_far ho o2 (by decide) k e1 e2
  have hlt : i < es.length := (List.getElem?_eq_some_iff.1 hi).1
  refine ⟨hk.at' h.obj ?_, ?_, ?_, h.far, ?_, ?_, h.fs, h.fr, ?_, fun j hj => Nat.lt_of_lt_of_le (h.flt j hj) hk.size⟩
  · rintro (e2 | e2)
    · exact absurd (owns_tag o1 e2 h.obj) (by decide)
    · exact absurd (owns_tag o2 e2 h.obj) (by decide)
  · rw [(map_set_l es i e hi ys).1, List.length_set]; exact hk.owns h.bown (nl h.bown)
  · rw [(map_set_l es i e hi ys).2, List.length_set]; exact hk.owns h.hown (nl h.hown)
  · intro f hf
    obtain ⟨j, hj⟩ := List.getElem?_of_mem hf
    rw [List.getElem?_set] at hj
    by_cases hij : i = j
    · subst hij
      simp [hlt] at hj
      subst hj
      exact ⟨hl, hh, hy⟩
    · rw [if_neg hij] at hj
      obtain ⟨q1, q2, q3⟩ := h.ent f (List.mem_of_getElem? hj)
      have far : (Far e.l f.l ∧ Far e.l f.h) ∧ (Far e.h f.l ∧ Far e.h f.h) := by
        rcases Nat.lt_or_gt_of_ne hij with h1 | h1
        · exact apart_two es h.apart i j e f h1 hi hj
        · have := apart_two es h.apart j i f e h1 hj hi
          exact ⟨⟨this.1.1.symm, this.2.1.symm⟩, ⟨this.1.2.symm, this.2.2.symm⟩⟩
      exact ⟨hk.owns q1 (fun k e1 e2 => e2.elim (fun e2 => far.1.1 k e2 e1) (fun e2 => far.2.1 k e2 e1)), hk.owns q2 (fun k e1 e2 => e2.elim (fun e2 => far.1.2 k e2 e1) (fun e2 => far.2.2 k e2 e1)), q3⟩
  · rw [enVals_set es i e hi ys]; exact h.apart
  · rw [enVals_set es i e hi ys]; exact h.fe

theorem set_same (es : List En) (i : Nat) (e : En) (h : es[i]? = some e) : es.set i ⟨e.l, e.h, e.xs⟩ = es := by
  apply List.ext_getElem?
  intro j
  rw [List.getElem?_set]
  by_cases hj : i = j
  · subst hj; rw [if_pos rfl, if_pos (List.getElem?_eq_some_iff.1 h).1, h]
  · simp [hj]

/-- the shorter value over the same row owns the head -/
theorem owns_head {w : World} {B t g n q cap : Nat} {xs zs : List Value} (h : w.ownsRow B t 1 (.slice (some ⟨g, 0, none⟩) (n + q) cap) (n + q) (xs ++ zs)) (hx : xs.length = n) : w.ownsRow B t 1 (.slice (some ⟨g, 0, none⟩) n cap) n xs := by
  obtain ⟨hl, ⟨hv, h0⟩ | ⟨g', cap', cur, hv, hb, hgg, hn, hm, hs, ht⟩⟩ := h
  · cases hv
  · injection hv with h1 h2 h3
    injection h1 with h1
    injection h1 with h1
    subst h1 h3
    refine ⟨by omega, .inr ⟨g, cap, cur, rfl, hb, hgg, by omega, hm, hs, ?_⟩⟩
    have : (cur.toList.take ((n + q) * 1)).take (n * 1) = (xs ++ zs).take (n * 1) := by rw [ht]
    rw [List.take_take, Nat.min_eq_left (by omega)] at this
    rw [this, Nat.mul_one, ← hx, List.take_left]

/-- append of at least one, with what it did: in place, or in a new row and nothing else touched -/
theorem run_append_own_two {P : Program} (w : World) (t ty e : TypeId) (i : TypeInfo) (z : Value) (bytes : Nat) (ht : P.underlying t = some (.slice e)) (hi : P.info? e = some i) (hz : i.zero = some z)
    (hsize : i.size = 1) (hby : i.bytes = bytes) (hzs : z.cells.size = 1)
    (v : Value) (n : Nat) (xs : List Value) (hown : w.ownsRow 0 e 1 v n xs)
    (a : Addr) (c : Nat) (u : Value) (hnews : ∀ j x, [u][j]? = some x → w.cell? (a.add j) = some x) (h1 : ∀ x ∈ [u], x.oneCell' = true)
    (h63 : n + 1 ≤ maxLen) (hbytes : (n + 1) * bytes ≤ 140737488355328) :
    ∃ v' w', (Builtin.append_ #[t, t] ty #[v, .slice (some a) 1 c]).run P w = .ok v' w' ∧ w'.ownsRow 0 e 1 v' (n + 1) (xs ++ [u]) ∧
      ((∃ g cap, v = .slice (some ⟨g, 0, none⟩) n cap ∧ v' = .slice (some ⟨g, 0, none⟩) (n + 1) cap ∧ w.grownBy w' (some g)) ∨ (v'.ownBlock = some w.heap.size ∧ w.grownBy w' none)) := by
  obtain ⟨v', w', hr, h2, h3, h4, h5⟩ := run_append_own_at (P := P) w 0 t ty e i z 1 bytes ht hi hz hsize hby hzs (by decide) v n xs hown a 1 c [u] rfl hnews h1 h63 hbytes (Nat.zero_le _)
  refine ⟨v', w', hr, h2, ?_⟩
  have hsmall : n + 1 ≤ 9223372036854775807 := by simp only [maxLen] at h63; omega
  rcases hown.2 with ⟨rfl, rfl⟩ | ⟨g, cap, cur, rfl, hbg, hg, hnc, hcm, hcs, htake⟩
  · right
    refine ⟨?_, h3⟩
    rcases h5 with h5 | h5
    · rcases h2.2 with ⟨_, h0⟩ | ⟨g, cap, cur, rfl, _⟩
      · omega
      · simp [Value.ownBlock] at h5
    · exact h5
  · subst hby
    by_cases hroom : n + 1 ≤ cap
    · left
      have hr2 := run_append_room (P := P) w t ty e i ht hi g n cap cur hg a 1 c [u] (by rw [hsize]; rfl) hnews h1 hroom (by rw [hsize, hcs]; simp; omega)
      rw [hr] at hr2
      injection hr2 with e1 e2
      exact ⟨g, cap, rfl, e1, h3⟩
    · right
      have holds : ∀ j x, xs[j]? = some x → w.cell? ((⟨g, 0, none⟩ : Addr).add j) = some x := hown.cells (g := g) rfl
      have hr2 := run_append_grow (P := P) w t ty e i z ht hi hz ⟨g, 0, none⟩ n cap xs (by rw [hsize]; exact hown.1) holds a 1 c [u] (by rw [hsize]; rfl) hnews (by omega) (by omega) (growslice_fits (by omega) hbytes)
      rw [hr] at hr2
      injection hr2 with e1 e2
      rw [e1, e2]
      exact ⟨rfl, ⟨rfl, rfl, rfl, by simp, fun k hk _ => heap_alloc_old w.drew _ hk⟩⟩

theorem wpList_append_own_two {P : Program} {w : World} {ops : Array Oper} {rest : List Oper} {o : Oper} {a : Act} {Q : Exit → Act → World → Prop} (hgd : o.guard = none) (s x : Operand) (t : TypeId)
    (ho : o.op = .call { callee := .builtin .append, args := #[s, x], argTypes := #[t, t] })
    (e : TypeId) (i : TypeInfo) (z : Value) (bytes : Nat) (ht : P.underlying t = some (.slice e)) (hi : P.info? e = some i) (hz : i.zero = some z)
    (hsize : i.size = 1) (hby : i.bytes = bytes) (hzs : z.cells.size = 1)
    (v : Value) (n : Nat) (xs : List Value) (hs : a.eval s = v) (hown : w.ownsRow 0 e 1 v n xs)
    (ad : Addr) (c : Nat) (u : Value) (hx : a.eval x = .slice (some ad) 1 c) (hnews : ∀ j y, [u][j]? = some y → w.cell? (ad.add j) = some y) (h1 : ∀ y ∈ [u], y.oneCell' = true)
    (h63 : n + 1 ≤ maxLen) (hbytes : (n + 1) * bytes ≤ 140737488355328)
    (h : ∀ v' w', w'.ownsRow 0 e 1 v' (n + 1) (xs ++ [u]) → ((∃ g cap, v = .slice (some ⟨g, 0, none⟩) n cap ∧ v' = .slice (some ⟨g, 0, none⟩) (n + 1) cap ∧ w.grownBy w' (some g)) ∨ (v'.ownBlock = some w.heap.size ∧ w.grownBy w' none)) → wpList P ops Q rest (a.put o.dst v') w') :
    wpList P ops Q (o :: rest) a w := by
  refine wpList_plain hgd fun K hK => ?_
  obtain ⟨v', w', hr, h2, h3⟩ := run_append_own_two (P := P) w t o.type e i z bytes ht hi hz hsize hby hzs v n xs hown ad c u hnews h1 h63 hbytes
  unfold Oper.wp execOp
  simp only [ho, resolve, invoke, builtin, Sem.run_bind, Sem.run_pure, Result.andThen_ok, List.map_toArray, List.map_cons, List.map_nil, hs, hx, hr]
  exact hK _ _ (h v' w' h2 h3)

/-- a longer list beside the shelf: over the row of a list that lies on it, or in a row of its own -/
def Long (B : Nat) (F : Nat → Prop) (e : En) (l : Value) (q : Nat) : Prop := (∃ g cap, e.l = .slice (some ⟨g, 0, none⟩) e.xs.length cap ∧ l = .slice (some ⟨g, 0, none⟩) (e.xs.length + q) cap) ∨ (∀ g, l.ownBlock = some g → ¬ F g ∧ B ≤ g)

theorem Sh.grew {w0 w w' : World} {F : Nat → Prop} {s : Nat} {bvv hvv : Value} {es : List En} (h : Sh w F s bvv hvv es) {i : Nat} {e : En} (hi : es[i]? = some e) {l v' : Value} {q : Nat} {zs : List Value} {u : Value} {o : Obj}
    (k0 : Kept F w0 w) (hlong : Long w0.heap.size F e l q) (own : w'.ownsRow 0 2 1 v' (e.xs.length + q + 1) ((e.xs.map iv ++ zs) ++ [u]))
    (two : (∃ g cap, l = .slice (some ⟨g, 0, none⟩) (e.xs.length + q) cap ∧ v' = .slice (some ⟨g, 0, none⟩) (e.xs.length + q + 1) cap ∧ (w.alloc o).grownBy w' (some g)) ∨ (v'.ownBlock = some (w.alloc o).heap.size ∧ (w.alloc o).grownBy w' none)) :
    Sh w' F s bvv hvv es ∧ Long w0.heap.size F e v' (q + 1) ∧ Kept F w0 w' ∧ w'.ownsRow 0 2 1 v' (e.xs.length + (q + 1)) (e.xs.map iv ++ (zs ++ [u])) := by
  have own' : w'.ownsRow 0 2 1 v' (e.xs.length + (q + 1)) (e.xs.map iv ++ (zs ++ [u])) := by rw [← List.append_assoc, ← Nat.add_assoc]; exact own
  have hmem := List.mem_of_getElem? hi
  obtain ⟨o1, o2, o3⟩ := h.ent e hmem
  rcases two with ⟨g, cap, rfl, rfl, hg⟩ | ⟨hv, hg⟩
  · have k1 : Kept (fun k => k = g) w w' := ((Kept.refl _ _).alloc o).grown hg (fun k e => .inl (by injection e with e; exact e.symm))
    rcases hlong with ⟨g', cap', he, hl⟩ | hn
    · injection hl with h1 h2 h3
      injection h1 with h1
      injection h1 with h1
      subst h1 h3
      have hF : F g := h.fe e.l (mem_enVals hmem).1 g (by rw [he]; rfl)
      have ol : w'.ownsRow 0 2 1 e.l e.xs.length (e.xs.map iv) := by rw [he]; exact owns_head own' (by simp)
      have k2 : Kept (fun k => e.l.ownBlock = some k ∨ e.h.ownBlock = some k) w w' := k1.mono (fun k hk => .inl (by rw [he, hk]; rfl))
      have oh : w'.ownsRow 0 2 1 e.h e.xs.length (e.xs.map iv) := k1.owns o2 (fun k e1 e2 => apart_self es h.apart i e hi g (by rw [he]; rfl) (by rw [e1, e2]))
      have := h.chg hi (ys := e.xs) rfl k2 ol oh o3
      rw [set_same es i e hi] at this
      exact ⟨this, .inl ⟨g, cap, he, rfl⟩, k0.trans k1 (fun k hk => .inl (by rw [hk]; exact hF)), own'⟩
    · obtain ⟨hnF, hge⟩ := hn g rfl
      exact ⟨h.kept k1 (fun b hb e => hnF (e ▸ hb)), .inr (fun k e => by simp [Value.ownBlock] at e; exact e ▸ ⟨hnF, hge⟩), k0.trans k1 (fun k hk => .inr (by rw [hk]; exact hge)), own'⟩
  · have k1 : Kept No w w' := ((Kept.refl _ _).alloc o).grown hg (fun k e => by cases e)
    refine ⟨h.kept k1 (fun _ _ h => h), .inr (fun k e => ?_), k0.trans k1 (fun _ h => h.elim), own'⟩
    rw [hv] at e; injection e with e; simp at e
    have := k0.size
    exact ⟨(fun hF => by have := h.flt k hF; omega), by omega⟩

end Go.Proofs.Ytgapljgnedbkiaa
