/-
  Lists of messages, and lists of them, that are new: no walk.
-/
import Derived.Test.YtggkajopfbokjaaOCopy
import Derived.Maps.AppendAt
namespace Go.Proofs.Ytggkajopfbokjaa
open Go.RowKit
set_option linter.unusedVariables false
set_option maxRecDepth 100000

theorem owns_base {w : World} {B B' t sz n : Nat} {v : Value} {ys : List Value} (h : w.ownsRow B t sz v n ys) (hB : B' ≤ B) : w.ownsRow B' t sz v n ys := by
  obtain ⟨q1, q2 | ⟨g, cap, cur, r1, r2, r3⟩⟩ := h
  · exact ⟨q1, .inl q2⟩
  · exact ⟨q1, .inr ⟨g, cap, cur, r1, by omega, r3⟩⟩
theorem owns_at {w : World} {B t sz n : Nat} {v : Value} {ys : List Value} (h : w.ownsRow B t sz v n ys) {k : Nat} (hk : v.ownBlock = some k) : B ≤ k ∧ k < w.heap.size := by
  obtain ⟨h1, cs, h2⟩ := owns_blk h hk
  exact ⟨h1, heap_lt h2⟩
theorem get_snoc {α : Type} {xs : List α} {x y : α} {i : Nat} (h : (xs ++ [x])[i]? = some y) : xs[i]? = some y ∧ i < xs.length ∨ i = xs.length ∧ y = x := by
  by_cases hi : i < xs.length
  · rw [List.getElem?_append_left hi] at h
    exact .inl ⟨h, hi⟩
  · rw [List.getElem?_append_right (by omega)] at h
    obtain ⟨a, e⟩ := List.getElem?_eq_some_iff.1 h
    simp at a e
    exact .inr ⟨by omega, e.symm⟩

/-- a list of messages -/
structure Ll (w : World) (B : Nat) (lv : Value) (ms : List Value) (xs : List (List Int)) : Prop where
  own : w.ownsRow B 31 1 lv ms.length ms
  len : xs.length = ms.length
  msg : ∀ (j : Nat) (v : Value) (x : List Int), ms[j]? = some v → xs[j]? = some x → w.ownsRow B 2 1 v x.length (x.map iv)
  far : ∀ (j j' : Nat) (v v' : Value), ms[j]? = some v → ms[j']? = some v' → j ≠ j' → Far v v'
/-- its blocks -/
def Fl (lv : Value) (ms : List Value) (k : Nat) : Prop := lv.ownBlock = some k ∨ ∃ v, v ∈ ms ∧ v.ownBlock = some k
theorem Ll.none (w : World) (B : Nat) : Ll w B (.slice none 0 0) [] [] := ⟨World.ownsRow_nil _ _ _ _, rfl, fun j v x h => (by cases h), fun j j' v v' h => (by cases h)⟩
namespace Ll
variable {w w' : World} {B : Nat} {lv : Value} {ms : List Value} {xs : List (List Int)}
theorem at_msg (h : Ll w B lv ms xs) {j : Nat} {v : Value} (hv : ms[j]? = some v) : ∃ x, xs[j]? = some x ∧ w.ownsRow B 2 1 v x.length (x.map iv) := by
  have hj : j < xs.length := by rw [h.len]; exact (List.getElem?_eq_some_iff.1 hv).1
  exact ⟨_, List.getElem?_eq_getElem hj, h.msg j v _ hv (List.getElem?_eq_getElem hj)⟩
theorem lt (h : Ll w B lv ms xs) {k : Nat} (hk : Fl lv ms k) : B ≤ k ∧ k < w.heap.size := by
  rcases hk with hk | ⟨v, hv, hk⟩
  · exact owns_at h.own hk
  · obtain ⟨j, hj, e⟩ := List.mem_iff_getElem.1 hv
    obtain ⟨x, _, ho⟩ := h.at_msg (j := j) (v := v) (by rw [List.getElem?_eq_getElem hj, e])
    exact owns_at ho hk
theorem kept {G : Nat → Prop} (h : Ll w B lv ms xs) (K : Kept G w w') (hG : ∀ k, Fl lv ms k → ¬ G k) : Ll w' B lv ms xs :=
  ⟨K.owns h.own (fun k hk => hG k (.inl hk)), h.len, fun j v x hv hx => K.owns (h.msg j v x hv hx) (fun k hk => hG k (.inr ⟨v, List.mem_of_getElem? hv, hk⟩)), h.far⟩
theorem keep (h : Ll w B lv ms xs) (K : Kept No w w') : Ll w' B lv ms xs := h.kept K (fun _ _ e => e)
theorem base {B' : Nat} (h : Ll w B lv ms xs) (hB : B' ≤ B) : Ll w B' lv ms xs := ⟨owns_base h.own hB, h.len, fun j v x hv hx => owns_base (h.msg j v x hv hx) hB, h.far⟩
/-- one message more: it was made since w, and then laid behind the others -/
theorem more {w1 wa : World} {v lv' : Value} {x : List Int} {n : Nat} {o : Obj} (h : Ll w B lv ms xs) (hB : B ≤ w.heap.size) (hx : x.length = n) (K1 : Kept No w w1) (om : w1.ownsRow w.heap.size 2 1 v n (x.map iv)) (own1 : wa.ownsRow B 31 1 lv' (ms.length + 1) (ms ++ [v])) (gr : (w1.alloc o).grownBy wa lv.ownBlock) :
    Ll wa B lv' (ms ++ [v]) (xs ++ [x]) ∧ Kept (fun k => lv.ownBlock = some k) w wa := by
  subst hx
  have ka : Kept (fun k => lv.ownBlock = some k) w1 wa := ((Kept.refl (fun k => lv.ownBlock = some k) w1).alloc o).grown gr (fun k e => .inl e)
  have h1 := h.keep K1
  have ne : ∀ {u : Value} {m : Nat} {ys : List Value} {B' : Nat}, w1.ownsRow B' 2 1 u m ys → ∀ k, u.ownBlock = some k → ¬ lv.ownBlock = some k := fun ho k hk e => by
    obtain ⟨_, cs, a1⟩ := owns_blk ho hk
    obtain ⟨_, cs', a2⟩ := owns_blk h1.own e
    exact absurd (two_tags a1 a2) (by decide)
  have key : ∀ (j : Nat) (u : Value), ms[j]? = some u → Far u v := fun j u hu k hk hk' => by
    have := (h.lt (.inr ⟨u, List.mem_of_getElem? hu, hk⟩)).2
    have := (owns_at om hk').1
    omega
  refine ⟨⟨by rw [List.length_append]; exact own1, by rw [List.length_append, List.length_append, h.len]; rfl, fun j u y hu hy => ?_, fun j j' u u' hu hu' hjj => ?_⟩, (K1.mono (fun _ e => e.elim)).trans ka (fun k e => .inl e)⟩
  · rcases get_snoc hu with ⟨h2, h3⟩ | ⟨h2, rfl⟩
    · rw [List.getElem?_append_left (by rw [h.len]; exact h3)] at hy
      have ho := h1.msg j u y h2 hy
      exact ka.owns ho (ne ho)
    · rcases get_snoc hy with ⟨_, h4⟩ | ⟨_, rfl⟩
      · have := h.len; omega
      · exact owns_base (ka.owns om (ne om)) hB
  · rcases get_snoc hu with ⟨h2, h3⟩ | ⟨h2, rfl⟩
    · rcases get_snoc hu' with ⟨h4, h5⟩ | ⟨h4, rfl⟩
      · exact h.far j j' u u' h2 h4 hjj
      · exact key j u h2
    · rcases get_snoc hu' with ⟨h4, h5⟩ | ⟨h4, rfl⟩
      · exact (key j' u' h4).symm
      · omega
end Ll

/-- lists of messages, one behind the other -/
structure Lb (w : World) (B : Nat) (tb : Value) (lvs : List Value) (mss : List (List Value)) (xss : List (List (List Int))) : Prop where
  own : w.ownsRow B 40 1 tb lvs.length lvs
  len1 : mss.length = lvs.length
  len2 : xss.length = lvs.length
  ent : ∀ (i : Nat) (lv : Value) (ms : List Value) (xs : List (List Int)), lvs[i]? = some lv → mss[i]? = some ms → xss[i]? = some xs → Ll w B lv ms xs
  far : ∀ (i j : Nat) (lv lv' : Value) (ms ms' : List Value), lvs[i]? = some lv → lvs[j]? = some lv' → mss[i]? = some ms → mss[j]? = some ms' → i ≠ j → ∀ k, Fl lv ms k → ¬ Fl lv' ms' k
theorem Lb.none (w : World) (B : Nat) : Lb w B (.slice none 0 0) [] [] [] := ⟨World.ownsRow_nil _ _ _ _, rfl, rfl, fun i lv ms xs h => (by cases h), fun i j lv lv' ms ms' h => (by cases h)⟩
def Fb (tb : Value) (lvs : List Value) (mss : List (List Value)) (k : Nat) : Prop := tb.ownBlock = some k ∨ ∃ (i : Nat) (lv : Value) (ms : List Value), lvs[i]? = some lv ∧ mss[i]? = some ms ∧ Fl lv ms k
namespace Lb
variable {w w' : World} {B : Nat} {tb : Value} {lvs : List Value} {mss : List (List Value)} {xss : List (List (List Int))}
theorem at_ll (h : Lb w B tb lvs mss xss) {i : Nat} (hi : i < lvs.length) : ∃ lv ms xs, lvs[i]? = some lv ∧ mss[i]? = some ms ∧ xss[i]? = some xs ∧ Ll w B lv ms xs :=
  ⟨_, _, _, List.getElem?_eq_getElem hi, List.getElem?_eq_getElem (by rw [h.len1]; exact hi), List.getElem?_eq_getElem (by rw [h.len2]; exact hi), h.ent i _ _ _ (List.getElem?_eq_getElem hi) (List.getElem?_eq_getElem (by rw [h.len1]; exact hi)) (List.getElem?_eq_getElem (by rw [h.len2]; exact hi))⟩
theorem lt (h : Lb w B tb lvs mss xss) {k : Nat} (hk : Fb tb lvs mss k) : B ≤ k ∧ k < w.heap.size := by
  rcases hk with hk | ⟨i, lv, ms, h1, h2, hk⟩
  · exact owns_at h.own hk
  · obtain ⟨lv', ms', xs, e1, e2, e3, L⟩ := h.at_ll (List.getElem?_eq_some_iff.1 h1).1
    rw [h1] at e1
    rw [h2] at e2
    injection e1 with e1
    injection e2 with e2
    subst e1 e2
    exact L.lt hk
theorem kept {G : Nat → Prop} (h : Lb w B tb lvs mss xss) (K : Kept G w w') (hG : ∀ k, Fb tb lvs mss k → ¬ G k) : Lb w' B tb lvs mss xss :=
  ⟨K.owns h.own (fun k hk => hG k (.inl hk)), h.len1, h.len2, fun i lv ms xs h1 h2 h3 => (h.ent i lv ms xs h1 h2 h3).kept K (fun k hk => hG k (.inr ⟨i, lv, ms, h1, h2, hk⟩)), h.far⟩
theorem keep (h : Lb w B tb lvs mss xss) (K : Kept No w w') : Lb w' B tb lvs mss xss := h.kept K (fun _ _ e => e)
/-- one list more: it was made since w -/
theorem more {w1 wa : World} {lv tb' : Value} {ms : List Value} {xs : List (List Int)} {o : Obj} (h : Lb w B tb lvs mss xss) (hB : B ≤ w.heap.size) (K1 : Kept No w w1) (L : Ll w1 w.heap.size lv ms xs) (own1 : wa.ownsRow B 40 1 tb' (lvs.length + 1) (lvs ++ [lv])) (gr : (w1.alloc o).grownBy wa tb.ownBlock) :
    Lb wa B tb' (lvs ++ [lv]) (mss ++ [ms]) (xss ++ [xs]) ∧ Kept (fun k => tb.ownBlock = some k) w wa := by
  have ka : Kept (fun k => tb.ownBlock = some k) w1 wa := ((Kept.refl (fun k => tb.ownBlock = some k) w1).alloc o).grown gr (fun k e => .inl e)
  have h1 := h.keep K1
  have ne : ∀ {B' : Nat} {u : Value} {ns : List Value} {ys : List (List Int)}, Ll w1 B' u ns ys → ∀ k, Fl u ns k → ¬ tb.ownBlock = some k := by
    intro B' u ns ys L k hk e
    obtain ⟨_, cs', a2⟩ := owns_blk h1.own e
    rcases hk with hk | ⟨v, hv, hk⟩
    · obtain ⟨_, cs, a1⟩ := owns_blk L.own hk
      exact absurd (two_tags a1 a2) (by decide)
    · obtain ⟨j, hj, e⟩ := List.mem_iff_getElem.1 hv
      obtain ⟨x, _, ho⟩ := L.at_msg (j := j) (v := v) (by rw [List.getElem?_eq_getElem hj, e])
      obtain ⟨_, cs, a1⟩ := owns_blk ho hk
      exact absurd (two_tags a1 a2) (by decide)
  have key : ∀ (i : Nat) (u : Value) (ns : List Value), lvs[i]? = some u → mss[i]? = some ns → ∀ k, Fl u ns k → ¬ Fl lv ms k := fun i u ns hu hn k hk hk' => by
    have := (h.lt (.inr ⟨i, u, ns, hu, hn, hk⟩)).2
    have := (L.lt hk').1
    omega
  refine ⟨⟨by rw [List.length_append]; exact own1, by rw [List.length_append, List.length_append, h.len1]; rfl, by rw [List.length_append, List.length_append, h.len2]; rfl, fun i u ns ys hu hn hy => ?_, fun i j u u' ns ns' hu hu' hn hn' hij => ?_⟩, (K1.mono (fun _ e => e.elim)).trans ka (fun k e => .inl e)⟩
  · rcases get_snoc hu with ⟨h2, h3⟩ | ⟨h2, rfl⟩
    · rw [List.getElem?_append_left (by rw [h.len1]; exact h3)] at hn
      rw [List.getElem?_append_left (by rw [h.len2]; exact h3)] at hy
      have l1 := h1.ent i u ns ys h2 hn hy
      exact l1.kept ka (ne l1)
    · rcases get_snoc hn with ⟨_, h4⟩ | ⟨_, rfl⟩
      · have := h.len1; omega
      · rcases get_snoc hy with ⟨_, h4⟩ | ⟨_, rfl⟩
        · have := h.len2; omega
        · exact (L.base hB).kept ka (ne L)
  · rcases get_snoc hu with ⟨h2, h3⟩ | ⟨h2, rfl⟩
    · rw [List.getElem?_append_left (by rw [h.len1]; exact h3)] at hn
      rcases get_snoc hu' with ⟨h4, h5⟩ | ⟨h4, rfl⟩
      · rw [List.getElem?_append_left (by rw [h.len1]; exact h5)] at hn'
        exact h.far i j u u' ns ns' h2 h4 hn hn' hij
      · rcases get_snoc hn' with ⟨_, h6⟩ | ⟨_, rfl⟩
        · have := h.len1; omega
        · exact key i u ns h2 hn
    · rcases get_snoc hn with ⟨_, h6⟩ | ⟨_, rfl⟩
      · have := h.len1; omega
      · rcases get_snoc hu' with ⟨h4, h5⟩ | ⟨h4, rfl⟩
        · rw [List.getElem?_append_left (by rw [h.len1]; exact h5)] at hn'
          exact fun k hk hk' => key j u' ns' h4 hn' k hk' hk
        · omega
end Lb
/-- append of one thing onto a list of one's own -/
theorem wpList_app1 {P : Program} {w : World} {ops : Array Oper} {rest : List Oper} {o : Oper} {a : Act} {Q : Exit → Act → World → Prop} (hgd : o.guard = none) (s x : Operand) (t e : TypeId)
    (ho : o.op = .call { callee := .builtin .append, args := #[s, x], argTypes := #[t, t] }) (z : Value) (bytes : Nat) (ht : P.underlying t = some (.slice e)) (hi : (P.info? e).map (fun i => (i.zero, i.size, i.bytes)) = some (some z, 1, bytes)) (hzs : z.cells.size = 1)
    (B : Nat) (v : Value) (n : Nat) (us : List Value) (hs : a.eval s = v) (hv : w.ownsRow B e 1 v n us) (hB : B ≤ w.heap.size) (ad : Addr) (c : Nat) (u : Value) (hx : a.eval x = .slice (some ad) 1 c) (hu : w.cell? ad = some u) (h1 : u.oneCell' = true) (hb : (n + 1) * bytes ≤ 140737488355328) (h63 : n + 1 ≤ maxLen)
    (h : ∀ ya yc w', Hid (w'.ownsRow B e 1 (.slice ya (n + 1) yc) (n + 1) (us ++ [u])) → Hid (w.grownBy w' v.ownBlock) → Hid ((Value.slice ya (n + 1) yc).ownBlock = v.ownBlock ∨ (Value.slice ya (n + 1) yc).ownBlock = some w.heap.size) → wpList P ops Q rest (a.put o.dst (.slice ya (n + 1) yc)) w') : wpList P ops Q (o :: rest) a w := by
  obtain ⟨i0, hi, hz0, hz1, hz2⟩ := info_parts hi
  have news : ∀ j y, [u][j]? = some y → w.cell? (ad.add j) = some y := by
    intro j y hy
    have hj : j = 0 := by
      have := (List.getElem?_eq_some_iff.1 hy).1
      simp at this
      exact this
    subst hj
    simp at hy
    subst hy
    simpa [Addr.add] using hu
  obtain ⟨v', w', hr, ho', hg, _, hl⟩ := run_append_own_at (P := P) w B t o.type e i0 z 1 bytes ht hi hz0 hz1 hz2 hzs (by decide) v n us hv ad 1 c [u] rfl news (by simpa using h1) h63 hb hB
  obtain ⟨ya, yn, yc, rfl⟩ := own_slice ho'
  have hyn : yn = n + 1 := by
    obtain ⟨_, ⟨_, h2⟩ | ⟨g, cap, cur, h2, _⟩⟩ := ho'
    · omega
    · injection h2
  subst hyn
  refine BigFrame.wpList_want (by simp [Region.wanted, hgd]) fun K hK => ?_
  unfold Oper.wp
  have he : (execOp a.eval o).run P w = .ok (.value (.slice ya (n + 1) yc)) w' := by
    unfold execOp
    simp only [ho, resolve, invoke, builtin, Sem.run_bind, Sem.run_pure, Result.andThen_ok, List.map_toArray, List.map_cons, List.map_nil, hs, hx, hr]
  rw [he]
  exact hK _ _ (h ya yc w' ho' hg hl)
theorem Try.infoI : (Try.prog.info? 3).map (fun i => (i.zero, i.size, i.bytes)) = some (some (.int .i64 0), 1, 8) := by kernel_rfl
theorem Try.infoLL : (Try.prog.info? 40).map (fun i => (i.zero, i.size, i.bytes)) = some (some (.slice none 0 0), 1, 24) := by kernel_rfl
end Go.Proofs.Ytggkajopfbokjaa
