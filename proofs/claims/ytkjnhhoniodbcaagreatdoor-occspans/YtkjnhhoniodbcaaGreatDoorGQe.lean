/-
  One text: QHq, QHs, QLw.
-/
import Derived.Test.YtkjnhhoniodbcaaGreatDoorGQd
import Derived.Maps.AppendAt
import Derived.ArgAppend
namespace Go.Proofs.YtkjnhhoniodbcaaGreatDoor
open Go.RowKit Plain
set_option linter.unusedVariables false
set_option linter.unusedSimpArgs false
set_option maxRecDepth 100000

theorem owns_headS {w : World} {B t s g n q cap : Nat} {xs zs : List Value} (h : w.ownsRow B t s (.slice (some ⟨g, 0, none⟩) (n + q) cap) (n + q) (xs ++ zs)) (hx : xs.length = n * s) : w.ownsRow B t s (.slice (some ⟨g, 0, none⟩) n cap) n xs := by
  obtain ⟨hl, ⟨hv, h0⟩ | ⟨g', cap', cur, hv, hb, hgg, hn, hm, hs, ht⟩⟩ := h
  · cases hv
  · injection hv with h1 h2 h3
    injection h1 with h1
    injection h1 with h1
    subst h1 h3
    refine ⟨hx, .inr ⟨g, cap, cur, rfl, hb, hgg, by omega, hm, hs, ?_⟩⟩
    have : (cur.toList.take ((n + q) * s)).take (n * s) = (xs ++ zs).take (n * s) := by rw [ht]
    rw [List.take_take, Nat.min_eq_left (Nat.mul_le_mul_right _ (by omega))] at this
    rw [this, ← hx, List.take_left]
theorem own_low {w : World} {B B' t s n : Nat} {v : Value} {xs : List Value} (h : w.ownsRow B t s v n xs) (hb : ∀ g, v.ownBlock = some g → B' ≤ g) : w.ownsRow B' t s v n xs := by
  obtain ⟨h1, h2 | ⟨g, cap, cur, e, h3, r⟩⟩ := h
  · exact ⟨h1, .inl h2⟩
  · exact ⟨h1, .inr ⟨g, cap, cur, e, hb g (by rw [e]; rfl), r⟩⟩
theorem own_bk {w : World} {B t s n c : Nat} {a : Option Addr} {xs : List Value} (h : w.ownsRow B t s (.slice a n c) n xs) {b : Nat} (e : (Value.slice a n c).ownBlock = some b) : Bk9 a b := by
  obtain ⟨h1, ⟨h2, _⟩ | ⟨g, cap, cur, e2, h3, r⟩⟩ := h
  · rw [h2] at e; cases e
  · rw [e2] at e
    injection e2 with e2 _ _
    subst e2
    injection e with e
    show some _ = some _
    rw [← e]
theorem bk_own {a : Option Addr} {n c b : Nat} (h : Bk9 a b) : (Value.slice a n c).ownBlock = some b := by
  rw [show a = some ⟨b, 0, none⟩ from h]; rfl
theorem ty_ne {w : World} {B B' t t' s s' n n' : Nat} {v v' : Value} {xs xs' : List Value} (h : w.ownsRow B t s v n xs) (h' : w.ownsRow B' t' s' v' n' xs') (ht : t ≠ t') {b : Nat} (e : v.ownBlock = some b) : v'.ownBlock ≠ some b := fun e' => by
  obtain ⟨_, ⟨rfl, _⟩ | ⟨g, cap, cur, rfl, _, hg, _⟩⟩ := h
  · cases e
  obtain ⟨_, ⟨rfl, _⟩ | ⟨g', cap', cur', rfl, _, hg', _⟩⟩ := h'
  · cases e'
  injection e with e
  injection e' with e'
  have e2 : g = b := e
  have e3 : g' = b := e'
  subst e2 e3
  rw [hg] at hg'
  injection hg' with hg'
  injection hg' with _ hg' _
  exact ht hg'
theorem own_setC {w : World} {B t s g n c : Nat} {xs : List Value} (h : w.ownsRow B t s (.slice (some ⟨g, 0, none⟩) n c) n xs) (j : Nat) (x : Value) : (w.setCell ⟨g, j, none⟩ x).ownsRow B t s (.slice (some ⟨g, 0, none⟩) n c) n (xs.set j x) := by
  obtain ⟨hl, ⟨h1, _⟩ | ⟨g', cap, cur, hv, hb, hg, hn, hm, hs, ht⟩⟩ := h
  · cases h1
  · injection hv with e1 _ e3
    injection e1 with e1
    injection e1 with e1 _ _
    subst e1 e3
    refine ⟨by rw [List.length_set]; exact hl, .inr ⟨g, c, cur.setIfInBounds j x, rfl, hb, ?_, hn, hm, by simpa using hs, ?_⟩⟩
    · show (w.heap.modify g _)[g]? = _
      rw [Array.getElem?_modify, if_pos rfl, hg]
      rfl
    · rw [Array.toList_setIfInBounds, List.take_set, ht]

/-- append of one, with what it did: in place, or in a new row and nothing else touched -/
theorem run_append_two {P : Program} (w : World) (base : Nat) (t ty e : TypeId) (i : TypeInfo) (z : Value) (size bytes : Nat) (ht : P.underlying t = some (.slice e)) (hi : P.info? e = some i) (hz : i.zero = some z)
    (hsize : i.size = size) (hby : i.bytes = bytes) (hzs : z.cells.size = size) (hsz : 0 < size)
    (v : Value) (n : Nat) (xs : List Value) (hown : w.ownsRow base e size v n xs)
    (a : Addr) (c : Nat) (us : List Value) (hl : us.length = 1 * size) (hnews : ∀ j x, us[j]? = some x → w.cell? (a.add j) = some x) (h1 : ∀ x ∈ us, x.oneCell' = true)
    (h63 : n + 1 ≤ maxLen) (hbytes : (n + 1) * bytes ≤ 140737488355328) (hbase : base ≤ w.heap.size) :
    ∃ v' w', (Builtin.append_ #[t, t] ty #[v, .slice (some a) 1 c]).run P w = .ok v' w' ∧ w'.ownsRow base e size v' (n + 1) (xs ++ us) ∧
      ((∃ g cap, v = .slice (some ⟨g, 0, none⟩) n cap ∧ v' = .slice (some ⟨g, 0, none⟩) (n + 1) cap ∧ w.grownBy w' (some g)) ∨ (v'.ownBlock = some w.heap.size ∧ w.grownBy w' none)) := by
  obtain ⟨v', w', hr, h2, h3, h4, h5⟩ := run_append_own_at (P := P) w base t ty e i z size bytes ht hi hz hsize hby hzs hsz v n xs hown a 1 c us hl hnews h1 h63 hbytes hbase
  refine ⟨v', w', hr, h2, ?_⟩
  have hsmall : n + 1 ≤ 9223372036854775807 := by simp only [maxLen] at h63; omega
  rcases hown.2 with ⟨rfl, rfl⟩ | ⟨g, cap, cur, rfl, hbg, hg, hnc, hcm, hcs, htake⟩
  · right
    refine ⟨?_, h3⟩
    rcases h5 with h5 | h5
    · rcases h2.2 with ⟨_, h0⟩ | ⟨g, cap, cur, rfl, _⟩
      · omega
      · simp [Value.ownBlock] at h5
    · exact h5
  · subst hby
    subst hsize
    by_cases hroom : n + 1 ≤ cap
    · left
      have hr2 := run_append_room (P := P) w t ty e i ht hi g n cap cur hg a 1 c us hl hnews h1 hroom (by rw [hl, hcs, ← Nat.add_mul]; exact Nat.mul_le_mul_right _ hroom)
      rw [hr] at hr2
      injection hr2 with e1 e2
      exact ⟨g, cap, rfl, e1, h3⟩
    · right
      have holds : ∀ j x, xs[j]? = some x → w.cell? ((⟨g, 0, none⟩ : Addr).add j) = some x := hown.cells (g := g) rfl
      have hr2 := run_append_grow (P := P) w t ty e i z ht hi hz ⟨g, 0, none⟩ n cap xs hown.1 holds a 1 c us hl hnews (by omega) (by omega) (growslice_fits (by omega) hbytes)
      rw [hr] at hr2
      injection hr2 with e1 e2
      rw [e1, e2]
      exact ⟨rfl, ⟨rfl, rfl, rfl, by simp, fun k hk _ => heap_alloc_old w.drew _ hk⟩⟩
theorem wpList_append_two {P : Program} {w : World} {ops : Array Oper} {rest : List Oper} {o : Oper} {a : Act} {Q : Exit → Act → World → Prop} (hgd : o.guard = none) (s x : Operand) (t : TypeId)
    (ho : o.op = .call { callee := .builtin .append, args := #[s, x], argTypes := #[t, t] })
    (base : Nat) (e : TypeId) (i : TypeInfo) (z : Value) (size bytes : Nat) (ht : P.underlying t = some (.slice e)) (hi : P.info? e = some i) (hz : i.zero = some z)
    (hsize : i.size = size) (hby : i.bytes = bytes) (hzs : z.cells.size = size) (hsz : 0 < size)
    (v : Value) (n : Nat) (xs : List Value) (hs : a.eval s = v) (hown : w.ownsRow base e size v n xs)
    (ad : Addr) (c : Nat) (us : List Value) (hx : a.eval x = .slice (some ad) 1 c) (hl : us.length = 1 * size) (hnews : ∀ j y, us[j]? = some y → w.cell? (ad.add j) = some y) (h1 : ∀ y ∈ us, y.oneCell' = true)
    (h63 : n + 1 ≤ maxLen) (hbytes : (n + 1) * bytes ≤ 140737488355328) (hbase : base ≤ w.heap.size)
    (h : ∀ v' w', w'.ownsRow base e size v' (n + 1) (xs ++ us) → ((∃ g cap, v = .slice (some ⟨g, 0, none⟩) n cap ∧ v' = .slice (some ⟨g, 0, none⟩) (n + 1) cap ∧ w.grownBy w' (some g)) ∨ (v'.ownBlock = some w.heap.size ∧ w.grownBy w' none)) → wpList P ops Q rest (a.put o.dst v') w') :
    wpList P ops Q (o :: rest) a w := by
  refine wpList_plain hgd fun K hK => ?_
  obtain ⟨v', w', hr, h2, h3⟩ := run_append_two (P := P) w base t o.type e i z size bytes ht hi hz hsize hby hzs hsz v n xs hown ad c us hl hnews h1 h63 hbytes hbase
  unfold Oper.wp execOp
  simp only [ho, resolve, invoke, builtin, Sem.run_bind, Sem.run_pure, Result.andThen_ok, List.map_toArray, List.map_cons, List.map_nil, hs, hx, hr]
  exact hK _ _ (h v' w' h2 h3)

/-- m lists of slots, apart -/
structure Sq (w : World) (B m : Nat) (A : Nat → Option Addr) (nn cc : Nat → Nat) (X : Nat → List Value) : Prop where
  own : ∀ i, i < m → w.ownsRow B 39 2 (.slice (A i) (nn i) (cc i)) (nn i) (X i)
  dis : ∀ i j, i < m → j < m → i ≠ j → ∀ b, Bk9 (A i) b → ¬ Bk9 (A j) b
theorem Sq.kept {w w' : World} {B m : Nat} {A : Nat → Option Addr} {nn cc : Nat → Nat} {X : Nat → List Value} {G : Nat → Prop} (h : Sq w B m A nn cc X) (k : Kept G w w') (hd : ∀ i, i < m → ∀ b, Bk9 (A i) b → ¬ G b) : Sq w' B m A nn cc X :=
  ⟨fun i hi => k.owns (h.own i hi) (fun b e => hd i hi b (own_bk (h.own i hi) e)), h.dis⟩
theorem Sq.keep {w w' : World} {B m : Nat} {A : Nat → Option Addr} {nn cc : Nat → Nat} {X : Nat → List Value} (h : Sq w B m A nn cc X) (k : Kept No w w') : Sq w' B m A nn cc X := h.kept k (fun _ _ _ _ h => h)
theorem Sq.lt {w : World} {B m : Nat} {A : Nat → Option Addr} {nn cc : Nat → Nat} {X : Nat → List Value} (h : Sq w B m A nn cc X) {i b : Nat} (hi : i < m) (hb : Bk9 (A i) b) : B ≤ b ∧ b < w.heap.size := (h.own i hi).lt b (bk_own hb)

def lsQ (A : Nat → Option Addr) (nn cc : Nat → Nat) (m : Nat) : List Value := (List.range m).map (fun i => .slice (A i) (nn i) (cc i))
theorem lsQ_get (A : Nat → Option Addr) (nn cc : Nat → Nat) {m i : Nat} (h : i < m) : (lsQ A nn cc m)[i]? = some (.slice (A i) (nn i) (cc i)) := by simp [lsQ, h]
def two {α : Type} (A : Nat → α) (m : Nat) (a0 a1 : α) : Nat → α := fun i => if i = m then a0 else if i = m + 1 then a1 else A i
theorem two_0 {α : Type} (A : Nat → α) (m : Nat) (a0 a1 : α) : two A m a0 a1 m = a0 := by simp [two]
theorem two_1 {α : Type} (A : Nat → α) (m : Nat) (a0 a1 : α) : two A m a0 a1 (m + 1) = a1 := by simp [two]
theorem two_o {α : Type} (A : Nat → α) (m : Nat) (a0 a1 : α) {i : Nat} (h : i < m) : two A m a0 a1 i = A i := by unfold two; rw [if_neg (by omega), if_neg (by omega)]
theorem lsQ_two (A : Nat → Option Addr) (nn cc : Nat → Nat) (m : Nat) (a0 a1 : Option Addr) (c0 c1 : Nat) : lsQ (two A m a0 a1) nn (two cc m c0 c1) (m + 2) = lsQ A nn cc m ++ [.slice a0 (nn m) c0, .slice a1 (nn (m + 1)) c1] := by
  have e : lsQ (two A m a0 a1) nn (two cc m c0 c1) m = lsQ A nn cc m := by
    unfold lsQ
    apply List.map_congr_left
    intro i hi
    rw [List.mem_range] at hi
    rw [two_o _ _ _ _ hi, two_o _ _ _ _ hi]
  rw [← e]
  unfold lsQ
  rw [List.range_succ, List.range_succ]
  simp [two]

/-- what runsHeld has when its lists are made -/
structure Hq (w : World) (B m : Nat) (v : Value) (A : Nat → Option Addr) (nn cc : Nat → Nat) (X : Nat → List Value) : Prop where
  row : w.ownsRow B 24 1 v m (lsQ A nn cc m)
  sh : Sq w B m A nn cc X

theorem Hq.add {w w' : World} {B m : Nat} {v v' : Value} {A : Nat → Option Addr} {nn cc : Nat → Nat} {X : Nat → List Value} {a0 a1 : Option Addr} {c0 c1 lo lo1 : Nat} (h : Hq w B m v A nn cc X) (hlo : ∀ i, i < m → ∀ b, Bk9 (A i) b → b < lo) (hB : B ≤ lo) (hB1 : lo ≤ lo1)
    (r0 : w.ownsRow lo 39 2 (.slice a0 (nn m) c0) (nn m) (X m)) (r1 : w.ownsRow lo1 39 2 (.slice a1 (nn (m + 1)) c1) (nn (m + 1)) (X (m + 1))) (hd : ∀ b, Bk9 a0 b → b < lo1)
    (ho : w'.ownsRow B 24 1 v' (m + 2) (lsQ A nn cc m ++ [.slice a0 (nn m) c0, .slice a1 (nn (m + 1)) c1])) (hk : Kept (fun j => v.ownBlock = some j) w w') : Hq w' B (m + 2) v' (two A m a0 a1) nn (two cc m c0 c1) X := by
  have lo0 : ∀ b, Bk9 a0 b → lo ≤ b := fun b hb => (r0.lt b (bk_own hb)).1
  have lo1' : ∀ b, Bk9 a1 b → lo1 ≤ b := fun b hb => (r1.lt b (bk_own hb)).1
  have cs : ∀ i, i < m + 2 → i < m ∨ i = m ∨ i = m + 1 := fun i hi => by omega
  have T : (24 : Nat) ≠ 39 := by decide
  refine ⟨by rw [lsQ_two]; exact ho, ⟨fun i hi => ?_, fun i j hi hj hne => ?_⟩⟩
  · rcases cs i hi with h1 | h1 | h1
    · rw [two_o _ _ _ _ h1, two_o _ _ _ _ h1]
      exact hk.owns (h.sh.own i h1) (fun b e e2 => ty_ne h.row (h.sh.own i h1) T e2 e)
    · rw [h1, two_0, two_0]
      exact hk.owns (own_low r0 (fun g e => Nat.le_trans hB (r0.lt g e).1)) (fun b e e2 => ty_ne h.row r0 T e2 e)
    · rw [h1, two_1, two_1]
      exact hk.owns (own_low r1 (fun g e => Nat.le_trans hB (Nat.le_trans hB1 (r1.lt g e).1))) (fun b e e2 => ty_ne h.row r1 T e2 e)
  · rcases cs i hi with h1 | h1 | h1 <;> rcases cs j hj with h2 | h2 | h2
    · rw [two_o _ _ _ _ h1, two_o _ _ _ _ h2]; exact h.sh.dis i j h1 h2 hne
    · rw [two_o _ _ _ _ h1, h2, two_0]; intro b hb hb2; have := hlo i h1 b hb; have := lo0 b hb2; omega
    · rw [two_o _ _ _ _ h1, h2, two_1]; intro b hb hb2; have := hlo i h1 b hb; have := lo1' b hb2; omega
    · rw [two_o _ _ _ _ h2, h1, two_0]; intro b hb hb2; have := hlo j h2 b hb2; have := lo0 b hb; omega
    · omega
    · rw [h1, h2, two_0, two_1]; intro b hb hb2; have := hd b hb; have := lo1' b hb2; omega
    · rw [two_o _ _ _ _ h2, h1, two_1]; intro b hb hb2; have := hlo j h2 b hb2; have := lo1' b hb; omega
    · rw [h1, h2, two_0, two_1]; intro b hb hb2; have := hd b hb2; have := lo1' b hb; omega
    · omega

/-- the lists, by the cells of the row that holds them -/
structure Lq (w : World) (g B m : Nat) (A : Nat → Option Addr) (nn cc : Nat → Nat) (X : Nat → List Value) : Prop where
  cells : ∀ i, i < m → w.cell? ⟨g, i, none⟩ = some (.slice (A i) (nn i) (cc i))
  sh : Sq w B m A nn cc X
  ne : ∀ i, i < m → ¬ Bk9 (A i) g
theorem Lq.keep {w w' : World} {g B m : Nat} {A : Nat → Option Addr} {nn cc : Nat → Nat} {X : Nat → List Value} (h : Lq w g B m A nn cc X) (k : Kept No w w') : Lq w' g B m A nn cc X :=
  ⟨fun i hi => k.cell (h.cells i hi) (fun h => h), h.sh.keep k, h.ne⟩
/-- list k turned -/
theorem Lq.upd {w w' : World} {g B m : Nat} {A : Nat → Option Addr} {nn cc : Nat → Nat} {X : Nat → List Value} (h : Lq w g B m A nn cc X) {k : Nat} (hk : k < m) {Y : List Value} (kk : Kept (fun j => Bk9 (A k) j) w w') (ho : w'.ownsRow B 39 2 (.slice (A k) (nn k) (cc k)) (nn k) Y) : Lq w' g B m A nn cc (fun i => if i = k then Y else X i) := by
  refine ⟨fun i hi => kk.cell (h.cells i hi) (h.ne k hk), ⟨fun i hi => ?_, h.sh.dis⟩, h.ne⟩
  by_cases e : i = k
  · subst e; simp only [if_pos]; exact ho
  · simp only [if_neg e]
    exact kk.owns (h.sh.own i hi) (fun b e2 e3 => h.sh.dis i k hi hk e b (own_bk (h.sh.own i hi) e2) e3)
theorem Lq.ext {w : World} {g B m : Nat} {A : Nat → Option Addr} {nn cc : Nat → Nat} {X Y : Nat → List Value} (h : Lq w g B m A nn cc X) (he : ∀ i, i < m → X i = Y i) : Lq w g B m A nn cc Y :=
  ⟨h.cells, ⟨fun i hi => by rw [← he i hi]; exact h.sh.own i hi, h.sh.dis⟩, h.ne⟩
theorem Lq.of {w : World} {B m g cap : Nat} {A : Nat → Option Addr} {nn cc : Nat → Nat} {X : Nat → List Value} (h : Hq w B m (.slice (some ⟨g, 0, none⟩) m cap) A nn cc X) : Lq w g B m A nn cc X := by
  refine ⟨fun i hi => ?_, h.sh, fun i hi hb => ty_ne h.row (h.sh.own i hi) (by decide) (b := g) rfl (bk_own hb)⟩
  have := h.row.cells (g := g) rfl i _ (lsQ_get A nn cc hi)
  rw [add_none, Nat.zero_add] at this
  exact this
/-- slot p of list i -/
theorem Lq.at' {w : World} {g B m : Nat} {A : Nat → Option Addr} {nn cc : Nat → Nat} {X : Nat → List Value} (h : Lq w g B m A nn cc X) {i p : Nat} (hi : i < m) (hp : p < nn i) : ∃ b u0 u1, A i = some ⟨b, 0, none⟩ ∧ (X i)[p * 2]? = some u0 ∧ (X i)[p * 2 + 1]? = some u1 ∧ w.cell? ⟨b, p * 2, none⟩ = some u0 ∧ w.cell? ⟨b, p * 2 + 1, none⟩ = some u1 ∧ (∀ k, w.frozen? ⟨b, k, none⟩ = false) ∧ cc i ≤ 9223372036854775807 ∧ nn i ≤ cc i := by
  have h0 := h.sh.own i hi
  have h1 := h0
  obtain ⟨hl, ⟨hv, h0⟩ | ⟨g', cap', cur, hv, hb, hgg, hn, hm, hs, ht⟩⟩ := h0
  · omega
  · injection hv with e1 _ e3
    have l0 : p * 2 < (X i).length := by omega
    have l1 : p * 2 + 1 < (X i).length := by omega
    refine ⟨g', (X i)[p * 2], (X i)[p * 2 + 1], e1, List.getElem?_eq_getElem l0, List.getElem?_eq_getElem l1, ?_, ?_, fun k => by simp [World.frozen?, hgg], by rw [e3]; exact hm, by rw [e3]; exact hn⟩
    · have := h1.cells (g := g') (by rw [e1]; rfl) (p * 2) _ (List.getElem?_eq_getElem l0)
      rw [add_none, Nat.zero_add] at this
      exact this
    · have := h1.cells (g := g') (by rw [e1]; rfl) (p * 2 + 1) _ (List.getElem?_eq_getElem l1)
      rw [add_none, Nat.zero_add] at this
      exact this
theorem Lq.cap {w : World} {g B m : Nat} {A : Nat → Option Addr} {nn cc : Nat → Nat} {X : Nat → List Value} (h : Lq w g B m A nn cc X) {i : Nat} (hi : i < m) : nn i ≤ cc i ∧ cc i ≤ 9223372036854775807 := by
  obtain ⟨hl, ⟨hv, h0⟩ | ⟨g', cap', cur, hv, hb, hgg, hn, hm, hs, ht⟩⟩ := h.sh.own i hi
  · injection hv with e1 e2 e3
    omega
  · injection hv with e1 _ e3
    exact ⟨by rw [e3]; exact hn, by rw [e3]; exact hm⟩
end Go.Proofs.YtkjnhhoniodbcaaGreatDoor

namespace Go.Proofs.YtkjnhhoniodbcaaGreatDoor
open Go.RowKit Plain
set_option linter.unusedVariables false
set_option linter.unusedSimpArgs false
set_option maxRecDepth 100000

theorem Tryz.infoSls : (Tryz.prog.info? 24).map (fun i => (i.zero, i.size, i.bytes)) = some (some (.slice none 0 0), 1, 24) := by kernel_rfl
def nnQ (N1 N0 : Nat) (i : Nat) : Nat := if i % 2 = 0 then N1 else N0
def xxQ (X1 X0 : List Value) (i : Nat) : List Value := if i % 2 = 0 then X1 else X0
/-- the first q slots of a list have this mark -/
def Mkd (q : Nat) (d : Int) (X : List Value) : Prop := ∀ p, p < q → X[p * 2]? = some (.int .i64 d) ∧ X[p * 2 + 1]? = some (.int .i64 0)
theorem Mkd.more {q : Nat} {d : Int} {X : List Value} (h : Mkd q d X) (hl : q * 2 + 1 < X.length) : Mkd (q + 1) d ((X.set (q * 2) (.int .i64 d)).set (q * 2 + 1) (.int .i64 0)) := fun p hp => by
  have l0 : q * 2 < X.length := by omega
  by_cases e : p = q
  · subst e
    refine ⟨?_, ?_⟩
    · rw [List.getElem?_set_ne (by omega), List.getElem?_set_self l0]
    · rw [List.getElem?_set_self (by simpa using hl)]
  · have := h p (by omega)
    refine ⟨?_, ?_⟩
    · rw [List.getElem?_set_ne (by omega), List.getElem?_set_ne (by omega)]; exact this.1
    · rw [List.getElem?_set_ne (by omega), List.getElem?_set_ne (by omega)]; exact this.2
theorem put_k3 (W : World) (g i j : Nat) (X Y : Value) : Kept (fun b => b = g) W ((W.setCell ⟨g, i, none⟩ X).setCell ⟨g, j, none⟩ Y) := Kept.setCell (F := fun k => k = g) (p := ⟨g, j, none⟩) (Kept.setCell (F := fun k => k = g) (p := ⟨g, i, none⟩) (Kept.refl _ W) (.inl rfl) _) (.inl rfl) _

/-- one more slot behind the list that is gone on with -/
theorem long_step {wo wr w6 : World} {B n q ck : Nat} {ak : Option Addr} {X zs us : List Value} {z v1 : Value} {blk : Obj}
    (hz : wr.ownsRow B 39 2 z (n + q) (X ++ zs)) (hzk : z = .slice ak (n + q) ck ∨ ∀ b, z.ownBlock = some b → wo.heap.size ≤ b) (ho : wr.ownsRow B 39 2 (.slice ak n ck) n X) (hk : Kept (fun j => Bk9 ak j) wo wr) (hlow : ∀ b, Bk9 ak b → b < wo.heap.size)
    (own1 : w6.ownsRow B 39 2 v1 (n + q + 1) (X ++ zs ++ us))
    (at1 : (∃ g cap, z = .slice (some ⟨g, 0, none⟩) (n + q) cap ∧ v1 = .slice (some ⟨g, 0, none⟩) (n + q + 1) cap ∧ (wr.alloc blk).grownBy w6 (some g)) ∨ (v1.ownBlock = some (wr.alloc blk).heap.size ∧ (wr.alloc blk).grownBy w6 none)) :
    ∃ zs', w6.ownsRow B 39 2 v1 (n + (q + 1)) (X ++ zs') ∧ (v1 = .slice ak (n + (q + 1)) ck ∨ ∀ b, v1.ownBlock = some b → wo.heap.size ≤ b) ∧ w6.ownsRow B 39 2 (.slice ak n ck) n X ∧ Kept (fun j => Bk9 ak j) wo w6 := by
  have hsz := hk.size
  have h1 : w6.ownsRow B 39 2 v1 (n + (q + 1)) (X ++ (zs ++ us)) := by rw [← List.append_assoc]; exact own1
  rcases at1 with ⟨g, cap, rfl, rfl, gr⟩ | ⟨hb, gr⟩
  · rcases hzk with e | e
    · injection e with e1 _ e3
      subst e1 e3
      exact ⟨zs ++ us, h1, .inl rfl, owns_headS h1 ho.1, ((hk.alloc _).grown gr (fun j e => .inl (by injection e with e; rw [e]; rfl)))⟩
    · have hg := e g rfl
      refine ⟨zs ++ us, h1, .inr (fun b hb => by injection hb with hb; have hb2 : g = b := hb; omega), ?_, (hk.alloc _).grown gr (fun j e => .inr (by injection e with e; omega))⟩
      have kk : Kept (fun j => j = g) wr w6 := ((Kept.refl _ wr).alloc _).grown gr (fun j e => .inl (by injection e with e; exact e.symm))
      exact kk.owns ho (fun b hb e2 => by have h3 := hlow b (own_bk ho hb); omega)
  · refine ⟨zs ++ us, h1, .inr (fun b hb2 => by rw [hb] at hb2; injection hb2 with hb2; rw [World.size_alloc] at hb2; omega), ?_, (hk.alloc _).grown gr (fun j e => by cases e)⟩
    have kk : Kept No wr w6 := ((Kept.refl _ wr).alloc _).grown gr (fun j e => by cases e)
    exact kk.owns ho (fun _ _ h => h)

set_option maxHeartbeats 16000000 in
theorem heldS_any {F : Nat → Prop} {a : Option Addr} {c : Nat} {xs : List Srv} (fr be : Int) (w : World) (hg : Gl w) (h : Sv w F a xs.length c xs) (hF : ∀ k, F k → k < w.heap.size) :
    Calls Tryz.prog 15 #[.slice a xs.length c, .int .i64 fr, .int .i64 be] w fun e w' => e = .returned (.bool true) ∧ Kept No w w' := by
  obtain ⟨i0, hi, hz0, hz1, hz2⟩ := info_parts Tryz.infoSls
  obtain ⟨j0, hj, hy0, hy1, hy2⟩ := info_parts Tryz.infoSo
  have HR1 : Hid (∀ W, Kept No w W → Calls Tryz.prog 5 #[.slice a xs.length c, .int .i64 fr, .int .i64 be] W fun e w' => ∃ v, e = .returned (.tuple #[v, .int .i64 (ruE xs fr be)]) ∧ Ow w' W.heap.size v (ruL xs fr be) ∧ Kept No W w') := fun W k => runs_all fr be W (hg.kept k) (h.keep k) (fun j e => Nat.lt_of_lt_of_le (hF j e) k.size)
  have HR0 : Hid (∀ W, Kept No w W → Calls Tryz.prog 5 #[.slice a xs.length c, .int .i64 0, .int .i64 64] W fun e w' => ∃ v, e = .returned (.tuple #[v, .int .i64 (ruE xs 0 64)]) ∧ Ow w' W.heap.size v (ruL xs 0 64) ∧ Kept No W w') := fun W k => runs_all 0 64 W (hg.kept k) (h.keep k) (fun j e => Nat.lt_of_lt_of_le (hF j e) k.size)
  have c1 := refRuns_any fr be w h hF
  have HQ2 : Hid (∀ W, Kept No w W → Calls Tryz.prog 6 #[.slice a xs.length c, .int .i64 0, .int .i64 64] W fun e w' => ∃ v, e = .returned (.tuple #[v, .int .i64 (ruE xs 0 64)]) ∧ Ow w' W.heap.size v (ruL xs 0 64) ∧ Kept No W w') := fun W k => refRuns_any 0 64 W (h.keep k) (fun j e => Nat.lt_of_lt_of_le (hF j e) k.size)
  have hN1 := ruL_len xs fr be
  have hN0 := ruL_len xs 0 64
  clear hg h hF
  generalize ruL xs fr be = L1 at *
  generalize ruE xs fr be = E1 at *
  generalize ruL xs 0 64 = L0 at *
  generalize ruE xs 0 64 = E0 at *
  generalize xs.length = L at *
  have HB1 : Hid (L1.length ≤ 65536 ∧ L0.length ≤ 65536) := ⟨hN1, hN0⟩
  clear hN1 hN0
  go_enter Tryz.func15, Tryz.ntmps15
  go_upto_region 2 with (go_at_call 6; refine c1.mono ?_; rintro e w1 ⟨v1, rfl, ho1, k1⟩; obtain ⟨pa, pc, rfl, np, _⟩ := Nq.of ho1; have H1 : Hid (Kept No w w1 ∧ Nq w1 (fun k => w.heap.size ≤ k ∧ k < w1.heap.size) pa L1.length pc (slF L1)) := ⟨k1, np⟩; clear k1 np c1 ho1)
  have c2 := HQ2.out w1 H1.out.1
  go_upto_region 3 with (go_at_call 6; refine c2.mono ?_; rintro e w2 ⟨v2, rfl, ho2, k2⟩; obtain ⟨qa, qc, rfl, nq, _⟩ := Nq.of ho2; have H2 : Hid (Kept No w w2 ∧ Nq w2 (fun k => w.heap.size ≤ k ∧ k < w1.heap.size) pa L1.length pc (slF L1) ∧ Nq w2 (fun k => w1.heap.size ≤ k ∧ k < w2.heap.size) qa L0.length qc (slF L0)) := ⟨H1.out.1.trans k2 (fun _ h => h.elim), H1.out.2.keep k2, nq⟩; clear k2 nq c2 H1 HQ2 ho2)
  go_wp2
  go_loopw [11, 12, 13, 14, 15, 16] (fun v y z1 z2 z3 z4 wr => ∃ (k : Nat) (A : Nat → Option Addr) (cc : Nat → Nat), k ≤ 2 ∧ y = .int .i64 k ∧ Hq wr w2.heap.size (2 * k) v A (nnQ L1.length L0.length) cc (xxQ (slL L1) (slL L0)) ∧ Kept No w2 wr) (fun _ y _ _ _ _ _ => 2 - (intOf y).toNat)
  case atStart => exact ⟨0, fun _ => none, fun _ => 0, by omega, rfl, ⟨⟨rfl, .inl ⟨rfl, rfl⟩⟩, ⟨fun i hi => by omega, fun i j hi => by omega⟩⟩, Kept.refl _ _⟩
  case round =>
    obtain ⟨k, A, cc, hk, rfl, hh, hkr⟩ := hrel
    have HW : Hid (Hq wr w2.heap.size (2 * k) u11 A (nnQ L1.length L0.length) cc (xxQ (slL L1) (slL L0)) ∧ Kept No w2 wr) := ⟨hh, hkr⟩
    clear hh hkr
    by_cases hlt : k < 2
    · have hltz : (k : Int) < 2 := by omega
      have r1 := HR1.out wr (H2.out.1.trans HW.out.2 (fun _ h => h.elim))
      go_wp2_with (first
        | (go_at_call 5; refine r1.mono ?_; rintro e wa ⟨va, rfl, rr, ka⟩; obtain ⟨ra, ca, rfl, _, _⟩ := Nq.of rr; have HA : Hid (Ow wa wr.heap.size (.slice ra L1.length ca) L1 ∧ Kept No wr wa) := ⟨rr, ka⟩; clear rr ka r1; have r0 := HR0.out wa ((H2.out.1.trans HW.out.2 (fun _ h => h.elim)).trans HA.out.2 (fun _ h => h.elim)))
        | (go_at_call 5; refine r0.mono ?_; rintro e wb ⟨vb, rfl, rr, kb⟩; obtain ⟨rb, cb, rfl, _, _⟩ := Nq.of rr; have HB : Hid (Ow wb wa.heap.size (.slice rb L0.length cb) L0 ∧ Kept No wa wb) := ⟨rr, kb⟩; clear rr kb r0)
        | (at_builtin; refine wpList_append_own _ rfl _ _ 64 rfl w2.heap.size 24 i0 (.slice none 0 0) 1 24 Tryz.underlying64 hi hz0 hz1 hz2 rfl (by decide) u11 (2 * k) (lsQ A (nnQ L1.length L0.length) cc (2 * k)) rfl (((HA.out.2.trans HB.out.2 (fun _ h => h.elim)).owns HW.out.1.row (fun _ _ h => h)).alloc _) ⟨wb.heap.size, 0, none⟩ 2 2 [.slice ra L1.length ca, .slice rb L0.length cb] rfl rfl (by
              intro j u hj
              have hb := World.alloc_heap_new wb (.cells #[.slice ra L1.length ca, .slice rb L0.length cb] 24)
              have hlt : j < 2 := (List.getElem?_eq_some_iff.1 hj).1
              rw [add_none, Nat.zero_add]
              simp only [World.cell?, hb]
              rcases j with _ | _ | j
              all_goals first | exact hj | (simp at hj ⊢; exact hj) | omega) (by intro u hu; simp at hu; rcases hu with rfl | rfl <;> rfl) (by unfold maxLen; omega) (by omega) (by have := HW.out.2.size; have := HA.out.2.size; have := HB.out.2.size; rw [World.size_alloc]; omega) ?_; intro v9 w10 own10 grow10 _))
      have HN : Hid (Hq w10 w2.heap.size (2 * (k + 1)) v9 (two A (2 * k) ra rb) (nnQ L1.length L0.length) (two cc (2 * k) ca cb) (xxQ (slL L1) (slL L0)) ∧ Kept No w2 w10) := by
        have n0 : nnQ L1.length L0.length (2 * k) = L1.length := by unfold nnQ; rw [if_pos (by omega)]
        have n1 : nnQ L1.length L0.length (2 * k + 1) = L0.length := by unfold nnQ; rw [if_neg (by omega)]
        have g0 : xxQ (slL L1) (slL L0) (2 * k) = slL L1 := by unfold xxQ; rw [if_pos (by omega)]
        have g1 : xxQ (slL L1) (slL L0) (2 * k + 1) = slL L0 := by unfold xxQ; rw [if_neg (by omega)]
        have kab := HA.out.2.trans HB.out.2 (fun _ h => h.elim)
        have kg : Kept (fun j => u11.ownBlock = some j) wb w10 := ((Kept.refl _ wb).alloc _).grown grow10 (fun j e => .inl e)
        have hsz := HW.out.2.size
        have hd0 : Hq wb w2.heap.size (2 * k) u11 A (nnQ L1.length L0.length) cc (xxQ (slL L1) (slL L0)) := ⟨kab.owns HW.out.1.row (fun _ _ h => h), HW.out.1.sh.keep kab⟩
        have oa : wa.ownsRow wr.heap.size 39 2 (.slice ra L1.length ca) L1.length (slL L1) := HA.out.1
        have ob : wb.ownsRow wa.heap.size 39 2 (.slice rb L0.length cb) L0.length (slL L0) := HB.out.1
        refine ⟨hd0.add (m := 2 * k) (lo := wr.heap.size) (lo1 := wa.heap.size) ?_ hsz HA.out.2.size ?_ ?_ ?_ ?_ kg, (HW.out.2.trans kab (fun _ h => h.elim)).trans kg (fun j e => .inr (HW.out.1.row.lt j e).1)⟩
        · intro i hi b hb
          exact (HW.out.1.sh.lt hi hb).2
        · rw [n0, g0]; exact HB.out.2.owns oa (fun _ _ h => h)
        · rw [n1, g1]; exact ob
        · intro b hb
          exact (oa.lt b (bk_own hb)).2
        · rw [n0, n1]; exact own10
      clear own10 grow10 HA HB HW
      go_roundw
      case rel => exact ⟨k + 1, _, _, by omega, by go_num, HN.out⟩
      case measure => simp [intOf]; omega
    · obtain rfl : k = 2 := by omega
      rcases owns_cells HW.out.1.row with ⟨_, h0⟩ | ⟨g, cap, rfl, hB, hgl, hc1, hc2, hcs, _⟩
      · omega
      have HL : Hid (Lq wr g w2.heap.size 4 A (nnQ L1.length L0.length) cc (xxQ (slL L1) (slL L0)) ∧ Kept No w2 wr ∧ w2.heap.size ≤ g) := ⟨Lq.of HW.out.1, HW.out.2, hB⟩
      clear HW hB hgl hcs hk HR1 HR0
      have hcm : cap ≤ 9223372036854775807 := hc2
      clear hc2
      generalize wr = w3 at *
      rw [show (2 * 2 : Nat) = 4 from rfl, show ((2 : Nat) : Int) = 2 from rfl]
      have HQ : Hid (Nq w3 (fun k => w.heap.size ≤ k ∧ k < w1.heap.size) pa L1.length pc (slF L1) ∧ Nq w3 (fun k => w1.heap.size ≤ k ∧ k < w2.heap.size) qa L0.length qc (slF L0)) := ⟨H2.out.2.1.keep HL.out.2.1, H2.out.2.2.keep HL.out.2.1⟩
      have HM1 : Hid (∀ i, i < 4 → i % 2 = 0 → ∀ W, Kept No w3 W → W.cell? ⟨g, i, none⟩ = some (.slice (A i) L1.length (cc i)) ∧ Calls Tryz.prog 7 #[.slice (A i) L1.length (cc i), .slice pa L1.length pc] W fun e w' => e = .returned (.bool true) ∧ Kept No W w') := fun i hi h2 W k => by
        have n0 : nnQ L1.length L0.length i = L1.length := by unfold nnQ; rw [if_pos h2]
        have g0 : xxQ (slL L1) (slL L0) i = slL L1 := by unfold xxQ; rw [if_pos h2]
        have hc := HL.out.1.cells i hi
        have hr := (HL.out.1.sh.keep k).own i hi
        rw [n0] at hc hr
        rw [g0] at hr
        have ho : Ow W w2.heap.size (.slice (A i) L1.length (cc i)) L1 := hr
        obtain ⟨a', c', e', nq', _⟩ := Nq.of ho
        injection e' with e1 _ e3
        subst e1 e3
        exact ⟨k.cell hc (fun h => h), sameS_yes W nq' (HQ.out.1.keep k)⟩
      have HM0 : Hid (∀ i, i < 4 → i % 2 = 1 → ∀ W, Kept No w3 W → W.cell? ⟨g, i, none⟩ = some (.slice (A i) L0.length (cc i)) ∧ Calls Tryz.prog 7 #[.slice (A i) L0.length (cc i), .slice qa L0.length qc] W fun e w' => e = .returned (.bool true) ∧ Kept No W w') := fun i hi h2 W k => by
        have n0 : nnQ L1.length L0.length i = L0.length := by unfold nnQ; rw [if_neg (by omega)]
        have g0 : xxQ (slL L1) (slL L0) i = slL L0 := by unfold xxQ; rw [if_neg (by omega)]
        have hc := HL.out.1.cells i hi
        have hr := (HL.out.1.sh.keep k).own i hi
        rw [n0] at hc hr
        rw [g0] at hr
        have ho : Ow W w2.heap.size (.slice (A i) L0.length (cc i)) L0 := hr
        obtain ⟨a', c', e', nq', _⟩ := Nq.of ho
        injection e' with e1 _ e3
        subst e1 e3
        exact ⟨k.cell hc (fun h => h), sameS_yes W nq' (HQ.out.2.keep k)⟩
      go_wp2
      go_loopw [17] (fun x wr => ∃ k : Nat, k ≤ 4 ∧ x = .int .i64 k ∧ Kept No w3 wr) (fun x _ => 4 - (intOf x).toNat)
      case atStart => exact ⟨0, by omega, rfl, Kept.refl _ _⟩
      case round =>
        obtain ⟨k, hk, rfl, hkr⟩ := hrel
        have HK : Hid (Kept No w3 wr) := hkr
        clear hkr
        have hks : (k = 0 ∨ k = 2) ∨ (k = 1 ∨ k = 3) ∨ k = 4 := by omega
        rcases hks with hks | hks | rfl
        · obtain ⟨cl, sm⟩ := HM1.out k (by omega) (by omega) wr HK.out
          rcases hks with rfl | rfl
          · go_wp2_with (go_at_call 7; refine sm.mono ?_; rintro e w5 ⟨rfl, k5⟩; have K5 : Hid (Kept No w3 w5) := HK.out.trans k5 (fun _ h => h.elim); clear k5 sm)
            go_roundw
            case rel => exact ⟨1, by omega, rfl, K5.out⟩
            case measure => simp [intOf]
          · go_wp2_with (go_at_call 7; refine sm.mono ?_; rintro e w5 ⟨rfl, k5⟩; have K5 : Hid (Kept No w3 w5) := HK.out.trans k5 (fun _ h => h.elim); clear k5 sm)
            go_roundw
            case rel => exact ⟨3, by omega, rfl, K5.out⟩
            case measure => simp [intOf]
        · obtain ⟨cl, sm⟩ := HM0.out k (by omega) (by omega) wr HK.out
          rcases hks with rfl | rfl
          · go_wp2_with (go_at_call 7; refine sm.mono ?_; rintro e w5 ⟨rfl, k5⟩; have K5 : Hid (Kept No w3 w5) := HK.out.trans k5 (fun _ h => h.elim); clear k5 sm)
            go_roundw
            case rel => exact ⟨2, by omega, rfl, K5.out⟩
            case measure => simp [intOf]
          · go_wp2_with (go_at_call 7; refine sm.mono ?_; rintro e w5 ⟨rfl, k5⟩; have K5 : Hid (Kept No w3 w5) := HK.out.trans k5 (fun _ h => h.elim); clear k5 sm)
            go_roundw
            case rel => exact ⟨4, by omega, rfl, K5.out⟩
            case measure => simp [intOf]
        · have HL4 : Hid (Lq wr g w2.heap.size 4 A (nnQ L1.length L0.length) cc (xxQ (slL L1) (slL L0)) ∧ Kept No w wr) := ⟨HL.out.1.keep HK.out, (H2.out.1.trans HL.out.2.1 (fun _ h => h.elim)).trans HK.out (fun _ h => h.elim)⟩
          have HSZ : Hid (w.heap.size ≤ w2.heap.size ∧ w2.heap.size ≤ g) := ⟨H2.out.1.size, HL.out.2.2⟩
          have HNN : Hid (∀ i, nnQ L1.length L0.length i ≤ 65536) := fun i => by have := HB1.out; unfold nnQ; split <;> omega
          clear HL HK HM1 HM0 HQ H2 hk HB1
          generalize nnQ L1.length L0.length = nn at *
          generalize xxQ (slL L1) (slL L0) = X0 at *
          generalize wr = w4 at *
          go_wp2
          rw [show ((4 : Nat) : Int) = 4 from rfl]
          go_loopw [18, 19] (fun x y wr => ∃ (k : Nat) (X : Nat → List Value), k ≤ 4 ∧ x = .int .i64 k ∧ Lq wr g w2.heap.size 4 A nn cc X ∧ (∀ j, j < k → Mkd (nn j) (-1 - (j : Int)) (X j)) ∧ Kept No w wr) (fun x _ _ => 4 - (intOf x).toNat)
          case atStart => exact ⟨0, X0, by omega, rfl, HL4.out.1, fun j hj => by omega, HL4.out.2⟩
          case round =>
            obtain ⟨k, X, hk, rfl, hln, hmk, hkr⟩ := hrel
            have HK : Hid (Lq wr g w2.heap.size 4 A nn cc X ∧ (∀ j, j < k → Mkd (nn j) (-1 - (j : Int)) (X j)) ∧ Kept No w wr) := ⟨hln, hmk, hkr⟩
            clear hln hmk hkr
            by_cases hlt4 : k < 4
            · have hlz : (k : Int) < 4 := by omega
              have cl := HK.out.1.cells k hlt4
              have hnk := HNN.out k
              have HE : Hid (k ≤ 4) := hk
              have hcp := (HK.out.1.cap hlt4)
              obtain ⟨n, hn⟩ : ∃ n : Nat, nn k = n := ⟨_, rfl⟩
              obtain ⟨ck, hck⟩ : ∃ n : Nat, cc k = n := ⟨_, rfl⟩
              rw [hn, hck] at cl
              rw [hn] at hnk
              rw [hck, hn] at hcp
              obtain ⟨hcp1, hcp2⟩ := hcp
              generalize wr = wo at *
              clear hk
              go_wp2
              go_loopw [19] (fun y wr => ∃ (q : Nat) (X : Nat → List Value), q ≤ n ∧ y = .int .i64 q ∧ Lq wr g w2.heap.size 4 A nn cc X ∧ (∀ j, j < k → Mkd (nn j) (-1 - (j : Int)) (X j)) ∧ Mkd q (-1 - (k : Int)) (X k) ∧ Kept No w wr) (fun y _ => n - (intOf y).toNat)
              case atStart => exact ⟨0, X, Nat.zero_le _, rfl, HK.out.1, HK.out.2.1, fun p hp => by omega, HK.out.2.2⟩
              case round =>
                obtain ⟨q, Y, hq, rfl, hln, hmk, hmq, hkr⟩ := hrel
                have cl' := hln.cells k hlt4
                rw [hn, hck] at cl'
                by_cases hqn : q < n
                · have hqz : (q : Int) < (n : Int) := by omega
                  obtain ⟨b, u0, u1, hb, x0, x1, e0, e1, hfz, _, _⟩ := hln.at' hlt4 (p := q) (by rw [hn]; exact hqn)
                  have z0 := hfz (q * 2)
                  have z1 := hfz (q * 2 + 1)
                  have HX : Hid (∃ Z : Nat → List Value, Lq ((wr.setCell ⟨b, q * 2, none⟩ (.int .i64 (-1 - (k : Int)))).setCell ⟨b, q * 2 + 1, none⟩ (.int .i64 0)) g w2.heap.size 4 A nn cc Z ∧ (∀ j, j < k → Mkd (nn j) (-1 - (j : Int)) (Z j)) ∧ Mkd (q + 1) (-1 - (k : Int)) (Z k) ∧ Kept No w ((wr.setCell ⟨b, q * 2, none⟩ (.int .i64 (-1 - (k : Int)))).setCell ⟨b, q * 2 + 1, none⟩ (.int .i64 0))) := by
                    have kk := put_k3 wr b (q * 2) (q * 2 + 1) (.int .i64 (-1 - (k : Int))) (.int .i64 0)
                    have ho := hln.sh.own k hlt4
                    rw [hb] at ho
                    have ho2 := own_setC (own_setC ho (q * 2) (.int .i64 (-1 - (k : Int)))) (q * 2 + 1) (.int .i64 0)
                    have hl : q * 2 + 1 < (Y k).length := (List.getElem?_eq_some_iff.1 x1).1
                    refine ⟨_, hln.upd hlt4 (kk.mono (fun j e => by rw [e]; exact hb)) (by rw [hb]; exact ho2), fun j hj => ?_, ?_, hkr.trans kk (fun j e => .inr (by rw [e]; have := (hln.sh.lt hlt4 hb).1; have := HSZ.out.1; omega))⟩
                    · simp only [if_neg (show ¬ j = k by omega)]
                      exact hmk j hj
                    · simp only [if_pos]
                      exact hmq.more hl
                  rw [hb] at cl'
                  clear hln hkr hmk hmq hfz x0 x1 cl
                  go_wp2
                  go_roundw
                  case rel => obtain ⟨Z, z⟩ := HX.out; exact ⟨q + 1, Z, by omega, by go_num, z⟩
                  case measure => simp [intOf]; omega
                · have hqz : ¬ (q : Int) < (n : Int) := by omega
                  obtain rfl : q = n := by omega
                  have HX : Hid (Lq wr g w2.heap.size 4 A nn cc Y ∧ (∀ j, j < k + 1 → Mkd (nn j) (-1 - (j : Int)) (Y j)) ∧ Kept No w wr) := by
                    refine ⟨hln, fun j hj => ?_, hkr⟩
                    by_cases e1 : j = k
                    · subst e1; rw [hn]; exact hmq
                    · exact hmk j (by omega)
                  clear hln hkr hmk hmq cl
                  go_wp2
                  go_roundw
                  case rel => exact ⟨k + 1, Y, by omega, by go_num, HX.out⟩
                  case measure => simp [intOf]; omega
            · obtain rfl : k = 4 := by omega
              clear HL4 hk
              generalize wr = w5 at *
              rw [show ((4 : Nat) : Int) = 4 from rfl]
              go_wp2
              go_loopw [20, 21, 22, 23] (fun x y z z2 wr => ∃ (k : Nat) (T : Int), k ≤ 4 ∧ x = .int .i64 T ∧ 64 * (k : Int) ≤ T ∧ T ≤ 4398046511040 * k ∧ y = .int .i64 k ∧ Lq wr g w2.heap.size 4 A nn cc X ∧ Kept No w wr) (fun _ y _ _ _ => 4 - (intOf y).toNat)
              case atStart => exact ⟨0, 0, by omega, rfl, by omega, by omega, rfl, HK.out.1, HK.out.2.2⟩
              case round =>
                have HMK : Hid (∀ j, j < 4 → Mkd (nn j) (-1 - (j : Int)) (X j)) := HK.out.2.1
                clear HK
                obtain ⟨k, T, hk, rfl, hT1, hT2, rfl, hln, hkr⟩ := hrel
                by_cases hlt4 : k < 4
                · have hlz : (k : Int) < 4 := by omega
                  have cl := hln.cells k hlt4
                  have hnk := HNN.out k
                  obtain ⟨hcp1, hcp2⟩ := (hln.cap hlt4)
                  have HV : Hid (Lq wr g w2.heap.size 4 A nn cc X ∧ Kept No w wr ∧ k < 4) := ⟨hln, hkr, hlt4⟩
                  clear hln hkr
                  obtain ⟨n, hn⟩ : ∃ n : Nat, nn k = n := ⟨_, rfl⟩
                  obtain ⟨ck, hck⟩ : ∃ n : Nat, cc k = n := ⟨_, rfl⟩
                  obtain ⟨ak, hak⟩ : ∃ n, A k = n := ⟨_, rfl⟩
                  rw [hn, hck, hak] at cl
                  rw [hn] at hnk hcp1
                  rw [hck] at hcp1 hcp2
                  have HO : Hid (wr.ownsRow w2.heap.size 39 2 (.slice ak n ck) n (X k) ∧ w2.heap.size ≤ wr.heap.size ∧ ∀ b, Bk9 ak b → b < wr.heap.size) := by
                    have h1 := HV.out.1.sh.own k hlt4
                    rw [hn, hck, hak] at h1
                    have h2 := (HV.out.1.cells k hlt4)
                    have h3 := World.block_lt_of_cell? _ _ h2
                    exact ⟨h1, by have := HSZ.out.2; have h4 : g < wr.heap.size := h3; omega, fun b hb => (h1.lt b (bk_own hb)).2⟩
                  generalize wr = wo at *
                  have HEQ : Hid (nn k = n ∧ cc k = ck ∧ A k = ak) := ⟨hn, hck, hak⟩
                  clear hn hck hak
                  go_wp2
                  go_loopw [22, 23] (fun z y wr => ∃ (q : Nat) (zs : List Value), q ≤ 64 ∧ y = .int .i64 q ∧ wr.ownsRow w2.heap.size 39 2 z (n + q) (X k ++ zs) ∧ (z = .slice ak (n + q) ck ∨ ∀ b, z.ownBlock = some b → wo.heap.size ≤ b) ∧ wr.ownsRow w2.heap.size 39 2 (.slice ak n ck) n (X k) ∧ Kept (fun j => Bk9 ak j) wo wr) (fun _ y _ => 64 - (intOf y).toNat)
                  case atStart => exact ⟨0, [], Nat.zero_le _, rfl, by rw [List.append_nil, Nat.add_zero]; exact HO.out.1, .inl rfl, HO.out.1, Kept.refl _ _⟩
                  case round =>
                    obtain ⟨q, zs, hq, rfl, hz, hzk, ho, hkr⟩ := hrel
                    by_cases hq64 : q < 64
                    · have hqz : (q : Int) < 64 := by omega
                      have HY : Hid (wr.ownsRow w2.heap.size 39 2 u22 (n + q) (X k ++ zs) ∧ (u22 = .slice ak (n + q) ck ∨ ∀ b, u22.ownBlock = some b → wo.heap.size ≤ b) ∧ wr.ownsRow w2.heap.size 39 2 (.slice ak n ck) n (X k) ∧ Kept (fun j => Bk9 ak j) wo wr) := ⟨hz, hzk, ho, hkr⟩
                      clear hz hzk ho hkr
                      go_wp2_with (at_builtin; go_loud (refine wpList_append_two rfl _ _ 24 rfl w2.heap.size 39 j0 (.agg #[.int .i64 0, .int .i64 0]) 2 16 Tryz.underlying24 hj hy0 hy1 hy2 rfl (by decide) u22 (n + q) (X k ++ zs) rfl (HY.out.1.alloc _) ⟨wr.heap.size, 0, none⟩ 1 [.int .i64 (100 + (k : Int)), .int .i64 0] rfl rfl (cell_twoI wr _ _ _) (two_one _ _) (by unfold maxLen; omega) (by omega) (by have := HO.out.2; have := HY.out.2.2.2.size; rw [World.size_alloc]; omega) ?_; intro v1 w6 own1 at1))
                      have HN : Hid (∃ zs', w6.ownsRow w2.heap.size 39 2 v1 (n + (q + 1)) (X k ++ zs') ∧ (v1 = .slice ak (n + (q + 1)) ck ∨ ∀ b, v1.ownBlock = some b → wo.heap.size ≤ b) ∧ w6.ownsRow w2.heap.size 39 2 (.slice ak n ck) n (X k) ∧ Kept (fun j => Bk9 ak j) wo w6) := long_step HY.out.1 HY.out.2.1 HY.out.2.2.1 HY.out.2.2.2 HO.out.2.2 own1 at1
                      clear own1 at1
                      go_wp2
                      go_roundw
                      case rel => obtain ⟨zs', z⟩ := HN.out; exact ⟨q + 1, zs', by omega, by go_num, z⟩
                      case measure => simp [intOf]; omega
                    · obtain rfl : q = 64 := by omega
                      obtain ⟨zc, gg, rfl, hg1, hg3⟩ : ∃ (zc : Nat) (gg : Nat), u22 = .slice (some ⟨gg, 0, none⟩) (n + 64) zc ∧ n + 64 ≤ zc ∧ zc ≤ 9223372036854775807 := by
                        obtain ⟨_, ⟨_, h0⟩ | ⟨g', cap', cur, hv, hb, hgg, hn, hm, hs, ht⟩⟩ := hz
                        · omega
                        · exact ⟨cap', g', hv, hn, hm⟩
                      have HX : Hid (Lq wr g w2.heap.size 4 A nn cc X ∧ Kept No w wr) := by
                        obtain ⟨e1, e2, e3⟩ := HEQ.out
                        subst e1 e2 e3
                        exact ⟨(HV.out.1.upd HV.out.2.2 hkr ho).ext (fun i hi => by by_cases e : i = k <;> simp [e]), HV.out.2.1.trans hkr (fun j e => .inr (by have := (HV.out.1.sh.lt HV.out.2.2 e).1; have := HSZ.out.1; omega))⟩
                      clear hz ho hkr hzk HV HO HEQ
                      rw [show ((64 : Nat) : Int) = 64 from rfl]
                      go_wp2
                      go_roundw
                      case rel => exact ⟨k + 1, T + ((n : Int) + 64), by omega, by go_num, by omega, by omega, by go_num, HX.out⟩
                      case measure => simp [intOf]; omega
                · obtain rfl : k = 4 := by omega
                  have HL6 : Hid (Lq wr g w2.heap.size 4 A nn cc X ∧ Kept No w wr) := ⟨hln, hkr⟩
                  clear hln hkr hk
                  generalize wr = w6 at *
                  rw [show ((4 : Nat) : Int) = 4 from rfl]
                  have hT3 : (256 : Int) ≤ T := by omega
                  have hT4 : T ≤ 17592186044160 := by omega
                  clear hT1 hT2
                  go_wp2
                  go_loopw [24, 25] (fun x y wr => ∃ k : Nat, k ≤ 4 ∧ x = .int .i64 k ∧ Kept No w6 wr) (fun x _ _ => 4 - (intOf x).toNat)
                  case atStart => exact ⟨0, by omega, rfl, Kept.refl _ _⟩
                  case round =>
                    obtain ⟨k, hk, rfl, hkr⟩ := hrel
                    have HK : Hid (Kept No w6 wr) := hkr
                    clear hkr
                    by_cases hlt4 : k < 4
                    · have hlz : (k : Int) < 4 := by omega
                      have cl := (HL6.out.1.keep HK.out).cells k hlt4
                      have hnk := HNN.out k
                      obtain ⟨hcp1, hcp2⟩ := (HL6.out.1.cap hlt4)
                      have HV : Hid (∀ q, q < nn k → ∃ b, A k = some ⟨b, 0, none⟩ ∧ w6.cell? ⟨b, q * 2, none⟩ = some (.int .i64 (-1 - (k : Int))) ∧ w6.cell? ⟨b, q * 2 + 1, none⟩ = some (.int .i64 0)) := fun q hq => by
                        obtain ⟨b, u0, u1, hb, x0, x1, e0, e1, _⟩ := HL6.out.1.at' hlt4 hq
                        obtain ⟨m0, m1⟩ := HMK.out k hlt4 q hq
                        rw [m0] at x0; rw [m1] at x1
                        injection x0 with x0; injection x1 with x1
                        subst x0 x1
                        exact ⟨b, hb, e0, e1⟩
                      have HC : Hid (w6.cell? ⟨g, k, none⟩ = some (.slice (A k) (nn k) (cc k))) := HL6.out.1.cells k hlt4
                      generalize wr = wo at *
                      generalize nn k = n at *
                      generalize A k = ak at *
                      generalize cc k = ck at *
                      go_wp2
                      go_loopw [25] (fun y wr => ∃ q : Nat, q ≤ n ∧ y = .int .i64 q ∧ Kept No w6 wr) (fun y _ => n - (intOf y).toNat)
                      case atStart => exact ⟨0, Nat.zero_le _, rfl, HK.out⟩
                      case round =>
                        obtain ⟨q, hq, rfl, hkr⟩ := hrel
                        have HK2 : Hid (Kept No w6 wr) := hkr
                        have cl' := hkr.cell HC.out (fun h => h)
                        clear hkr cl
                        by_cases hqn : q < n
                        · have hqz : (q : Int) < (n : Int) := by omega
                          obtain ⟨b, rfl, d0, d1⟩ := HV.out q hqn
                          have e0 := HK2.out.cell d0 (fun h => h)
                          have e1 := HK2.out.cell d1 (fun h => h)
                          clear d0 d1 HK HV HC HL6
                          have hEQ := fun w => eqSl w (-1 - (k : Int)) 0
                          go_wp2
                          go_roundw
                          case rel => exact ⟨q + 1, by omega, by go_num, HK2.out⟩
                          case measure => simp [intOf]; omega
                        · have hqz : ¬ (q : Int) < (n : Int) := by omega
                          go_wp2
                          go_roundw
                          case rel => exact ⟨k + 1, by omega, by go_num, HK2.out⟩
                          case measure => simp [intOf]; omega
                    · obtain rfl : k = 4 := by omega
                      rw [show ((4 : Nat) : Int) = 4 from rfl]
                      go_wp2
                      go_ret
                      exact ⟨rfl, HL6.out.2.trans HK.out (fun _ h => h.elim)⟩
end Go.Proofs.YtkjnhhoniodbcaaGreatDoor

namespace Go.Proofs.YtkjnhhoniodbcaaGreatDoor
open Go.RowKit Plain
set_option linter.unusedVariables false
set_option linter.unusedSimpArgs false
set_option maxRecDepth 100000

set_option maxHeartbeats 32000000 in
theorem spans_any {F : Nat → Prop} {a : Option Addr} {c : Nat} {xs : List Srv} (p fr be : Int) (w : World) (hg : Gl w) (h : Sv w F a xs.length c xs) (hF : ∀ k, F k → k < w.heap.size) (hn : xs.length * 32 ≤ 140737488351232) :
    Calls Tryz.prog 3 #[.slice a xs.length c, .int .i64 p, .int .i64 fr, .int .i64 be] w fun e w' => e = .returned (.bool true) ∧ Below w.heap.size w w' := by
  have HS : Hid (Gl w ∧ Sv w F a xs.length c xs ∧ (∀ k, F k → k < w.heap.size) ∧ xs.length * 32 ≤ 140737488351232) := ⟨hg, h, hF, hn⟩
  have c0 := marked_any w h hn
  clear hg h hF hn
  go_enter Tryz.func3, Tryz.ntmps3
  go_upto_region 2 with (go_at_call 4; refine c0.mono ?_; rintro e w1 ⟨g, cm, rfl, g1, g2, mk, k1⟩; have H1 : Hid (w.heap.size ≤ g ∧ g < w1.heap.size ∧ Mk w1 g xs.length cm xs ∧ Kept No w w1) := ⟨g1, g2, mk, k1⟩; clear g1 g2 mk k1 c0)
  have HG : Hid (∀ W, Kept No w1 W → Gl W ∧ Sv W (fun k => k = g) (some ⟨g, 0, none⟩) xs.length cm xs ∧ (∀ k, k = g → k < W.heap.size) ∧ Mk W g xs.length cm xs ∧ Sv W F a xs.length c xs ∧ (∀ k, F k → k < W.heap.size) ∧ Kept No w W) := fun W k => by
    have kw := H1.out.2.2.2.trans k (fun _ h => h.elim)
    have mk := H1.out.2.2.1.kept k (fun h => h)
    exact ⟨HS.out.1.kept kw, mk.sv, fun j e => by rw [e]; exact Nat.lt_of_lt_of_le H1.out.2.1 k.size, mk, HS.out.2.1.keep kw, fun j e => Nat.lt_of_lt_of_le (HS.out.2.2.1 j e) kw.size, kw⟩
  have HRU : Hid (∀ W, Kept No w1 W → Calls Tryz.prog 5 #[.slice (some ⟨g, 0, none⟩) xs.length cm, .int .i64 fr, .int .i64 be] W fun e w' => ∃ v, e = .returned (.tuple #[v, .int .i64 (ruE xs fr be)]) ∧ Ow w' W.heap.size v (ruL xs fr be) ∧ Kept No W w') := fun W k => runs_all fr be W (HG.out W k).1 (HG.out W k).2.1 (HG.out W k).2.2.1
  have HSU : Hid (∀ W, Kept No w1 W → Calls Tryz.prog 8 #[.slice (some ⟨g, 0, none⟩) xs.length cm, .int .i64 p, .int .i64 fr, .int .i64 be] W fun e w' => e = .returned (.tuple #[.int .i64 (suV xs p fr be), .int .i64 (suE xs p fr be)]) ∧ Kept No W w') := fun W k => supply_all p fr be W (HG.out W k).1 (HG.out W k).2.1 (HG.out W k).2.2.1
  have HNX : Hid (∀ W, Kept No w1 W → Calls Tryz.prog 10 #[.slice (some ⟨g, 0, none⟩) xs.length cm, .int .i64 p, .int .i64 fr] W fun e w' => e = .returned (.tuple #[.int .i64 (nxV xs p fr), .int .i64 (nxE xs p fr)]) ∧ Kept No W w') := fun W k => next_all p fr W (HG.out W k).1 (HG.out W k).2.1 (HG.out W k).2.2.1
  have R2 : Hid (∀ W, Kept No w1 W → Calls Tryz.prog 6 #[.slice a xs.length c, .int .i64 fr, .int .i64 be] W fun e w' => ∃ v, e = .returned (.tuple #[v, .int .i64 (ruE xs fr be)]) ∧ Ow w' W.heap.size v (ruL xs fr be) ∧ Kept No W w') := fun W k => refRuns_any fr be W (HG.out W k).2.2.2.2.1 (HG.out W k).2.2.2.2.2.1
  have S2 : Hid (∀ W, Kept No w1 W → Calls Tryz.prog 9 #[.slice a xs.length c, .int .i64 p, .int .i64 fr, .int .i64 be] W fun e w' => e = .returned (.tuple #[.int .i64 (suV xs p fr be), .int .i64 (suE xs p fr be)]) ∧ Kept No W w') := fun W k => refSupply_any p fr be W (HG.out W k).2.2.2.2.1 (HG.out W k).2.2.2.2.2.1
  have N2 : Hid (∀ W, Kept No w1 W → Calls Tryz.prog 11 #[.slice a xs.length c, .int .i64 p, .int .i64 fr] W fun e w' => e = .returned (.tuple #[.int .i64 (nxV xs p fr), .int .i64 (nxE xs p fr)]) ∧ Kept No W w') := fun W k => refNext_any p fr W (HG.out W k).2.2.2.2.1 (HG.out W k).2.2.2.2.2.1
  have HLF : Hid (∀ W, Kept No w1 W → Calls Tryz.prog 12 #[.slice (some ⟨g, 0, none⟩) xs.length cm, .slice a xs.length c] W fun e w' => e = .returned (.bool true) ∧ Kept No W w') := fun W k => left_any W (HG.out W k).2.2.2.2.1 (HG.out W k).2.2.2.1
  have HFW : Hid (∀ W, Kept No w1 W → Calls Tryz.prog 14 #[.slice a xs.length c] W fun e w' => ∃ (ys : List Srv) (ya : Option Addr) (yc : Nat), e = .returned (.slice ya ys.length yc) ∧ (∀ W', Kept No w' W' → Calls Tryz.prog 13 #[.slice ya ys.length yc, .int .i64 p, .int .i64 fr, .int .i64 be] W' fun e w' => e = .returned (.bool true) ∧ Kept No W' w') ∧ (∀ W', Kept No w' W' → Calls Tryz.prog 15 #[.slice ya ys.length yc, .int .i64 fr, .int .i64 be] W' fun e w' => e = .returned (.bool true) ∧ Kept No W' w') ∧ Kept No W w') := fun W k => (few_any W (HG.out W k).2.2.2.2.1).mono (by
      rintro e w' ⟨ys, ya, yc, rfl, hl, hs, hk⟩
      have gl := (HG.out W k).1.kept hk
      have hF := (HG.out W k).2.2.2.2.2.1
      have hn := HS.out.2.2.2
      have hn2 : ys.length * 32 ≤ 140737488351232 := by omega
      exact ⟨ys, ya, yc, rfl, fun W' k' => placedS_any p fr be W' (gl.kept k') (hs.keep k') (fun j e => Nat.lt_of_lt_of_le (hF j e) (Nat.le_trans hk.size k'.size)) hn2, fun W' k' => heldS_any fr be W' (gl.kept k') (hs.keep k') (fun j e => Nat.lt_of_lt_of_le (hF j e) (Nat.le_trans hk.size k'.size)), hk⟩)
  have HKW : Hid (Kept No w w1) := H1.out.2.2.2
  have HLN : Hid ((ruL xs fr be).length ≤ 65536) := ruL_len xs fr be
  clear H1 HS HG
  generalize suV xs p fr be = V1 at *
  generalize suE xs p fr be = E1 at *
  generalize nxV xs p fr = X1 at *
  generalize nxE xs p fr = Y1 at *
  generalize ruE xs fr be = U1 at *
  generalize ruL xs fr be = L1 at *
  generalize xs.length = n at *
  have a1 := HRU.out w1 (Kept.refl _ _)
  go_upto_region 3 with (go_at_call 5; refine a1.mono ?_; rintro e w2 ⟨v2, rfl, ho2, k2⟩; obtain ⟨la, lc, rfl, _, _⟩ := Nq.of ho2; have K2 : Hid (Ow w2 w1.heap.size (.slice la L1.length lc) L1 ∧ Kept No w1 w2) := ⟨ho2, k2⟩; clear k2 ho2 a1)
  have a2 := R2.out w2 K2.out.2
  go_upto_region 4 with (go_at_call 6; refine a2.mono ?_; rintro e w3 ⟨v3, rfl, ho3, k3⟩; obtain ⟨ma, mc, rfl, nm, _⟩ := Nq.of ho3; have K3 : Hid (Ow w3 w1.heap.size (.slice la L1.length lc) L1 ∧ Nq w3 (fun k => w2.heap.size ≤ k ∧ k < w3.heap.size) ma L1.length mc (slF L1) ∧ (∀ b, Bk9 la b → b < w2.heap.size) ∧ Kept No w1 w3) := ⟨k3.owns K2.out.1 (fun _ _ h => h), nm, fun b hb => (World.ownsRow.lt K2.out.1 b (bk_own hb)).2, K2.out.2.trans k3 (fun _ h => h.elim)⟩; clear k3 ho3 nm a2)
  clear K2
  have t1 : Calls Tryz.prog 7 #[.slice la L1.length lc, .slice ma L1.length mc] w3 fun e w' => e = .returned (.bool true) ∧ Kept No w3 w' := by
    obtain ⟨a', c', e', nq', _⟩ := Nq.of K3.out.1
    injection e' with e1 _ e3
    subst e1 e3
    exact sameS_yes w3 nq' K3.out.2.1
  go_upto_region 6 with (go_at_call 7; refine t1.mono ?_; rintro e w4 ⟨rfl, k4⟩; have K4 : Hid (Kept No w3 w4) := k4; clear k4 t1)
  have b1 := HSU.out w4 (K3.out.2.2.2.trans K4.out (fun _ h => h.elim))
  go_upto_region 7 with (go_at_call 8; refine b1.mono ?_; rintro e w5 ⟨rfl, k5⟩; have K5 : Hid (Kept No w3 w5) := K4.out.trans k5 (fun _ h => h.elim); clear k5 b1)
  have b2 := S2.out w5 (K3.out.2.2.2.trans K5.out (fun _ h => h.elim))
  go_upto_region 8 with (go_at_call 9; refine b2.mono ?_; rintro e w6 ⟨rfl, k6⟩; have K6 : Hid (Kept No w3 w6) := K5.out.trans k6 (fun _ h => h.elim); clear k6 b2)
  have b3 := HNX.out w6 (K3.out.2.2.2.trans K6.out (fun _ h => h.elim))
  go_upto_region 9 with (go_at_call 10; refine b3.mono ?_; rintro e w7 ⟨rfl, k7⟩; have K7 : Hid (Kept No w3 w7) := K6.out.trans k7 (fun _ h => h.elim); clear k7 b3)
  have b4 := N2.out w7 (K3.out.2.2.2.trans K7.out (fun _ h => h.elim))
  go_upto_region 10 with (go_at_call 11; refine b4.mono ?_; rintro e w8 ⟨rfl, k8⟩; have K8 : Hid (Kept No w3 w8) := K7.out.trans k8 (fun _ h => h.elim); clear k8 b4)
  clear K4 K5 K6 K7 HSU HNX R2 S2 N2
  have l1 := HLF.out w8 (K3.out.2.2.2.trans K8.out (fun _ h => h.elim))
  go_upto_region 12 with (go_at_call 12; refine l1.mono ?_; rintro e w9 ⟨rfl, k9⟩; have K9 : Hid (Kept No w3 w9) := K8.out.trans k9 (fun _ h => h.elim); clear k9 l1)
  clear K8
  have KA : Hid (w9.ownsRow w1.heap.size 39 2 (.slice la L1.length lc) L1.length (slL L1) ∧ Nq w9 (fun k => w2.heap.size ≤ k ∧ k < w3.heap.size) ma L1.length mc (slF L1) ∧ (∀ b, Bk9 la b → b < w2.heap.size) ∧ Kept No w1 w9) := ⟨K9.out.owns K3.out.1 (fun _ _ h => h), K3.out.2.1.keep K9.out, K3.out.2.2.1, K3.out.2.2.2.trans K9.out (fun _ h => h.elim)⟩
  clear K3 K9
  obtain ⟨hcp1, hcp2⟩ : L1.length ≤ lc ∧ lc ≤ 9223372036854775807 := by
    obtain ⟨hl, ⟨hv, h0⟩ | ⟨g', cap', cur, hv, hb, hgg, hn, hm, hs, ht⟩⟩ := KA.out.1
    · injection hv with e1 e2 e3
      omega
    · injection hv with e1 _ e3
      exact ⟨by rw [e3]; exact hn, by rw [e3]; exact hm⟩
  have HRQ : Hid (∀ W, Kept No w1 W → Calls Tryz.prog 5 #[.slice (some ⟨g, 0, none⟩) n cm, .int .i64 fr, .int .i64 be] W fun e w' => ∃ ra rc, e = .returned (.tuple #[.slice ra L1.length rc, .int .i64 U1]) ∧ Nq w' (fun k => W.heap.size ≤ k ∧ k < w'.heap.size) ra L1.length rc (slF L1) ∧ Kept No W w') := fun W k => (HRU.out W k).mono (by
      rintro e w' ⟨v, rfl, ho, hk⟩
      obtain ⟨ra, rc, rfl, nq, _⟩ := Nq.of ho
      exact ⟨ra, rc, rfl, nq, hk⟩)
  clear HRU
  have hNm := HLN.out
  clear HLN
  generalize slL L1 = Z0 at *
  generalize slF L1 = f at *
  generalize L1.length = N at *
  go_wp2
  go_loopw [22] (fun x wr => ∃ (k : Nat) (Z : List Value), k ≤ N ∧ x = .int .i64 k ∧ wr.ownsRow w1.heap.size 39 2 (.slice la N lc) N Z ∧ Nq wr (fun k => w2.heap.size ≤ k ∧ k < w3.heap.size) ma N mc f ∧ Kept No w1 wr) (fun x _ => N - (intOf x).toNat)
  case atStart => exact ⟨0, Z0, Nat.zero_le _, rfl, KA.out.1, KA.out.2.1, KA.out.2.2.2⟩
  case round =>
    obtain ⟨k, Z, hk, rfl, hr, hm, hkr⟩ := hrel
    by_cases hlt : k < N
    · have hltz : (k : Int) < (N : Int) := by omega
      obtain ⟨b, u0, u1, rfl, e0, e1, z0, z1, HX⟩ : ∃ b u0 u1, la = some ⟨b, 0, none⟩ ∧ wr.cell? ⟨b, k * 2, none⟩ = some u0 ∧ wr.cell? ⟨b, k * 2 + 1, none⟩ = some u1 ∧ wr.frozen? ⟨b, k * 2, none⟩ = false ∧ wr.frozen? ⟨b, k * 2 + 1, none⟩ = false ∧ Hid (∃ Z : List Value, ((wr.setCell ⟨b, k * 2, none⟩ (.int .i64 (-5))).setCell ⟨b, k * 2 + 1, none⟩ (.int .i64 0)).ownsRow w1.heap.size 39 2 (.slice la N lc) N Z ∧ Nq ((wr.setCell ⟨b, k * 2, none⟩ (.int .i64 (-5))).setCell ⟨b, k * 2 + 1, none⟩ (.int .i64 0)) (fun k => w2.heap.size ≤ k ∧ k < w3.heap.size) ma N mc f ∧ Kept No w1 ((wr.setCell ⟨b, k * 2, none⟩ (.int .i64 (-5))).setCell ⟨b, k * 2 + 1, none⟩ (.int .i64 0))) := by
        have hr0 := hr
        obtain ⟨hl, ⟨hv, h0⟩ | ⟨b, cap', cur, hv, hb, hgg, hn, hmx, hs, ht⟩⟩ := hr
        · omega
        injection hv with e1 _ e3
        have q0 : k * 2 < Z.length := by omega
        have q1 : k * 2 + 1 < Z.length := by omega
        have C0 := hr0.cells (g := b) (by rw [e1]; rfl) (k * 2) _ (List.getElem?_eq_getElem q0)
        have C1 := hr0.cells (g := b) (by rw [e1]; rfl) (k * 2 + 1) _ (List.getElem?_eq_getElem q1)
        rw [add_none, Nat.zero_add] at C0 C1
        have kk := put_k3 wr b (k * 2) (k * 2 + 1) (.int .i64 (-5)) (.int .i64 0)
        rw [e1] at hr0
        refine ⟨b, _, _, e1, C0, C1, by simp [World.frozen?, hgg], by simp [World.frozen?, hgg], _, by rw [e1]; exact own_setC (own_setC hr0 _ _) _ _, hm.kept kk (fun j h1 e => by have := KA.out.2.2.1 b e1; omega), hkr.trans kk (fun j e => .inr (by rw [e]; exact hb))⟩
      clear hr hm hkr
      go_wp2
      go_roundw
      case rel => obtain ⟨Z', z⟩ := HX.out; exact ⟨k + 1, Z', by omega, by go_num, z⟩
      case measure => simp [intOf]; omega
    · have hltz : ¬ (k : Int) < (N : Int) := by omega
      have HX : Hid (Nq wr (fun k => w2.heap.size ≤ k ∧ k < w3.heap.size) ma N mc f ∧ Kept No w1 wr) := ⟨hm, hkr⟩
      clear hr hm hkr KA
      have r1 := HRQ.out wr HX.out.2
      clear HRQ
      go_upto_region 17 with (go_at_call 5; refine r1.mono ?_; rintro e w10 ⟨ra, rc, rfl, rr, k10⟩; have H9 : Hid (Nq w10 (fun k => wr.heap.size ≤ k ∧ k < w10.heap.size) ra N rc f ∧ Nq w10 (fun k => w2.heap.size ≤ k ∧ k < w3.heap.size) ma N mc f ∧ Kept No w1 w10) := ⟨rr, HX.out.1.keep k10, HX.out.2.trans k10 (fun _ h => h.elim)⟩; clear rr k10 r1)
      have s2 := sameS_yes w10 H9.out.1 H9.out.2.1
      go_wp2_with (first
        | (go_at_call 7; refine s2.mono ?_; rintro e wa ⟨rfl, ka⟩; have KB : Hid (Kept No w1 wa) := H9.out.2.2.trans ka (fun _ h => h.elim); clear ka s2; have l2 := HLF.out wa KB.out)
        | (go_at_call 12; refine l2.mono ?_; rintro e wb ⟨rfl, kb⟩; have KC : Hid (Kept No w1 wb) := KB.out.trans kb (fun _ h => h.elim); clear kb l2; have f1 := HFW.out wb KC.out)
        | (go_at_call 14; refine f1.mono ?_; rintro e wc ⟨ys, ya, yc, rfl, hp, _, kc⟩; have KD : Hid (Kept No w1 wc) := KC.out.trans kc (fun _ h => h.elim); clear kc f1; have p1 := hp wc (Kept.refl _ _); clear hp)
        | (go_at_call 13; refine p1.mono ?_; rintro e wd ⟨rfl, kd⟩; have KE : Hid (Kept No w1 wd) := KD.out.trans kd (fun _ h => h.elim); clear kd p1; have f2 := HFW.out wd KE.out)
        | (go_at_call 14; refine f2.mono ?_; rintro e we ⟨zs, za, zc, rfl, _, hh, ke⟩; have KF : Hid (Kept No w1 we) := KE.out.trans ke (fun _ h => h.elim); clear ke f2; have q1 := hh we (Kept.refl _ _); clear hh)
        | (go_at_call 15; refine q1.mono ?_; rintro e wf ⟨rfl, kf⟩; have KG : Hid (Kept No w1 wf) := KF.out.trans kf (fun _ h => h.elim); clear kf q1))
      go_ret
      exact ⟨rfl, (HKW.out.trans KG.out (fun _ h => h.elim)).below0⟩
end Go.Proofs.YtkjnhhoniodbcaaGreatDoor
