/-
  SameWords; the world of ObjectsFlow.
-/
import Derived.Test.YtggkajopfbokjaaOLoad
namespace Go.Proofs.Ytggkajopfbokjaa
open Go.RowKit
set_option linter.unusedVariables false
set_option maxRecDepth 100000

theorem same_yes {F G : Nat → Prop} {a a' : Option Addr} {n c c' : Nat} {xs : List Int} (w : World) (h : Zs w F a n c xs) (h' : Zs w G a' n c' xs) (hn : n ≤ 17592186044416) :
    Calls Try.prog 11 #[.slice a n c, .slice a' n c'] w fun e w' => e = .returned (.bool true) ∧ Kept No w w' := by
  have hc := h.cap
  have hm := h.max
  have hc' := h'.cap
  have hm' := h'.max
  have HH : Hid (Zs w F a n c xs ∧ Zs w G a' n c' xs) := ⟨h, h'⟩
  clear h h'
  have hne : ((n : Int) != (n : Int)) = false := by simp
  go_enter Try.func11, Try.ntmps11
  go_upto_region 4 with fail
  clear hne
  go_loopw [5] (fun x wr => ∃ (k : Nat), k ≤ n ∧ x = .int .i64 k ∧ Kept No w wr) (fun x _ => n - (intOf x).toNat)
  case atStart => exact ⟨0, Nat.zero_le _, rfl, Kept.refl No w⟩
  case round =>
    obtain ⟨k, hk, rfl, kk⟩ := hrel
    have HK := hid kk
    clear kk
    by_cases hlt : k < n
    · have hltz : (k : Int) < (n : Int) := by omega
      obtain ⟨b, o, rfl, _, e0⟩ := (HH.out.1.kept HK.out (fun _ _ e => e)).at' k hlt
      obtain ⟨b', o', rfl, _, e1⟩ := (HH.out.2.kept HK.out (fun _ _ e => e)).at' k hlt
      have e0' : wr.cell? ⟨b, o + k, none⟩ = some (.int .i64 (xs.getD k 0)) := e0
      have e1' : wr.cell? ⟨b', o' + k, none⟩ = some (.int .i64 (xs.getD k 0)) := e1
      clear e0 e1
      generalize xs.getD k 0 = x at *
      have hx : (x != x) = false := by simp
      go_upto_region 6 with fail
      go_region
      go_wp2
      go_roundw
      case rel => exact ⟨k + 1, by omega, by go_num, HK.out.drew⟩
      case measure => simp [intOf]; omega
    · have hltz : ¬ (k : Int) < (n : Int) := by omega
      go_wp2
      go_ret
      exact ⟨rfl, HK.out⟩

theorem St.fo_tag {w : World} {B b : Nat} {sv ev bv : Value} {S : So} (h : St w B b sv ev bv S) {k : Nat} {cs : Array Value} {t : TypeId} (hk : Fo b sv ev bv S k) (hc : w.heap[k]? = some (.cells cs t)) : t = 82 ∨ t = 84 ∨ t = 4 ∨ t = 88 ∨ t = 31 := by
  rcases hk with rfl | hk | hk | hk | ⟨i, hi, hk⟩
  · exact .inl (two_tags hc h.box)
  · obtain ⟨_, cs', h2⟩ := h.sems.blk hk
    exact .inr (.inl (two_tags hc h2))
  · obtain ⟨_, cs', h2⟩ := h.evs.blk hk
    exact .inr (.inr (.inl (two_tags hc h2)))
  · obtain ⟨_, cs', h2⟩ := h.bufs.blk hk
    exact .inr (.inr (.inr (.inl (two_tags hc h2))))
  · obtain ⟨_, cs', h2⟩ := (h.its i hi).blk hk
    exact .inr (.inr (.inr (.inr (two_tags hc h2))))
/-- the partition of ObjectsFlow -/
def PA (z1 z2 : Nat) : Array Value := #[.int .i64 0, .int .i64 0, .int .i64 0, .int .i64 0, .int .i64 0, .int .i64 0, .slice none 0 0, .slice none 0 0, .slice none 0 0, .int .i64 0, .int .i64 0, .int .i64 0, .int .i64 0, .int .i64 0, .int .i64 0, .int .i64 0, .int .i64 0, .int .i64 0, .slice (some ⟨z1, 0, none⟩) 1 1, .slice none 0 0, .slice (some ⟨z2, 0, none⟩) 1 1]
/-- the world of ObjectsFlow: the partition, the set, what was put in, how much has come out -/
structure Fy (w wr : World) (F : Nat → Prop) (q z1 z2 : Nat) (size depth start most : Int) (b : Nat) (sv ev bv : Value) (S : So) (nn : Int) (inv : Value) (vs : List Value) (ins : List (List Int)) (out : Nat) : Prop where
  st : St wr w.heap.size b sv ev bv S
  kept : Kept No w wr
  part : wr.heap[q]? = some (.cells (PA z1 z2) 37)
  sem : wr.heap[z1]? = some (.cells #[.int .i64 start, .int .i64 most] 24)
  buf : wr.heap[z2]? = some (.cells #[.int .i64 size, .int .i64 depth] 27)
  own : wr.ownsRow w.heap.size 31 1 inv ins.length vs
  len : vs.length = ins.length
  dat : ∀ (i : Nat) (v : Value) (x : List Int), vs[i]? = some v → ins[i]? = some x → ∃ a c, v = .slice a x.length c ∧ Zs w F a x.length c x
  far : ∀ k, inv.ownBlock = some k → ¬ Fo b sv ev bv S k
  ns : S.ns = 1
  cnt : S.cnt 0 = nn
  mx : S.mx 0 = most
  ne : S.ne = 0
  nb : S.nb = 1
  dp : S.dp 0 = depth
  sz : S.sz 0 = size
  xs : S.xs 0 = ins.drop out
  ole : out ≤ ins.length
  szs : ∀ x ∈ ins, (x.length : Int) = size
  room : ((ins.length : Int) - out) ≤ depth
  lo : 0 ≤ nn
  hi : nn ≤ most
namespace Fy
variable {w wr wr' : World} {F : Nat → Prop} {q z1 z2 : Nat} {size depth start most : Int} {b : Nat} {sv ev bv : Value} {S S' : So} {nn : Int} {inv : Value} {vs : List Value} {ins : List (List Int)} {out : Nat}
theorem keep (h : Fy w wr F q z1 z2 size depth start most b sv ev bv S nn inv vs ins out) (K : Kept No wr wr') : Fy w wr' F q z1 z2 size depth start most b sv ev bv S nn inv vs ins out :=
  { h with st := h.st.keep K, kept := h.kept.trans K (fun _ e => e.elim), part := K.at' h.part (fun e => e), sem := K.at' h.sem (fun e => e), buf := K.at' h.buf (fun e => e), own := K.owns h.own (fun _ _ e => e) }
/-- a block of no type of a set's stays -/
theorem stay {K : Prop} {k : Nat} {cs : Array Value} {t : TypeId} (h : Fy w wr F q z1 z2 size depth start most b sv ev bv S nn inv vs ins out) (d : Did wr wr' w.heap.size b sv ev bv S S') (hk : wr.heap[k]? = some (.cells cs t)) (ht : ¬ (t = 82 ∨ t = 84 ∨ t = 4 ∨ t = 88 ∨ t = 31)) : wr'.heap[k]? = some (.cells cs t) :=
  d.2.1.at' hk (fun e => ht (h.st.fo_tag e hk))
/-- the blocks behind a call that made S' of the set -/
theorem did (h : Fy w wr F q z1 z2 size depth start most b sv ev bv S nn inv vs ins out) (d : Did wr wr' w.heap.size b sv ev bv S S') :
    Kept No w wr' ∧ wr'.heap[q]? = some (.cells (PA z1 z2) 37) ∧ wr'.heap[z1]? = some (.cells #[.int .i64 start, .int .i64 most] 24) ∧ wr'.heap[z2]? = some (.cells #[.int .i64 size, .int .i64 depth] 27) ∧ wr'.ownsRow w.heap.size 31 1 inv ins.length vs ∧ (∀ k, inv.ownBlock = some k → ¬ Fo b sv ev bv S' k) :=
  ⟨h.kept.trans d.2.1 (fun k hk => .inr (h.st.fo_blk hk).1), h.stay (K := True) d h.part (by decide), h.stay (K := True) d h.sem (by decide), h.stay (K := True) d h.buf (by decide), d.2.1.owns h.own (fun k hk => h.far k hk), fun k hk e => by
    rcases d.2.2.1 k e with h1 | h1
    · exact h.far k hk h1
    · have := (owns_at h.own hk).2
      omega⟩
/-- the semaphore's number is another one -/
theorem semTo (h : Fy w wr F q z1 z2 size depth start most b sv ev bv S nn inv vs ins out) {x : Int} (h0 : 0 ≤ x) (h1 : x ≤ most) (d : Did wr wr' w.heap.size b sv ev bv S (S.semTo 0 x)) : Fy w wr' F q z1 z2 size depth start most b sv ev bv (S.semTo 0 x) x inv vs ins out := by
  obtain ⟨a1, a2, a3, a4, a5, a6⟩ := h.did d
  exact { h with st := d.1, kept := a1, part := a2, sem := a3, buf := a4, own := a5, far := a6, cnt := upd_same S.cnt 0 x, lo := h0, hi := h1 }
/-- one more is put in -/
theorem put {wa : World} {x : List Int} {xa : Option Addr} {xc : Nat} {inv' : Value} {o : Obj} (h : Fy w wr F q z1 z2 size depth start most b sv ev bv S nn inv vs ins out) (hx : (x.length : Int) = size) (hr : ((ins.length : Int) - out) < depth) (hz : Zs w F xa x.length xc x) (P : Puts wr wr' w.heap.size b sv ev bv S 0 x)
    (own1 : wa.ownsRow w.heap.size 31 1 inv' (ins.length + 1) (vs ++ [.slice xa x.length xc])) (gr : (wr'.alloc o).grownBy wa inv.ownBlock) (lo : inv'.ownBlock = inv.ownBlock ∨ inv'.ownBlock = some (wr'.alloc o).heap.size) : ∃ S', Fy w wa F q z1 z2 size depth start most b sv ev bv S' nn inv' (vs ++ [.slice xa x.length xc]) (ins ++ [x]) out := by
  obtain ⟨it, m, d⟩ := P
  obtain ⟨a1, a2, a3, a4, a5, a6⟩ := h.did d
  have ka : Kept (fun j => inv.ownBlock = some j) wr' wa := ((Kept.refl (fun j => inv.ownBlock = some j) wr').alloc _).grown gr (fun j e => .inl e)
  have tag : ∀ j cs t, wr'.heap[j]? = some (.cells cs t) → t ≠ 31 → ¬ inv.ownBlock = some j := fun j cs t h1 h2 h3 => by
    obtain ⟨_, cs', h4⟩ := owns_blk a5 h3
    exact h2 (two_tags h1 h4)
  have hsz : (wr'.alloc o).heap.size = wr'.heap.size + 1 := World.size_alloc _ _
  have hst : St wa w.heap.size b sv ev bv (S.bufTo 0 it (S.ms 0 ++ [m]) (S.xs 0 ++ [x])) := d.1.kept ka (fun k hk e => a6 k e hk) (fun k hk e => by
    obtain ⟨_, cs, h4⟩ := d.1.fm_blk hk
    exact tag k _ _ h4 (by decide) e)
  refine ⟨_, { h with st := hst, kept := a1.trans ka (fun k e => .inr (owns_blk a5 e).1), part := ka.at' a2 (tag _ _ _ a2 (by decide)), sem := ka.at' a3 (tag _ _ _ a3 (by decide)), buf := ka.at' a4 (tag _ _ _ a4 (by decide)), own := ?_, len := ?_, dat := fun i v y hv hy => ?_, far := fun k hk e => ?_, xs := ?_, ole := ?_, szs := fun y hy => ?_, room := ?_ }⟩
  · rw [List.length_append]; exact own1
  · rw [List.length_append, List.length_append, h.len]; rfl
  · rcases get_snoc hv with ⟨h2, h3⟩ | ⟨h2, rfl⟩
    · rw [List.getElem?_append_left (by rw [← h.len]; exact h3)] at hy
      exact h.dat i v y h2 hy
    · rcases get_snoc hy with ⟨_, h4⟩ | ⟨_, rfl⟩
      · have := h.len; omega
      · exact ⟨xa, xc, rfl, hz⟩
  · rcases lo with h1 | h1
    · rw [h1] at hk
      exact a6 k hk e
    · rw [h1] at hk
      injection hk with hk
      have := d.1.fo_lt e
      omega
  · show upd S.xs 0 (S.xs 0 ++ [x]) 0 = _
    rw [upd_same, h.xs, List.drop_append_of_le_length h.ole]
  · rw [List.length_append]
    have := h.ole
    omega
  · rcases List.mem_append.1 hy with h1 | h1
    · exact h.szs y h1
    · simp at h1
      rw [h1]
      exact hx
  · rw [List.length_append, List.length_singleton]
    omega
/-- one comes out -/
theorem get {m : Value} {x : List Int} {ms : List Value} {xs : List (List Int)} (h : Fy w wr F q z1 z2 size depth start most b sv ev bv S nn inv vs ins out) (hx : S.xs 0 = x :: xs) (G : Got wr wr' w.heap.size b sv ev bv S 0 m x ms xs) :
    (∃ S', Fy w wr' F q z1 z2 size depth start most b sv ev bv S' nn inv vs ins (out + 1)) ∧ wr'.ownsRow w.heap.size 2 1 m x.length (x.map iv) ∧ ins[out]? = some x := by
  obtain ⟨it, d, om, _⟩ := G
  obtain ⟨a1, a2, a3, a4, a5, a6⟩ := h.did d
  have hd : ins.drop out = x :: xs := by rw [← h.xs]; exact hx
  have hlt : out < ins.length := by
    have := congrArg List.length hd
    rw [List.length_drop, List.length_cons] at this
    omega
  have h1 : ins[out]? = some x := by
    have := congrArg (fun l => l[0]?) hd
    simpa using this
  refine ⟨⟨_, { h with st := d.1, kept := a1, part := a2, sem := a3, buf := a4, own := a5, far := a6, xs := ?_, ole := hlt, room := ?_ }⟩, om, h1⟩
  · show upd S.xs 0 xs 0 = _
    rw [upd_same, List.drop_add_one_eq_tail_drop, hd]
    rfl
  · have := h.room
    omega
/-- the set is loaded anew -/
theorem load {b' : Nat} {p0 : Nat → Int} {f : Nat → Bool} (h : Fy w wr F q z1 z2 size depth start most b sv ev bv S nn inv vs ins out) {qf pf qf' : Nat → Int} {xss : Nat → List (List Int)} (L : LoadA wr wr' b' 1 p0 qf 0 f 1 pf qf' xss) (e1 : p0 0 = nn) (e2 : qf 0 = most) (e3 : pf 0 = size) (e4 : qf' 0 = depth) (e5 : xss 0 = S.xs 0) :
    ∃ sv' ev' bv' S', Fy w wr' F q z1 z2 size depth start most b' sv' ev' bv' S' nn inv vs ins out := by
  obtain ⟨sv', ev', bv', it, ms, st, K⟩ := L
  have h1 := h.keep K
  refine ⟨sv', ev', bv', _, { h1 with st := st.base h.kept.size, far := fun k hk e => ?_, ns := rfl, cnt := e1, mx := e2, ne := rfl, nb := rfl, dp := e4, sz := e3, xs := ?_ }⟩
  · have := (st.fo_blk e).1
    have := (owns_at h.own hk).2
    omega
  · rw [← h.xs]; exact e5
end Fy
end Go.Proofs.Ytggkajopfbokjaa
