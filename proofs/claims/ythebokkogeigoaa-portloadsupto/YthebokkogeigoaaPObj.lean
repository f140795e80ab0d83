/-
  A partition's ports in memory.
-/
import Derived.Test.YthebokkogeigoaaPMap
namespace Go.Proofs.Ythebokkogeigoaa
open Go.RowKit
set_option linter.unusedVariables false
set_option maxRecDepth 100000

theorem hid {p : Prop} (h : p) : Hid p := h
theorem alloc_new (w : World) (o : Obj) : (w.alloc o).heap[w.heap.size]? = some o := by simp only [World.alloc]; simp
theorem info_parts {P : Program} {t : TypeId} {z : Option Value} {s b : Nat} (h : (P.info? t).map (fun i => (i.zero, i.size, i.bytes)) = some (z, s, b)) : ∃ i, P.info? t = some i ∧ i.zero = z ∧ i.size = s ∧ i.bytes = b := by
  obtain ⟨i, hi, he⟩ := Option.map_eq_some_iff.1 h
  injection he with h1 h2
  injection h2 with h2 h3
  exact ⟨i, hi, h1, h2, h3⟩
def upd {α : Type} (f : Nat → α) (i : Nat) (x : α) : Nat → α := fun j => if j = i then x else f j
theorem upd_same {α : Type} (f : Nat → α) (i : Nat) (x : α) : upd f i x i = x := if_pos rfl
theorem upd_oth {α : Type} (f : Nat → α) {i j : Nat} (x : α) (h : j ≠ i) : upd f i x j = f j := if_neg h
theorem owns_base {w : World} {B B' t sz n : Nat} {v : Value} {ys : List Value} (h : w.ownsRow B t sz v n ys) (hB : B' ≤ B) : w.ownsRow B' t sz v n ys := by
  obtain ⟨q1, q2 | ⟨g, cap, cur, r1, r2, r3⟩⟩ := h
  · exact ⟨q1, .inl q2⟩
  · exact ⟨q1, .inr ⟨g, cap, cur, r1, by omega, r3⟩⟩
theorem owns_at {w : World} {B t sz n : Nat} {v : Value} {ys : List Value} (h : w.ownsRow B t sz v n ys) {k : Nat} (hk : v.ownBlock = some k) : B ≤ k ∧ k < w.heap.size := by
  obtain ⟨h1, cs, h2⟩ := owns_blk h hk
  exact ⟨h1, heap_lt h2⟩
theorem get_snoc {α : Type} {xs : List α} {x y : α} {i : Nat} (h : (xs ++ [x])[i]? = some y) : xs[i]? = some y ∧ i < xs.length ∨ i = xs.length ∧ y = x := by
  by_cases hi : i < xs.length
  · rw [List.getElem?_append_left hi] at h
    exact .inl ⟨h, hi⟩
  · rw [List.getElem?_append_right (by omega)] at h
    have h2 := (List.getElem?_eq_some_iff.1 h).1
    simp at h2
    have h3 : i = xs.length := by omega
    subst h3
    simp at h
    exact .inr ⟨rfl, h.symm⟩

/-- a port of the partition: its block; its form; its queue (where it lies, the messages, their words); its sample; how many it has lost -/
structure En where
  eb : Nat
  pt : Int
  kd : Int
  out : Bool
  sz : Int
  dp : Int
  rf : Int
  it : Value
  ms : List Value
  xs : List (List Int)
  has : Bool
  tk : Int
  sv : Value
  sx : List Int
  lost : Int
def En.cells (e : En) : Array Value := #[.int .i64 e.pt, .int .i64 e.kd, .bool e.out, .int .i64 e.sz, .int .i64 e.dp, .int .i64 e.rf, e.it, .bool e.has, .int .i64 e.tk, e.sv, .int .i64 e.lost]
/-- the blocks that a call may write -/
def Ew (e : En) (k : Nat) : Prop := k = e.eb ∨ e.it.ownBlock = some k
/-- those of its messages -/
def Em (e : En) (k : Nat) : Prop := (∃ v, v ∈ e.ms ∧ v.ownBlock = some k) ∨ e.sv.ownBlock = some k
def Ef (e : En) (k : Nat) : Prop := Ew e k ∨ Em e k

/-- the port e lies in w, in blocks from B on -/
structure Ep (w : World) (B : Nat) (e : En) : Prop where
  box : w.heap[e.eb]? = some (.cells e.cells 90 (0, 0))
  low : B ≤ e.eb
  que : Qr w B 22 e.it e.ms
  len : e.xs.length = e.ms.length
  msg : ∀ (j : Nat) (v : Value) (x : List Int), e.ms[j]? = some v → e.xs[j]? = some x → w.ownsRow B 2 1 v x.length (x.map iv)
  far : ∀ (j j' : Nat) (v v' : Value), e.ms[j]? = some v → e.ms[j']? = some v' → j ≠ j' → Far v v'
  smp : w.ownsRow B 2 1 e.sv e.sx.length (e.sx.map iv)
  sfar : ∀ v, v ∈ e.ms → Far v e.sv

namespace Ep
variable {w w' : World} {B : Nat} {e e' : En}
theorem at_msg (h : Ep w B e) {j : Nat} {v : Value} (hv : e.ms[j]? = some v) : ∃ x, e.xs[j]? = some x ∧ w.ownsRow B 2 1 v x.length (x.map iv) := by
  have hj : j < e.xs.length := by rw [h.len]; exact (List.getElem?_eq_some_iff.1 hv).1
  exact ⟨_, List.getElem?_eq_getElem hj, h.msg j v _ hv (List.getElem?_eq_getElem hj)⟩
theorem of_mem (h : Ep w B e) {v : Value} (hv : v ∈ e.ms) : ∃ x : List Int, w.ownsRow B 2 1 v x.length (x.map iv) := by
  obtain ⟨j, hj, e2⟩ := List.mem_iff_getElem.1 hv
  obtain ⟨x, _, ho⟩ := h.at_msg (j := j) (v := v) (by rw [List.getElem?_eq_getElem hj, e2])
  exact ⟨x, ho⟩
theorem ew_blk (h : Ep w B e) {k : Nat} (hk : Ew e k) : B ≤ k ∧ ∃ cs t, w.heap[k]? = some (.cells cs t (0, 0)) ∧ (t = 90 ∨ t = 22) := by
  rcases hk with rfl | hk
  · exact ⟨h.low, _, _, h.box, .inl rfl⟩
  · obtain ⟨h1, cs, h2⟩ := h.que.blk hk
    exact ⟨h1, cs, _, h2, .inr rfl⟩
theorem em_blk (h : Ep w B e) {k : Nat} (hk : Em e k) : B ≤ k ∧ ∃ cs, w.heap[k]? = some (.cells cs 2 (0, 0)) := by
  rcases hk with ⟨v, hv, hk⟩ | hk
  · obtain ⟨x, ho⟩ := h.of_mem hv
    exact owns_blk ho hk
  · exact owns_blk h.smp hk
theorem ew_tag (h : Ep w B e) {k : Nat} (hk : Ew e k) {cs : Array Value} {t : TypeId} {fr : Nat × Nat} (hc : w.heap[k]? = some (.cells cs t fr)) : t = 90 ∨ t = 22 := by
  obtain ⟨_, cs', t', h2, h3⟩ := h.ew_blk hk
  rw [two_tags hc h2]
  exact h3
theorem ef_blk (h : Ep w B e) {k : Nat} (hk : Ef e k) : B ≤ k ∧ k < w.heap.size ∧ ∃ cs t, w.heap[k]? = some (.cells cs t (0, 0)) ∧ (t = 90 ∨ t = 22 ∨ t = 2) := by
  rcases hk with hk | hk
  · obtain ⟨h1, cs, t, h2, h3⟩ := h.ew_blk hk
    refine ⟨h1, heap_lt h2, cs, t, h2, ?_⟩
    rcases h3 with h3 | h3
    · exact .inl h3
    · exact .inr (.inl h3)
  · obtain ⟨h1, cs, h2⟩ := h.em_blk hk
    exact ⟨h1, heap_lt h2, cs, _, h2, .inr (.inr rfl)⟩
theorem it_ne (h : Ep w B e) : e.it.ownBlock ≠ some e.eb := fun q => by
  obtain ⟨_, cs, h2⟩ := h.que.blk q
  exact absurd (two_tags h2 h.box) (by decide)
theorem kept {G : Nat → Prop} (h : Ep w B e) (K : Kept G w w') (hG : ∀ k, Ef e k → ¬ G k) : Ep w' B e :=
  ⟨K.at' h.box (hG _ (.inl (.inl rfl))), h.low, h.que.kept K (fun g hg => hG g (.inl (.inr hg))), h.len,
    fun j v x hv hx => K.owns (h.msg j v x hv hx) (fun g hg => hG g (.inr (.inl ⟨v, List.mem_of_getElem? hv, hg⟩))), h.far, K.owns h.smp (fun g hg => hG g (.inr (.inr hg))), h.sfar⟩
theorem keep (h : Ep w B e) (K : Kept No w w') : Ep w' B e := h.kept K (fun _ _ e => e)
theorem base {B' : Nat} (h : Ep w B e) (hB : B' ≤ B) : Ep w B' e :=
  ⟨h.box, by have := h.low; omega, by
    rcases h.que with q | ⟨g, o, cap, cs, h1, h2, h3⟩
    · exact .inl q
    · exact .inr ⟨g, o, cap, cs, h1, by omega, h3⟩, h.len, fun j v x hv hx => owns_base (h.msg j v x hv hx) hB, h.far, owns_base h.smp hB, h.sfar⟩
theorem cell (h : Ep w B e) (j : Nat) : w.cell? ⟨e.eb, j, none⟩ = e.cells[j]? := cell_blk h.box j
theorem fz (h : Ep w B e) (j : Nat) : w.frozen? ⟨e.eb, j, none⟩ = false := fz_blk h.box j
theorem B_le (h : Ep w B e) : B ≤ w.heap.size := by
  have := h.low
  have := heap_lt h.box
  omega
end Ep

/-- a call has made e' of the port e -/
structure Did (w w' : World) (B : Nat) (e e' : En) : Prop where
  ep : Ep w' B e'
  kept : Kept (Ew e) w w'
  eb : e'.eb = e.eb
  fp : ∀ k, Ef e' k → Ef e k ∨ w.heap.size ≤ k
theorem Did.pre {w w1 w' : World} {B : Nat} {e e' : En} (K : Kept No w w1) (d : Did w1 w' B e e') : Did w w' B e e' := by
  have hs := K.size
  refine ⟨d.ep, (K.mono (fun _ e => e.elim)).trans d.kept (fun _ h => .inl h), d.eb, fun k hk => ?_⟩
  rcases d.fp k hk with h | h
  · exact .inl h
  · exact .inr (by omega)
theorem Did.post {w w1 w' : World} {B : Nat} {e e' : En} (d : Did w w1 B e e') (K : Kept No w1 w') : Did w w' B e e' :=
  ⟨d.ep.keep K, d.kept.trans K (fun _ e => e.elim), d.eb, d.fp⟩
theorem Did.same {w w' : World} {B : Nat} {e : En} (h : Ep w B e) (K : Kept No w w') : Did w w' B e e :=
  ⟨h.keep K, K.mono (fun _ e => e.elim), rfl, fun _ h => .inl h⟩

/-- the ports of a partition: how many the image has, which are its own -/
structure Pd where
  n : Nat
  own : Nat → Bool
  en : Nat → En
/-- the place of the port of that number -/
def Pd.idx (S : Pd) (x : Int) : Option Nat := if 1 ≤ x ∧ x ≤ (S.n : Int) ∧ S.own (x - 1).toNat = true then some (x - 1).toNat else none
theorem Pd.idx_some {S : Pd} {x : Int} {i : Nat} (h : S.idx x = some i) : i < S.n ∧ S.own i = true ∧ x = (i : Int) + 1 := by
  unfold Pd.idx at h
  split at h
  · rename_i hc
    injection h with h
    subst h
    exact ⟨by omega, hc.2.2, by omega⟩
  · cases h
theorem Pd.idx_of {S : Pd} {i : Nat} (h1 : i < S.n) (h2 : S.own i = true) : S.idx ((i : Int) + 1) = some i := by
  have e : ((i : Int) + 1 - 1).toNat = i := by omega
  unfold Pd.idx
  rw [e, if_pos ⟨by omega, by omega, h2⟩]
def Pd.put (S : Pd) (i : Nat) (e : En) : Pd := { S with en := upd S.en i e }

/-- block b is the ports S of a partition, block mb its map; all that it has lies in blocks from B on -/
structure Pt (w : World) (B b mb c : Nat) (S : Pd) : Prop where
  box : w.heap[b]? = some (.cells #[.map (some mb), .int .i64 S.n] 87 (0, 0))
  low : B ≤ b
  mlow : B ≤ mb
  map : Tm w mb (fun x => (S.idx x).map (fun i => (S.en i).eb)) c
  ends : ∀ i, i < S.n → S.own i = true → Ep w B (S.en i)
  apart : ∀ i j, i < S.n → j < S.n → S.own i = true → S.own j = true → i ≠ j → ∀ k, Ef (S.en i) k → ¬ Ef (S.en j) k
/-- its blocks that a call may write -/
def Pw (S : Pd) (k : Nat) : Prop := ∃ i, i < S.n ∧ S.own i = true ∧ Ew (S.en i) k
/-- all its blocks -/
def Pf (b mb : Nat) (S : Pd) (k : Nat) : Prop := k = b ∨ k = mb ∨ ∃ i, i < S.n ∧ S.own i = true ∧ Ef (S.en i) k
namespace Pt
variable {w w' : World} {B b mb c : Nat} {S : Pd}
theorem pw_blk (h : Pt w B b mb c S) {k : Nat} (hk : Pw S k) : B ≤ k ∧ ∃ cs t, w.heap[k]? = some (.cells cs t (0, 0)) ∧ (t = 90 ∨ t = 22) := by
  obtain ⟨i, h1, h2, h3⟩ := hk
  exact (h.ends i h1 h2).ew_blk h3
theorem pw_tag (h : Pt w B b mb c S) {k : Nat} (hk : Pw S k) {cs : Array Value} {t : TypeId} {fr : Nat × Nat} (hc : w.heap[k]? = some (.cells cs t fr)) : t = 90 ∨ t = 22 := by
  obtain ⟨i, h1, h2, h3⟩ := hk
  exact (h.ends i h1 h2).ew_tag h3 hc
theorem pf_low (h : Pt w B b mb c S) {k : Nat} (hk : Pf b mb S k) : B ≤ k ∧ k < w.heap.size := by
  rcases hk with rfl | rfl | ⟨i, h1, h2, h3⟩
  · exact ⟨h.low, heap_lt h.box⟩
  · exact ⟨h.mlow, h.map.lt⟩
  · obtain ⟨q1, q2, _⟩ := (h.ends i h1 h2).ef_blk h3
    exact ⟨q1, q2⟩
theorem pw_pf {k : Nat} (hk : Pw S k) : Pf b mb S k := by
  obtain ⟨i, h1, h2, h3⟩ := hk
  exact .inr (.inr ⟨i, h1, h2, .inl h3⟩)
theorem kept {G : Nat → Prop} (h : Pt w B b mb c S) (K : Kept G w w') (hG : ∀ k, Pf b mb S k → ¬ G k) : Pt w' B b mb c S :=
  ⟨K.at' h.box (hG _ (.inl rfl)), h.low, h.mlow, h.map.kept K (hG _ (.inr (.inl rfl))), fun i hi ho => (h.ends i hi ho).kept K (fun k hk => hG k (.inr (.inr ⟨i, hi, ho, hk⟩))), h.apart⟩
theorem keep (h : Pt w B b mb c S) (K : Kept No w w') : Pt w' B b mb c S := h.kept K (fun _ _ e => e)
theorem base {B' : Nat} (h : Pt w B b mb c S) (hB : B' ≤ B) : Pt w B' b mb c S :=
  ⟨h.box, by have := h.low; omega, by have := h.mlow; omega, h.map, fun i hi ho => (h.ends i hi ho).base hB, h.apart⟩
theorem cells (h : Pt w B b mb c S) : w.cell? ⟨b, 0, none⟩ = some (.map (some mb)) ∧ w.cell? ⟨b, 1, none⟩ = some (.int .i64 S.n) :=
  ⟨(cell_blk h.box 0).trans rfl, (cell_blk h.box 1).trans rfl⟩
theorem B_le (h : Pt w B b mb c S) : B ≤ w.heap.size := by
  have := h.low
  have := heap_lt h.box
  omega
/-- behind a call about one port -/
theorem did (h : Pt w B b mb c S) {i : Nat} (hi : i < S.n) (ho : S.own i = true) {e' : En} (d : Did w w' B (S.en i) e') :
    Pt w' B b mb c (S.put i e') ∧ Kept (Pw S) w w' ∧ (∀ k, Pf b mb (S.put i e') k → Pf b mb S k ∨ w.heap.size ≤ k) ∧ (∀ k, Pw (S.put i e') k → Pf b mb S k ∨ w.heap.size ≤ k) := by
  have hE := h.ends i hi ho
  have hbx : ¬ Ew (S.en i) b := fun q => by
    rcases hE.ew_tag q h.box with h1 | h1 <;> exact absurd h1 (by decide)
  have hmb : ¬ Ew (S.en i) mb := fun q => by
    obtain ⟨_, cs, t, h2, _⟩ := hE.ew_blk q
    exact h.map.not_cells h2
  have fp : ∀ k, Pf b mb (S.put i e') k → Pf b mb S k ∨ w.heap.size ≤ k := by
    intro k hk
    rcases hk with rfl | rfl | ⟨j, h1, h2, h3⟩
    · exact .inl (.inl rfl)
    · exact .inl (.inr (.inl rfl))
    · have h3' : Ef (upd S.en i e' j) k := h3
      by_cases q : j = i
      · subst q
        rw [upd_same] at h3'
        rcases d.fp k h3' with h4 | h4
        · exact .inl (.inr (.inr ⟨j, h1, h2, h4⟩))
        · exact .inr h4
      · rw [upd_oth _ _ q] at h3'
        exact .inl (.inr (.inr ⟨j, h1, h2, h3'⟩))
  refine ⟨⟨d.kept.at' h.box hbx, h.low, h.mlow, (h.map.kept d.kept hmb).congr (fun x hx => ?_), fun j hj hoj => ?_, fun j l hj hl hoj hol hjl k hk hk' => ?_⟩, d.kept.mono (fun k hk => ⟨i, hi, ho, hk⟩), fp, fun k hk => fp k (pw_pf hk)⟩
  · show Option.map _ (S.idx x) = Option.map (fun j => (upd S.en i e' j).eb) (S.idx x)
    cases S.idx x with
    | none => rfl
    | some j =>
      simp only [Option.map_some]
      by_cases q : j = i
      · subst q; rw [upd_same, d.eb]
      · rw [upd_oth _ _ q]
  · show Ep w' B (upd S.en i e' j)
    by_cases q : j = i
    · subst q; rw [upd_same]; exact d.ep
    · rw [upd_oth _ _ q]
      exact (h.ends j hj hoj).kept d.kept (fun k hk hk' => h.apart j i hj hi hoj ho q k hk (.inl hk'))
  · have hk1 : Ef (upd S.en i e' j) k := hk
    have hk2 : Ef (upd S.en i e' l) k := hk'
    have key : ∀ m, m < S.n → S.own m = true → m ≠ i → Ef e' k → ¬ Ef (S.en m) k := fun m hm hom hmi q1 q2 => by
      rcases d.fp k q1 with q3 | q3
      · exact h.apart i m hi hm ho hom (fun q => hmi q.symm) k q3 q2
      · have := ((h.ends m hm hom).ef_blk q2).2.1
        omega
    by_cases q : j = i
    · subst q
      rw [upd_same] at hk1
      rw [upd_oth _ _ (fun q => hjl q.symm)] at hk2
      exact key l hl hol (fun q => hjl q.symm) hk1 hk2
    · rw [upd_oth _ _ q] at hk1
      by_cases q2 : l = i
      · subst q2
        rw [upd_same] at hk2
        exact key j hj hoj q hk2 hk1
      · rw [upd_oth _ _ q2] at hk2
        exact h.apart j l hj hl hoj hol hjl k hk1 hk2
end Pt
end Go.Proofs.Ythebokkogeigoaa
