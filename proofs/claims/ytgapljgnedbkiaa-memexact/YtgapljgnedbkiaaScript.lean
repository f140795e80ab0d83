/-
  A script's operations in memory; no dump but the types.
-/
import Derived.Test.YtgapljgnedbkiaaHeap
namespace Go.Proofs.Ytgapljgnedbkiaa
open Go.RowKit
set_option linter.unusedVariables false

/-- an operation's data -/
structure OpD where
  K : Int
  Fx : Int
  A : Int
  N : Int
  V : Int
  ds : List Int

/-- the cells of one operation -/
def OpAt (w : World) (b o : Nat) (d : OpD) (da : Option Addr) (dn dc : Nat) : Prop :=
  w.cell? ⟨b, o, none⟩ = some (.int .i64 d.K) ∧ w.cell? ⟨b, o + 1, none⟩ = some (.int .i64 d.Fx) ∧ w.cell? ⟨b, o + 2, none⟩ = some (.int .i64 d.A) ∧ w.cell? ⟨b, o + 3, none⟩ = some (.int .i64 d.N) ∧
  w.cell? ⟨b, o + 4, none⟩ = some (.int .i64 d.V) ∧ w.cell? ⟨b, o + 5, none⟩ = some (.slice da dn dc)

/-- a number of 64 bits -/
def I64 (x : Int) : Prop := -9223372036854775808 ≤ x ∧ x ≤ 9223372036854775807

/-- what is known of one operation of a script -/
def OpOk (W : World) (b o : Nat) (d : OpD) : Prop :=
  ∃ da dn dc, OpAt W b o d da dn dc ∧ Zs W (fun k => k < W.heap.size) da dn dc d.ds ∧ dn ≤ 17592186043904 ∧ I64 d.Fx ∧ I64 d.A ∧ I64 d.N ∧ I64 d.V ∧ ∀ x ∈ d.ds, I64 x

/-- a script -/
structure Sc (W : World) (a : Option Addr) (m c : Nat) (os : List OpD) : Prop where
  len : os.length = m
  cap : m ≤ c
  max : c ≤ 9223372036854775807
  at' : ∀ i d, os[i]? = some d → ∃ b o, a = some ⟨b, o, none⟩ ∧ OpOk W b (o + i * 6) d

theorem OpAt.below {w0 w : World} {b o : Nat} {d : OpD} {da : Option Addr} {dn dc : Nat} (h : OpAt w0 b o d da dn dc) (hb : Below w0.heap.size w0 w) : OpAt w b o d da dn dc := by
  obtain ⟨h0, h1, h2, h3, h4, h5⟩ := h
  exact ⟨(hb.cell (cell_lt h0)).trans h0, (hb.cell (cell_lt h1)).trans h1, (hb.cell (cell_lt h2)).trans h2, (hb.cell (cell_lt h3)).trans h3, (hb.cell (cell_lt h4)).trans h4, (hb.cell (cell_lt h5)).trans h5⟩
theorem Zs.below {w0 w : World} {F : Nat → Prop} {a : Option Addr} {n c : Nat} {xs : List Int} (h : Zs w0 F a n c xs) (hb : Below w0.heap.size w0 w) : Zs w F a n c xs :=
  h.kept (Kept.of_below (F := No) hb) (fun _ _ h => h)

/-- one operation of the script, in a later world -/
theorem Sc.get {W w : World} {a : Option Addr} {m c : Nat} {os : List OpD} (h : Sc W a m c os) (hb : Below W.heap.size W w) {i : Nat} (hi : i < m) :
    ∃ d b o da dn dc, os[i]? = some d ∧ a = some ⟨b, o, none⟩ ∧ OpAt w b (o + i * 6) d da dn dc ∧ Zs w (fun k => k < W.heap.size) da dn dc d.ds ∧ dn ≤ 17592186043904 ∧ I64 d.Fx ∧ I64 d.A ∧ I64 d.N ∧ I64 d.V ∧ ∀ x ∈ d.ds, I64 x := by
  have hi2 : i < os.length := by rw [h.len]; exact hi
  obtain ⟨b, o, ha, da, dn, dc, h1, h2, r⟩ := h.at' i _ (List.getElem?_eq_getElem hi2)
  exact ⟨_, b, o, da, dn, dc, List.getElem?_eq_getElem hi2, ha, h1.below hb, h2.below hb, r⟩

/-- a block that is one operation -/
def OpBlk (w : World) (q : Nat) (d : OpD) (da : Option Addr) (dn dc : Nat) : Prop :=
  w.heap[q]? = some (.cells #[.int .i64 d.K, .int .i64 d.Fx, .int .i64 d.A, .int .i64 d.N, .int .i64 d.V, .slice da dn dc] 34 (0, 0))
theorem OpBlk.new (w : World) (d : OpD) (da : Option Addr) (dn dc : Nat) : OpBlk (w.alloc (.cells #[.int .i64 d.K, .int .i64 d.Fx, .int .i64 d.A, .int .i64 d.N, .int .i64 d.V, .slice da dn dc] 34)) w.heap.size d da dn dc := heap_alloc_new _ _
theorem OpBlk.cells {w : World} {q : Nat} {d : OpD} {da : Option Addr} {dn dc : Nat} (h : OpBlk w q d da dn dc) :
    w.cell? ⟨q, 0, none⟩ = some (.int .i64 d.K) ∧ w.cell? ⟨q, 1, none⟩ = some (.int .i64 d.Fx) ∧ w.cell? ⟨q, 2, none⟩ = some (.int .i64 d.A) ∧ w.cell? ⟨q, 3, none⟩ = some (.int .i64 d.N) ∧ w.cell? ⟨q, 4, none⟩ = some (.int .i64 d.V) ∧ w.cell? ⟨q, 5, none⟩ = some (.slice da dn dc) := by
  unfold OpBlk at h
  unfold World.cell?
  simp only [h]
  simp
theorem OpBlk.kept {w w' : World} {G : Nat → Prop} {q : Nat} {d : OpD} {da : Option Addr} {dn dc : Nat} (h : OpBlk w q d da dn dc) (k : Kept G w w') (hG : ¬ G q) : OpBlk w' q d da dn dc := k.at' h hG

end Go.Proofs.Ytgapljgnedbkiaa
