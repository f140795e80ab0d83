/-
  Rows of truths, lists of lists; what is made.
-/
import Derived.Test.YtdohjhhflfnncaaDoorFPl
import Derived.Test.YtdohjhhflfnncaaDoorCPrd
import Derived.Test.YtdohjhhflfnncaaDoorCOwn
namespace Go.Proofs.YtdohjhhflfnncaaDoor
open Go.RowKit
set_option linter.unusedVariables false
set_option maxRecDepth 100000

theorem make_row (w : World) (t e : TypeId) (z : Value) (bytes : Nat) (ht : Tryd.prog.underlying t = some (.slice e)) (hi : (Tryd.prog.info? e).map (fun i => (i.zero, i.size, i.bytes)) = some (some z, 1, bytes)) (hz : z.cells = #[z]) (n : Nat) (hn : n ≤ 1000000) (hb : bytes ≤ 4096) :
    (Instr.makeSlice t (.int .i64 n) (.int .i64 n)).run Tryd.prog w = .ok (.slice (some ⟨w.heap.size, 0, none⟩) n n) (w.alloc (.cells (List.replicate n z).toArray e)) := by
  obtain ⟨i0, hi, hz0, hz1, hz2⟩ := info_parts hi
  have hbn : bytes * n ≤ 4096 * 1000000 := Nat.mul_le_mul hb hn
  have hr := run_make (P := Tryd.prog) w t e i0 _ ht hi hz0 .i64 .i64 n n (by omega) (Int.le_refl _) (by rw [hz2]; omega) (by omega)
  simp only [Int.toNat_natCast] at hr
  rw [hz1, Nat.mul_one] at hr
  rw [hr]
  have : madeCells z.cells n = (List.replicate n z).toArray := by
    apply Array.toList_inj.1
    rw [hz, toList_madeCells_one]
  rw [this]
theorem Tryd.infoB : (Tryd.prog.info? 4).map (fun i => (i.zero, i.size, i.bytes)) = some (some (.bool false), 1, 1) := by kernel_rfl
theorem Tryd.infoSI : (Tryd.prog.info? 40).map (fun i => (i.zero, i.size, i.bytes)) = some (some (.slice none 0 0), 1, 24) := by kernel_rfl
theorem mk_bools (w : World) (n : Nat) (hn : n ≤ 1000000) : (Instr.makeSlice 34 (.int .i64 n) (.int .i64 n)).run Tryd.prog w = .ok (.slice (some ⟨w.heap.size, 0, none⟩) n n) (w.alloc (.cells (List.replicate n (.bool false)).toArray 4)) :=
  make_row w 34 4 (.bool false) 1 Tryd.underlying34 Tryd.infoB rfl n hn (by omega)
theorem mk_ways (w : World) (n : Nat) (hn : n ≤ 1000000) : (Instr.makeSlice 56 (.int .i64 n) (.int .i64 n)).run Tryd.prog w = .ok (.slice (some ⟨w.heap.size, 0, none⟩) n n) (w.alloc (.cells (List.replicate n (.slice none 0 0)).toArray 40)) :=
  make_row w 56 40 (.slice none 0 0) 24 Tryd.underlying56 Tryd.infoSI rfl n hn (by omega)
theorem mk_ints (w : World) (n : Nat) (hn : n ≤ 1000000) : (Instr.makeSlice 40 (.int .i64 n) (.int .i64 n)).run Tryd.prog w = .ok (.slice (some ⟨w.heap.size, 0, none⟩) n n) (w.alloc (.cells (List.replicate n (.int .i64 0)).toArray 3)) :=
  make_row w 40 3 (.int .i64 0) 8 Tryd.underlying40 Tryd.infoI rfl n hn (by omega)

/-- block g holds these truths -/
def Br (w : World) (g : Nat) (s : List Bool) : Prop := w.heap[g]? = some (.cells (s.map Value.bool).toArray 4)
theorem Br.cell {w : World} {g : Nat} {s : List Bool} (h : Br w g s) {j : Nat} (hj : j < s.length) : w.cell? ⟨g, j, none⟩ = some (.bool (isT s j)) := by
  rw [cell_blk h]
  simp [isT_get hj]
theorem Br.fz {w : World} {g : Nat} {s : List Bool} (h : Br w g s) (j : Nat) : w.frozen? ⟨g, j, none⟩ = false := fz_blk h j
theorem Br.set {w : World} {g : Nat} {s : List Bool} (h : Br w g s) (k : Nat) (b : Bool) : Br (w.setCell ⟨g, k, none⟩ (.bool b)) g (s.set k b) := by
  unfold Br
  rw [set_blk h]
  simp [List.map_set]
theorem Br.kept {w w' : World} {F : Nat → Prop} {g : Nat} {s : List Bool} (h : Br w g s) (k : Kept F w w') (hF : ¬ F g) : Br w' g s := k.at' h hF
theorem Br.lt {w : World} {g : Nat} {s : List Bool} (h : Br w g s) : g < w.heap.size := heap_lt h
theorem Br.new (w : World) (n : Nat) : Br (w.alloc (.cells (List.replicate n (.bool false)).toArray 4)) w.heap.size (List.replicate n false) := by
  unfold Br
  rw [alloc_new]
  simp

/-- how many of a block's truths are not so -/
def bT : Value → Bool
  | .bool b => b
  | _ => false
def obF : Obj → Nat
  | .cells cs _ _ => cntF (cs.toList.map bT)
  | _ => 0
def measB (w : World) (g : Nat) : Nat := ((w.heap[g]?).map obF).getD 0
theorem Br.meas {w : World} {g : Nat} {s : List Bool} (h : Br w g s) : measB w g = cntF s := by
  unfold measB
  rw [h]
  simp [obF, Function.comp_def, bT]
def lenV : Value → Nat
  | .slice _ n _ => n
  | _ => 0

/-! ### lists of lists of places -/
def nv (x : Nat) : Value := .int .i64 (x : Int)
def elN (w : World) (F : Nat → Prop) (cs : List Value) (x : Nat) : Prop := cs = [nv x]
def elW (w : World) (F : Nat → Prop) (cs : List Value) (xs : List Nat) : Prop := ∃ a m c, cs = [.slice a m c] ∧ Ls 1 elN w F a m c xs
theorem elN_kept {G : Nat → Prop} {w w' : World} {F : Nat → Prop} (k : Kept G w w') (hd : ∀ b, F b → ¬ G b) : ∀ cs x, elN w F cs x → elN w' F cs x := fun _ _ h => h
theorem elW_kept {G : Nat → Prop} {w w' : World} {F : Nat → Prop} (k : Kept G w w') (hd : ∀ b, F b → ¬ G b) : ∀ cs x, elW w F cs x → elW w' F cs x := fun cs x ⟨a, m, c, e, h⟩ => ⟨a, m, c, e, h.kept k hd (elN_kept k hd)⟩
def elR (w : World) (F : Nat → Prop) (cs : List Value) (xs : List Bool) : Prop := ∃ a m c, cs = [.slice a m c] ∧ Ls 1 elB w F a m c xs
theorem elR_kept {G : Nat → Prop} {w w' : World} {F : Nat → Prop} (k : Kept G w w') (hd : ∀ b, F b → ¬ G b) : ∀ cs x, elR w F cs x → elR w' F cs x := fun cs x ⟨a, m, c, e, h⟩ => ⟨a, m, c, e, h.kept k hd (elB_kept k hd)⟩
theorem Ls.one {α : Type} {El : World → (Nat → Prop) → List Value → α → Prop} {w : World} {F : Nat → Prop} {a : Option Addr} {n c : Nat} {xs : List α} (h : Ls 1 El w F a n c xs) {i : Nat} {x : α} (hi : xs[i]? = some x) : ∃ b o v, a = some ⟨b, o, none⟩ ∧ F b ∧ w.cell? ⟨b, o + i, none⟩ = some v ∧ El w F [v] x := by
  obtain ⟨b, o, cs, e, hF, hcl, hr, hE⟩ := h.at' i x hi
  match cs, hcl with
  | [v], _ =>
    have := hr 0 v rfl
    rw [Nat.mul_one, Nat.add_zero] at this
    exact ⟨b, o, v, e, hF, this, hE⟩

theorem wpList_app_q {P : Program} {w : World} {B : Nat} {ops : Array Oper} {rest : List Oper} {o : Oper} {a : Act} {Q : Exit → Act → World → Prop} (hgd : o.guard = none) (s x : Operand) (t e : TypeId)
    (ho : o.op = .call { callee := .builtin .append, args := #[s, x], argTypes := #[t, t] }) (z : Value) (bytes : Nat) (ht : P.underlying t = some (.slice e)) (hi : (P.info? e).map (fun i => (i.zero, i.size, i.bytes)) = some (some z, 1, bytes)) (hzs : z.cells.size = 1)
    {v : Value} {xs : List Value} (hs : a.eval s = v) (q : Qr w B e v xs) (ad : Addr) (c : Nat) (u : Value) (hx : a.eval x = .slice (some ad) 1 c) (hu : w.cell? ad = some u) (h1 : u.oneCell' = true) (hb : (xs.length + 1) * bytes ≤ 140737488355328) (h63 : xs.length + 1 ≤ maxLen) (hB : B ≤ w.heap.size)
    (h : ∀ ya yn yc w', Hid (Qr w' B e (.slice ya yn yc) (xs ++ [u])) → Hid (Kept (fun k => v.ownBlock = some k) w w') → Hid ((Value.slice ya yn yc).ownBlock = v.ownBlock ∨ ∃ k, (Value.slice ya yn yc).ownBlock = some k ∧ w.heap.size ≤ k) → wpList P ops Q rest (a.put o.dst (.slice ya yn yc)) w') : wpList P ops Q (o :: rest) a w := by
  obtain ⟨i0, hi, hz0, hz1, hz2⟩ := info_parts hi
  obtain ⟨v', w', hr, q', k', l'⟩ := run_append_q (P := P) (w := w) t o.type e i0 z bytes ht hi hz0 hz1 hz2 hzs q ad c u hu h1 h63 hb hB
  obtain ⟨ya, yc, rfl, _⟩ := q'.shape
  refine BigFrame.wpList_want (by simp [Region.wanted, hgd]) fun K hK => ?_
  unfold Oper.wp
  have he : (execOp a.eval o).run P w = .ok (.value (.slice ya (xs ++ [u]).length yc)) w' := by
    unfold execOp
    simp only [ho, resolve, invoke, builtin, Sem.run_bind, Sem.run_pure, Result.andThen_ok, List.map_toArray, List.map_cons, List.map_nil, hs, hx, hr]
  rw [he]
  exact hK _ _ (h ya _ yc w' q' k' l')
/-- a line of one, new -/
theorem Qr.one (w : World) (B : Nat) (hB : B ≤ w.heap.size) (t : TypeId) (u : Value) : Qr (w.alloc (.cells #[u] t)) B t (.slice (some ⟨w.heap.size, 0, none⟩) 1 1) [u] :=
  .inr ⟨w.heap.size, 0, 1, #[u], rfl, hB, alloc_new _ _, Nat.le_refl _, by omega, fun _ => rfl, fun i x hx => by
    have hi : i = 0 := by have := (List.getElem?_eq_some_iff.1 hx).1; simp at this; exact this
    subst hi; simp at hx; subst hx; rfl⟩
/-- the last is taken off -/
theorem Qr.pop {w : World} {B : Nat} {t : TypeId} {a : Option Addr} {n c : Nat} {xs : List Value} {u : Value} (h : Qr w B t (.slice a n c) (xs ++ [u])) : Qr w B t (.slice a xs.length c) xs := by
  rcases h with ⟨h1, h2⟩ | ⟨g, o, cap, cs, h1, h2, h3, h4, h5, h6, h7⟩
  · simp at h2
  · injection h1 with e1 e2 e3
    subst e1 e3
    refine .inr ⟨g, o, c, cs, rfl, h2, h3, by simp at h4; omega, h5, h6, fun i x hx => h7 i x ?_⟩
    rw [List.getElem?_append_left (List.getElem?_eq_some_iff.1 hx).1]; exact hx
end Go.Proofs.YtdohjhhflfnncaaDoor
