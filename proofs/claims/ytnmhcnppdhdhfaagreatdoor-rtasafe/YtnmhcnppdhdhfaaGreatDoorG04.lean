/-
  One text: OHd, RMem, RCat.
-/
import Derived.Test.YtnmhcnppdhdhfaaGreatDoorG03
import Derived.Deep.RegionHeld
import Derived.BigFrame
import Derived.Maps.AppendAt
import Derived.Test.YtnmhcnppdhdhfaaGreatDoorG00
namespace Go.Proofs.YtnmhcnppdhdhfaaGreatDoor
open Go.RowKit
set_option linter.unusedVariables false
set_option maxRecDepth 100000

section
variable {P : Program} {md : Region.Mode} {ops : Array Oper} {Q : Exit → Act → World → Prop} {S : World → Prop} {fuel : Nat} {listed : Array Bool} {a : Act} {w : World}
theorem h_take (i : Nat) {oi : Oper} {v : Value} (hi : ops[i]? = some oi) (hs : Region.noSelect ops = true) (hf : Region.free md ops listed i = true) (hr : (Region.ready md ops listed).contains i = true)
    (hQ : ∀ c a w, Q (.panic c) (a.put oi.dst v) w → Q (.panic c) a w) (hw : Region.wanted oi (yielded ops a.tmps) = true) (hv : ∀ w, S w → (execOp a.eval oi).run P w = .ok (.value v) w) (hS : S w)
    (h : wpAnyH P md ops Q S fuel (listed.setIfInBounds i true) (a.put oi.dst v) w) : wpAnyH P md ops Q S (fuel + 1) listed a w :=
  wpAnyH_take hi hs hf hr hQ (.inl ⟨hw, hv⟩) hS h
theorem h_skip (i : Nat) {oi : Oper} (hi : ops[i]? = some oi) (hs : Region.noSelect ops = true) (hf : Region.free md ops listed i = true) (hr : (Region.ready md ops listed).contains i = true)
    (hQ : ∀ c a w, Q (.panic c) (a.put oi.dst undef) w → Q (.panic c) a w) (hw : Region.wanted oi (yielded ops a.tmps) = false) (hS : S w)
    (h : wpAnyH P md ops Q S fuel (listed.setIfInBounds i true) (a.put oi.dst undef) w) : wpAnyH P md ops Q S (fuel + 1) listed a w :=
  wpAnyH_take hi hs hf hr hQ (.inr ⟨hw, rfl⟩) hS h
/-- one operation is left that may come up: a call -/
theorem h_call (i : Nat) {oi : Oper} {f : FuncId} {args : Array Value} {v : Value} (hr : Region.ready md ops listed = [i]) (hi : ops[i]? = some oi) (hw : Region.wanted oi (yielded ops a.tmps) = true) (hrun : (execOp a.eval oi).run P w = .ok (.enter f args) w)
    (hc : Calls P f args w fun e w'' => e = .returned v ∧ S w'') (h : ∀ w'', S w'' → wpAnyH P md ops Q S fuel (listed.setIfInBounds i true) (a.put oi.dst v) w'') : wpAnyH P md ops Q S (fuel + 1) listed a w := by
  refine wpAnyH_ready hr (by simp) (AllReadyH.cons hi (fun K hK => ?_) AllReadyH.nil)
  rw [if_pos hw]
  unfold Oper.wp
  rw [hrun]
  refine hc.mono ?_
  rintro e w'' ⟨rfl, hS⟩
  exact hK.out _ _ hS (fun _ => h w'' hS)
/-- one operation is left that may come up: it turns the world -/
theorem h_turn (i : Nat) {oi : Oper} {w' : World} (hr : Region.ready md ops listed = [i]) (hi : ops[i]? = some oi) (hw : Region.wanted oi (yielded ops a.tmps) = true) (hrun : (execOp a.eval oi).run P w = .ok .skip w')
    (hS : S w') (h : wpAnyH P md ops Q S fuel (listed.setIfInBounds i true) (a.put oi.dst undef) w') : wpAnyH P md ops Q S (fuel + 1) listed a w := by
  refine wpAnyH_ready hr (by simp) (AllReadyH.cons hi (fun K hK => ?_) AllReadyH.nil)
  rw [if_pos hw]
  unfold Oper.wp
  rw [hrun]
  exact hK.out _ _ hS (fun _ => h)
end

section
variable {P : Program} {md : Region.Mode} {ops : Array Oper} {Q : Exit → Act → World → Prop} {S : World → Prop} {fuel : Nat} {listed : Array Bool} {a : Act} {w : World}
/-- the same, where the answer goes to a slot that is written out -/
theorem d_take (i k : Nat) {oi : Oper} {v : Value} (hi : ops[i]? = some oi) (hd : oi.dst = some k) (hs : Region.noSelect ops = true) (hf : Region.free md ops listed i = true) (hr : (Region.ready md ops listed).contains i = true)
    (hQ : ∀ c a w, Q (.panic c) (a.put (some k) v) w → Q (.panic c) a w) (hw : Region.wanted oi (yielded ops a.tmps) = true) (hv : ∀ w, S w → (execOp a.eval oi).run P w = .ok (.value v) w) (hS : S w)
    (h : wpAnyH P md ops Q S fuel (listed.setIfInBounds i true) (a.put (some k) v) w) : wpAnyH P md ops Q S (fuel + 1) listed a w :=
  h_take i hi hs hf hr (by rw [hd]; exact hQ) hw hv hS (by rw [hd]; exact h)
theorem d_call (i k : Nat) {oi : Oper} {f : FuncId} {args : Array Value} {v : Value} (hr : Region.ready md ops listed = [i]) (hi : ops[i]? = some oi) (hd : oi.dst = some k) (hw : Region.wanted oi (yielded ops a.tmps) = true) (hrun : (execOp a.eval oi).run P w = .ok (.enter f args) w)
    (hc : Calls P f args w fun e w'' => e = .returned v ∧ S w'') (h : ∀ w'', S w'' → wpAnyH P md ops Q S fuel (listed.setIfInBounds i true) (a.put (some k) v) w'') : wpAnyH P md ops Q S (fuel + 1) listed a w :=
  h_call i hr hi hw hrun hc (by rw [hd]; exact h)
theorem d_turn (i : Nat) {oi : Oper} {w' : World} (hr : Region.ready md ops listed = [i]) (hi : ops[i]? = some oi) (hd : oi.dst = none) (hw : Region.wanted oi (yielded ops a.tmps) = true) (hrun : (execOp a.eval oi).run P w = .ok .skip w')
    (hS : S w') (h : wpAnyH P md ops Q S fuel (listed.setIfInBounds i true) a w') : wpAnyH P md ops Q S (fuel + 1) listed a w :=
  h_turn i hr hi hw hrun hS (by rw [hd]; exact h)
end

section
variable {P : Program} {md : Region.Mode} {ops : Array Oper} {Q : Exit → Act → World → Prop} {S : World → Prop} {fuel : Nat} {listed : Array Bool} {a : Act} {w : World}
theorem d_callT (T : World → Prop) (i k : Nat) {oi : Oper} {f : FuncId} {args : Array Value} {v : Value} (hr : Region.ready md ops listed = [i]) (hi : ops[i]? = some oi) (hd : oi.dst = some k) (hw : Region.wanted oi (yielded ops a.tmps) = true) (hrun : (execOp a.eval oi).run P w = .ok (.enter f args) w)
    (hc : Calls P f args w fun e w'' => e = .returned v ∧ S w'' ∧ T w'') (h : ∀ w'', S w'' → T w'' → wpAnyH P md ops Q S fuel (listed.setIfInBounds i true) (a.put (some k) v) w'') : wpAnyH P md ops Q S (fuel + 1) listed a w := by
  refine wpAnyH_ready hr (by simp) (AllReadyH.cons hi (fun K hK => ?_) AllReadyH.nil)
  rw [if_pos hw]
  unfold Oper.wp
  rw [hrun]
  refine hc.mono ?_
  rintro e w'' ⟨rfl, hS, hT⟩
  exact hK.out _ _ hS (fun _ => by rw [hd]; exact h w'' hS hT)
/-- a call whose answer is new -/
theorem d_callN (T : Value → World → Prop) (i k : Nat) {oi : Oper} {f : FuncId} {args : Array Value} (hr : Region.ready md ops listed = [i]) (hi : ops[i]? = some oi) (hd : oi.dst = some k) (hw : Region.wanted oi (yielded ops a.tmps) = true) (hrun : (execOp a.eval oi).run P w = .ok (.enter f args) w)
    (hc : Calls P f args w fun e w'' => ∃ v, e = .returned v ∧ S w'' ∧ T v w'') (h : ∀ v w'', S w'' → T v w'' → wpAnyH P md ops Q S fuel (listed.setIfInBounds i true) (a.put (some k) v) w'') : wpAnyH P md ops Q S (fuel + 1) listed a w := by
  refine wpAnyH_ready hr (by simp) (AllReadyH.cons hi (fun K hK => ?_) AllReadyH.nil)
  rw [if_pos hw]
  unfold Oper.wp
  rw [hrun]
  refine hc.mono ?_
  rintro e w'' ⟨v, rfl, hS, hT⟩
  exact hK.out _ _ hS (fun _ => by rw [hd]; exact h v w'' hS hT)
theorem d_make (i k : Nat) {oi : Oper} {v : Value} {w' : World} (hr : Region.ready md ops listed = [i]) (hi : ops[i]? = some oi) (hd : oi.dst = some k) (hw : Region.wanted oi (yielded ops a.tmps) = true) (hrun : (execOp a.eval oi).run P w = .ok (.value v) w')
    (hS : S w') (h : wpAnyH P md ops Q S fuel (listed.setIfInBounds i true) (a.put (some k) v) w') : wpAnyH P md ops Q S (fuel + 1) listed a w := by
  refine wpAnyH_ready hr (by simp) (AllReadyH.cons hi (fun K hK => ?_) AllReadyH.nil)
  rw [if_pos hw]
  unfold Oper.wp
  rw [hrun]
  exact hK.out _ _ hS (fun _ => by rw [hd]; exact h)
/-- a call and a cell may come up: both orders -/
theorem d_two (T : World → Prop) (i k j l : Nat) {oi oj : Oper} {f : FuncId} {args : Array Value} {v u : Value} {w' : World} (hr : Region.ready md ops listed = [i, j]) (hi : ops[i]? = some oi) (hj : ops[j]? = some oj) (hd : oi.dst = some k) (hdj : oj.dst = some l) (hw : Region.wanted oi (yielded ops a.tmps) = true) (hwj : Region.wanted oj (yielded ops a.tmps) = true) (hrun : (execOp a.eval oi).run P w = .ok (.enter f args) w) (hrunj : (execOp a.eval oj).run P w = .ok (.value u) w')
    (hc : Calls P f args w fun e w'' => e = .returned v ∧ S w'' ∧ T w'') (hS : S w') (h : ∀ w'', S w'' → T w'' → wpAnyH P md ops Q S fuel (listed.setIfInBounds i true) (a.put (some k) v) w'') (h' : wpAnyH P md ops Q S fuel (listed.setIfInBounds j true) (a.put (some l) u) w') : wpAnyH P md ops Q S (fuel + 1) listed a w := by
  refine wpAnyH_ready hr (by simp) (AllReadyH.cons hi (fun K hK => ?_) (AllReadyH.cons hj (fun K hK => ?_) AllReadyH.nil))
  · rw [if_pos hw]
    unfold Oper.wp
    rw [hrun]
    refine hc.mono ?_
    rintro e w'' ⟨rfl, hS, hT⟩
    exact hK.out _ _ hS (fun _ => by rw [hd]; exact h w'' hS hT)
  · rw [if_pos hwj]
    unfold Oper.wp
    rw [hrunj]
    exact hK.out _ _ hS (fun _ => by rw [hdj]; exact h')
end

section
variable {P : Program} {md : Region.Mode} {ops : Array Oper} {Q : Exit → Act → World → Prop} {S : World → Prop} {fuel : Nat} {listed : Array Bool} {a : Act} {w : World}
/-- one operation is left that may come up: it reads -/
theorem d_read (i k : Nat) {oi : Oper} {v : Value} (hr : Region.ready md ops listed = [i]) (hi : ops[i]? = some oi) (hd : oi.dst = some k) (hw : Region.wanted oi (yielded ops a.tmps) = true) (hrun : (execOp a.eval oi).run P w = .ok (.value v) w)
    (hS : S w) (h : wpAnyH P md ops Q S fuel (listed.setIfInBounds i true) (a.put (some k) v) w) : wpAnyH P md ops Q S (fuel + 1) listed a w :=
  d_make i k hr hi hd hw hrun hS h
/-- two that may come up: both orders -/
theorem d_pair (i k j l : Nat) {oi oj : Oper} {v u : Value} {wi wj : World} (hr : Region.ready md ops listed = [i, j]) (hi : ops[i]? = some oi) (hj : ops[j]? = some oj) (hd : oi.dst = some k) (hdj : oj.dst = some l) (hw : Region.wanted oi (yielded ops a.tmps) = true) (hwj : Region.wanted oj (yielded ops a.tmps) = true) (hrun : (execOp a.eval oi).run P w = .ok (.value v) wi) (hrunj : (execOp a.eval oj).run P w = .ok (.value u) wj)
    (hS : S wi) (hSj : S wj) (h : wpAnyH P md ops Q S fuel (listed.setIfInBounds i true) (a.put (some k) v) wi) (h' : wpAnyH P md ops Q S fuel (listed.setIfInBounds j true) (a.put (some l) u) wj) : wpAnyH P md ops Q S (fuel + 1) listed a w := by
  refine wpAnyH_ready hr (by simp) (AllReadyH.cons hi (fun K hK => ?_) (AllReadyH.cons hj (fun K hK => ?_) AllReadyH.nil))
  · rw [if_pos hw]
    unfold Oper.wp
    rw [hrun]
    exact hK.out _ _ hS (fun _ => by rw [hd]; exact h)
  · rw [if_pos hwj]
    unfold Oper.wp
    rw [hrunj]
    exact hK.out _ _ hSj (fun _ => by rw [hdj]; exact h')
end

section
variable {P : Program} {ops : Array Oper} {Q : Exit → Act → World → Prop} {rest : List Oper} {op : Oper} {a : Act} {w : World}
theorem l_call (k : Nat) {f : FuncId} {args : Array Value} {R : Ending → World → Prop} (hd : op.dst = some k) (hw : Region.wanted op (yielded ops a.tmps) = true) (hr : (execOp a.eval op).run P w = .ok (.enter f args) w) (hc : Calls P f args w R)
    (h : ∀ e w', R e w' → ∃ v, e = .returned v ∧ wpList P ops Q rest (a.put (some k) v) w') : wpList P ops Q (op :: rest) a w :=
  BigFrame.wpList_want hw fun K hK => by
    unfold Oper.wp
    rw [hr]
    refine hc.mono ?_
    intro e w' he
    obtain ⟨v, rfl, h2⟩ := h e w' he
    exact hK _ _ (by rw [hd]; exact h2)
end

theorem w64i (x : Int) : IntKind.i64.wrap x = wrap64 x := by
  unfold wrap64
  simp [IntKind.wrap, IntKind.bits, IntKind.signed]
  try omega
end Go.Proofs.YtnmhcnppdhdhfaaGreatDoor

namespace Go.Proofs.YtnmhcnppdhdhfaaGreatDoor
open Go.RowKit
set_option linter.unusedVariables false
set_option linter.unusedSimpArgs false
set_option maxRecDepth 100000

theorem hid {p : Prop} (h : p) : Hid p := h
theorem alloc_newG (w : World) (o : Obj) : (w.alloc o).heap[w.heap.size]? = some o := by simp only [World.alloc]; simp
/-- only the block g may be turned -/
def At (g : Nat) : Nat → Prop := fun k => k = g
structure Wr where
  en : Int
  pr : Int
  li : Int
  au : Bool
  pl : Nat
  k : Rp.Wk
def Wr.at (v : Wr) (k : Rp.Wk) : Wr := ⟨v.en, v.pr, v.li, v.au, v.pl, k⟩
def cellv (v : Wr) : Nat → Value
  | 0 => .int .i64 v.en
  | 1 => .int .i64 v.pr
  | 2 => .int .i64 v.k.T
  | 3 => .int .i64 v.li
  | 4 => .int .i64 v.k.C
  | 5 => .bool v.au
  | 6 => .int .i64 v.pl
  | 7 => .int .i64 v.k.left
  | 8 => .int .i64 v.k.released
  | 9 => .int .i64 v.k.release
  | _ => .int .i64 v.k.worst
def LnF (w : World) (g N : Nat) (F : Nat → Nat → Value) : Prop :=
  (∃ cs, w.heap[g]? = some (.cells cs 63 (0, 0))) ∧ ∀ i j, i < N → j < 11 → w.cell? ⟨g, i * 11 + j, none⟩ = some (F i j)
/-- N workers in the block g -/
def Ln (w : World) (g N : Nat) (f : Nat → Wr) : Prop := LnF w g N (fun i => cellv (f i))
def upd (f : Nat → Wr) (i : Nat) (v : Wr) : Nat → Wr := fun a => if a = i then v else f a
theorem upd_same (f : Nat → Wr) (i : Nat) : upd f i (f i) = f := by
  funext a; unfold upd; split
  · rename_i h; rw [h]
  · rfl
theorem upd_at (f : Nat → Wr) (i : Nat) (v : Wr) : upd f i v i = v := by unfold upd; rw [if_pos rfl]
theorem upd_upd (f : Nat → Wr) (i : Nat) (u v : Wr) : upd (upd f i u) i v = upd f i v := by
  funext a; unfold upd; split <;> rfl

theorem pair11 {a b i j : Nat} (hb : b < 11) (hj : j < 11) (h : a * 11 + b = i * 11 + j) : a = i ∧ b = j := by omega
theorem cell_setG {w : World} {g i j : Nat} {v u : Value} (h : w.cell? ⟨g, i, none⟩ = some u) : (w.setCell ⟨g, j, none⟩ v).cell? ⟨g, i, none⟩ = some (if i = j then v else u) := by
  by_cases e : i = j
  · subst e
    rw [if_pos rfl]
    exact World.cell?_setCell_same' _ _ _ (by rw [h]; rfl)
  · rw [if_neg e]
    have hne : (⟨g, j, none⟩ : Addr) ≠ ⟨g, i, none⟩ := fun h' => e (by injection h' with _ h1 _; exact h1.symm)
    rw [World.cell?_setCell_other _ _ _ _ hne]
    exact h
theorem set_blkG {w : World} {g : Nat} {cs : Array Value} {t : TypeId} {fr : Nat × Nat} (h : w.heap[g]? = some (.cells cs t fr)) (j : Nat) (v : Value) : (w.setCell ⟨g, j, none⟩ v).heap[g]? = some (.cells (cs.setIfInBounds j v) t fr) := by
  have hl := heap_lt h
  simp [World.setCell, h, Array.getElem?_modify]
namespace LnF
variable {w w' : World} {g N : Nat} {F : Nat → Nat → Value}
theorem fz (h : LnF w g N F) (x : Nat) : w.frozen? ⟨g, x, none⟩ = false := by
  obtain ⟨cs, hc⟩ := h.1
  simp [World.frozen?, hc]
theorem kept {G : Nat → Prop} (h : LnF w g N F) (K : Kept G w w') (hg : ¬ G g) : LnF w' g N F :=
  ⟨by obtain ⟨cs, hc⟩ := h.1; exact ⟨cs, K.at' hc hg⟩, fun i j hi hj => K.cell (h.2 i j hi hj) hg⟩
theorem put (h : LnF w g N F) {i j : Nat} (hj : j < 11) (u : Value) : LnF (w.setCell ⟨g, i * 11 + j, none⟩ u) g N (fun a b => if a = i ∧ b = j then u else F a b) := by
  obtain ⟨cs, hc⟩ := h.1
  refine ⟨⟨_, set_blkG hc _ _⟩, fun a b ha hb => ?_⟩
  rw [cell_setG (h.2 a b ha hb)]
  show _ = some (if a = i ∧ b = j then u else F a b)
  by_cases e : a * 11 + b = i * 11 + j
  · rw [if_pos e, if_pos (pair11 hb hj e)]
  · rw [if_neg e, if_neg (fun q => e (by rw [q.1, q.2]))]
theorem congr {F' : Nat → Nat → Value} (h : LnF w g N F) (hf : ∀ i j, i < N → j < 11 → F i j = F' i j) : LnF w g N F' := ⟨h.1, fun i j hi hj => by rw [← hf i j hi hj]; exact h.2 i j hi hj⟩
end LnF
theorem Ln.cells {w : World} {g N : Nat} {f : Nat → Wr} (h : Ln w g N f) {i : Nat} (hi : i < N) (j : Nat) (hj : j < 11) : w.cell? ⟨g, i * 11 + j, none⟩ = some (cellv (f i) j) := h.2 i j hi hj
theorem Ln.kept {G : Nat → Prop} {w w' : World} {g N : Nat} {f : Nat → Wr} (h : Ln w g N f) (K : Kept G w w') (hg : ¬ G g) : Ln w' g N f := LnF.kept h K hg
theorem Ln.lt {w : World} {g N : Nat} {f : Nat → Wr} (h : Ln w g N f) : g < w.heap.size := by
  obtain ⟨cs, hc⟩ := h.1
  exact heap_lt hc
end Go.Proofs.YtnmhcnppdhdhfaaGreatDoor

namespace Go.Proofs.YtnmhcnppdhdhfaaGreatDoor
open Go.RowKit
set_option linter.unusedVariables false
set_option linter.unusedSimpArgs false
set_option maxRecDepth 100000



/-- how much of the releases is left, read off the memory -/
def relM (now : Nat) (w : World) (g o : Nat) : Nat := match w.cell? ⟨g, o, none⟩ with
  | some (.int _ r) => (now + 1 - r).toNat
  | _ => 0
/-- a worker's release done, in its cells -/
theorem catch_cells (f : Nat → Wr) (i : Nat) (k : Rp.Wk) (r2 : Nat) (a b : Nat) (hb : b < 11) :
    (if a = i ∧ b = 9 then Value.int .i64 (r2 : Int) else if a = i ∧ b = 8 then Value.int .i64 (k.release : Int) else if a = i ∧ b = 7 then Value.int .i64 (k.C : Int) else cellv (upd f i ((f i).at k) a) b) = cellv (upd f i ((f i).at { k with left := k.C, released := k.release, release := r2 }) a) b := by
  by_cases e : a = i
  · subst e
    rw [upd_at, upd_at]
    match b, hb with
    | 0, _ => simp [cellv, Wr.at]
    | 1, _ => simp [cellv, Wr.at]
    | 2, _ => simp [cellv, Wr.at]
    | 3, _ => simp [cellv, Wr.at]
    | 4, _ => simp [cellv, Wr.at]
    | 5, _ => simp [cellv, Wr.at]
    | 6, _ => simp [cellv, Wr.at]
    | 7, _ => simp [cellv, Wr.at]
    | 8, _ => simp [cellv, Wr.at]
    | 9, _ => simp [cellv, Wr.at]
    | 10, _ => simp [cellv, Wr.at]
  · unfold upd
    simp [e]

/-- what catchUp answers -/
structure Cau (A : Nat → Bool) (now ar g N : Nat) (f : Nat → Wr) (i : Nat) (w w' : World) (b : Bool) (k : Rp.Wk) : Prop where
  ln : Ln w' g N (upd f i ((f i).at k))
  kp : Kept (At g) w w'
  eT : k.T = (f i).k.T
  eC : k.C = (f i).k.C
  yes : b = true → Rp.J A now k ∧ ar < k.release
  no : b = false → ¬ Rp.okE A (fun _ => (f i).k.C) (f i).k.T ar
  rl : k.release = (f i).k.release ∨ k.release ≤ ar + k.T
set_option maxHeartbeats 8000000 in
theorem catchUp_any {g N : Nat} {f : Nat → Wr} {i : Nat} (A : Nat → Bool) (now ar : Nat) (har : ar ≤ now) (w : World) (h : Ln w g N f) (hi : i < N) (hJ : Rp.J A now (f i).k) (hnow : now ≤ 2199023255552) (hT : (f i).k.T ≤ 2199023255552) :
    Calls Tryz.prog 52 #[.pointer (some ⟨g, i * 11, none⟩), .int .i64 ar] w fun e w' => ∃ (b : Bool) (k : Rp.Wk), e = .returned (.bool b) ∧ Cau A now ar g N f i w w' b k := by
  have HL0 : Hid (Ln w g N f) := h
  have HJ0 : Hid (Rp.J A now (f i).k) := hJ
  obtain ⟨v, hv⟩ : ∃ v, f i = v := ⟨_, rfl⟩
  have hvk : (f i).at (f i).k = f i := rfl
  have HU : Hid (∀ k : Rp.Wk, upd (upd f i ((f i).at k)) i ((f i).at k) = upd f i ((f i).at k)) := fun k => by rw [upd_upd]
  clear h hJ
  go_enter Tryz.func52, Tryz.ntmps52
  go_wp2
  go_loopw [] (fun wr => ∃ k : Rp.Wk, Ln wr g N (upd f i ((f i).at k)) ∧ Kept (At g) w wr ∧ k.T = (f i).k.T ∧ k.C = (f i).k.C ∧ Rp.J A now k ∧ (k.release = (f i).k.release ∨ k.release ≤ ar + k.T)) (fun wr => relM ar wr g (i * 11 + 9))
  case atStart => exact ⟨(f i).k, by rw [hvk, upd_same]; exact HL0.out, Kept.refl _ _, rfl, rfl, HJ0.out, .inl rfl⟩
  case round =>
    obtain ⟨k, hln, K, hkT, hkC, hJ, hrl⟩ := hrel
    have HRL : Hid (k.release = (f i).k.release ∨ k.release ≤ ar + k.T) := hrl
    have hu : upd f i ((f i).at k) i = (f i).at k := upd_at _ _ _
    have c2 := hln.cells hi 2 (by omega)
    have c4 := hln.cells hi 4 (by omega)
    have c7 := hln.cells hi 7 (by omega)
    have c8 := hln.cells hi 8 (by omega)
    have c9 := hln.cells hi 9 (by omega)
    rw [hu] at c2 c4 c7 c8 c9
    simp only [cellv, Wr.at] at c2 c4 c7 c8 c9
    have HLN : Hid (Ln wr g N (upd f i ((f i).at k))) := hln
    have HK : Hid (Kept (At g) w wr) := K
    have HJ : Hid (Rp.J A now k ∧ k.T = (f i).k.T ∧ k.C = (f i).k.C) := ⟨hJ, hkT, hkC⟩
    have hkT2 : k.T ≤ 2199023255552 := by omega
    clear hln K hJ hkT hkC hu hrl
    by_cases hr : k.release ≤ ar
    · have hrz : (k.release : Int) ≤ (ar : Int) := by omega
      have hrn : k.release ≤ now := by omega
      by_cases hl : 0 < k.left
      · have hlz : (k.left : Int) > 0 := by omega
        go_wp2
        go_ret
        exact ⟨false, k, rfl, ⟨HLN.out, HK.out, HJ.out.2.1, HJ.out.2.2, fun h => (by cases h), fun _ => by have := Rp.J.late HJ.out.1 har hr hl; rw [HJ.out.2.1, HJ.out.2.2] at this; exact this, HRL.out⟩⟩
      · have hlz : ¬ (k.left : Int) > 0 := by omega
        have f7 := HLN.out.fz (i * 11 + 7)
        have f8 := HLN.out.fz (i * 11 + 8)
        have f9 := HLN.out.fz (i * 11 + 9)
        have hadd : IntKind.i64.wrap ((k.release : Int) + (k.T : Int)) = ((k.release + k.T : Nat) : Int) := by rw [IntWalk.i64_in _ ⟨by omega, by omega⟩]; omega
        go_upto_region 4 with fail
        go_region
        have L2 : LnF ((wr.setCell ⟨g, i * 11 + 7, none⟩ (.int .i64 (k.C : Int))).setCell ⟨g, i * 11 + 8, none⟩ (.int .i64 (k.release : Int))).drew g N (fun a b => if a = i ∧ b = 8 then Value.int .i64 (k.release : Int) else if a = i ∧ b = 7 then Value.int .i64 (k.C : Int) else cellv (upd f i ((f i).at k) a) b) :=
          (LnF.put (LnF.put HLN.out (i := i) (j := 7) (by omega) _) (i := i) (j := 8) (by omega) _).kept (Kept.refl No _).drew (fun h => h)
        have K2 : Kept (At g) w ((wr.setCell ⟨g, i * 11 + 7, none⟩ (.int .i64 (k.C : Int))).setCell ⟨g, i * 11 + 8, none⟩ (.int .i64 (k.release : Int))).drew := ((HK.out.setCell (p := ⟨g, i * 11 + 7, none⟩) (.inl rfl) _).setCell (p := ⟨g, i * 11 + 8, none⟩) (.inl rfl) _).drew
        clear c2 c4 c7 c8 c9 f7 f8 f9
        generalize ((wr.setCell ⟨g, i * 11 + 7, none⟩ (.int .i64 (k.C : Int))).setCell ⟨g, i * 11 + 8, none⟩ (.int .i64 (k.release : Int))).drew = w5 at *
        have hu : upd f i ((f i).at k) i = (f i).at k := upd_at _ _ _
        have e2 : w5.cell? ⟨g, i * 11 + 2, none⟩ = some (cellv (upd f i ((f i).at k) i) 2) := (L2.2 i 2 hi (by omega)).trans (by simp)
        have e9 : w5.cell? ⟨g, i * 11 + 9, none⟩ = some (cellv (upd f i ((f i).at k) i) 9) := (L2.2 i 9 hi (by omega)).trans (by simp)
        rw [hu] at e2 e9
        simp only [cellv, Wr.at] at e2 e9
        have f9 := L2.fz (i * 11 + 9)
        have H2 : Hid (LnF w5 g N (fun a b => if a = i ∧ b = 8 then Value.int .i64 (k.release : Int) else if a = i ∧ b = 7 then Value.int .i64 (k.C : Int) else cellv (upd f i ((f i).at k) a) b) ∧ Kept (At g) w w5) := ⟨L2, K2⟩
        clear L2 K2 hu
        go_upto_region 5 with fail
        go_region
        rw [show ((k.release : Int) + (k.T : Int)) = ((k.release + k.T : Nat) : Int) from (Int.natCast_add _ _).symm]
        have L3 : Ln (w5.setCell ⟨g, i * 11 + 9, none⟩ (.int .i64 ((k.release + k.T : Nat) : Int))).drew g N (upd f i ((f i).at { k with left := k.C, released := k.release, release := k.release + k.T })) :=
          LnF.congr ((LnF.put H2.out.1 (i := i) (j := 9) (by omega) (.int .i64 ((k.release + k.T : Nat) : Int))).kept (Kept.refl No _).drew (fun h => h)) (fun a b _ hb => catch_cells f i k (k.release + k.T) a b hb)
        have K3 : Kept (At g) w (w5.setCell ⟨g, i * 11 + 9, none⟩ (.int .i64 ((k.release + k.T : Nat) : Int))).drew := (H2.out.2.setCell (p := ⟨g, i * 11 + 9, none⟩) (.inl rfl) _).drew
        have HM2 : Hid (relM ar (w5.setCell ⟨g, i * 11 + 9, none⟩ (.int .i64 ((k.release + k.T : Nat) : Int))).drew g (i * 11 + 9) = (ar + 1 - ((k.release + k.T : Nat) : Int)).toNat) := by
          have := Ln.cells L3 hi 9 (by omega)
          rw [upd_at] at this
          simp only [cellv, Wr.at] at this
          show relM _ _ _ _ = _
          unfold relM
          rw [this]
        have H3 : Hid (Ln (w5.setCell ⟨g, i * 11 + 9, none⟩ (.int .i64 ((k.release + k.T : Nat) : Int))).drew g N (upd f i ((f i).at { k with left := k.C, released := k.release, release := k.release + k.T })) ∧ Kept (At g) w (w5.setCell ⟨g, i * 11 + 9, none⟩ (.int .i64 ((k.release + k.T : Nat) : Int))).drew) := ⟨L3, K3⟩
        have HMW : Hid (relM ar wr g (i * 11 + 9) = (ar + 1 - (k.release : Int)).toNat) := by
          have := Ln.cells HLN.out hi 9 (by omega)
          rw [upd_at] at this
          simp only [cellv, Wr.at] at this
          show relM _ _ _ _ = _
          unfold relM
          rw [this]
        clear L3 K3 e2 e9 f9
        generalize (w5.setCell ⟨g, i * 11 + 9, none⟩ (.int .i64 ((k.release + k.T : Nat) : Int))).drew = w6 at *
        go_wp2
        go_roundw
        case rel => exact ⟨_, H3.out.1, H3.out.2, HJ.out.2.1, HJ.out.2.2, HJ.out.1.catch hrn (by omega), .inr (by show k.release + k.T ≤ ar + k.T; omega)⟩
        case measure =>
          rw [HM2.out, HMW.out]
          have := HJ.out.1.pT
          omega
    · have hrz : ¬ (k.release : Int) ≤ (ar : Int) := by omega
      go_wp2
      go_ret
      exact .inr ⟨rfl, k, ⟨HLN.out, HK.out, HJ.out.2.1, HJ.out.2.2, fun _ => ⟨HJ.out.1, by omega⟩, fun h => (by cases h), HRL.out⟩⟩
end Go.Proofs.YtnmhcnppdhdhfaaGreatDoor
