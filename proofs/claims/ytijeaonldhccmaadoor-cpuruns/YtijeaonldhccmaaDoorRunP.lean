/-
  A run: plain, and what lies in the memory.
-/
import Derived.Test.YtijeaonldhccmaaDoorStepAny
import Derived.Test.YtijeaonldhccmaaDoorGuards
namespace Go.Proofs.YtijeaonldhccmaaDoor
open Go.RowKit
set_option linter.unusedVariables false

/-- one round -/
def stR (xs : List Ins) (fx : Int) (s : Ef × List Int) : Ef × List Int :=
  (stepE xs s.2 fx s.1.R s.1.pc, if (stepE xs s.2 fx s.1.R s.1.pc).st = true then wrX s.2 fx (stepE xs s.2 fx s.1.R s.1.pc).ad [(stepE xs s.2 fx s.1.R s.1.pc).va] else s.2)
def onR (s : Ef × List Int) : Bool := (s.1.fa == 0) && (s.1.ca == 0)
def runN (xs : List Ins) (fx : Int) : Nat → Ef × List Int → (Ef × List Int) × Nat
  | 0, s => (s, 0)
  | k + 1, s => if onR s = true then ((runN xs fx k (stR xs fx s)).1, (runN xs fx k (stR xs fx s)).2 + 1) else (s, 0)
theorem runN_off {xs : List Ins} {fx : Int} {s : Ef × List Int} (h : onR s = false) (k : Nat) : runN xs fx k s = (s, 0) := by
  cases k with
  | zero => rfl
  | succ k => unfold runN; rw [if_neg (by rw [h]; decide)]
theorem runN_on {xs : List Ins} {fx : Int} {s : Ef × List Int} (h : onR s = true) (k : Nat) : runN xs fx (k + 1) s = ((runN xs fx k (stR xs fx s)).1, (runN xs fx k (stR xs fx s)).2 + 1) := by
  show (if onR s = true then _ else _) = _
  rw [if_pos h]
theorem stR_length (xs : List Ins) (fx : Int) (s : Ef × List Int) : (stR xs fx s).2.length = s.2.length := by
  unfold stR
  dsimp only
  split
  · exact wrX_length _ _ _ _
  · rfl

/-- j rounds of M are done, s stands -/
def Inv (xs : List Ins) (fx : Int) (M : Nat) (s0 : Ef × List Int) (j : Nat) (s : Ef × List Int) : Prop :=
  runN xs fx M s0 = ((runN xs fx (M - j) s).1, (runN xs fx (M - j) s).2 + j)
theorem Inv.zero (xs : List Ins) (fx : Int) (M : Nat) (s0 : Ef × List Int) : Inv xs fx M s0 0 s0 := rfl
theorem Inv.go {xs : List Ins} {fx : Int} {M : Nat} {s0 : Ef × List Int} {j : Nat} {s : Ef × List Int} (h : Inv xs fx M s0 j s) (hj : j < M) (ho : onR s = true) : Inv xs fx M s0 (j + 1) (stR xs fx s) := by
  unfold Inv at *
  rw [h, show M - j = (M - (j + 1)) + 1 by omega, runN_on ho]
  dsimp only
  congr 1
  omega
theorem Inv.stop {xs : List Ins} {fx : Int} {M : Nat} {s0 : Ef × List Int} {j : Nat} {s : Ef × List Int} (h : Inv xs fx M s0 j s) (hj : M ≤ j ∨ onR s = false) : runN xs fx M s0 = (s, j) := by
  unfold Inv at h
  rcases hj with hj | hj
  · rw [h, show M - j = 0 by omega]
    show (s, 0 + j) = _
    rw [Nat.zero_add]
  · rw [h, runN_off hj]
    show (s, 0 + j) = _
    rw [Nat.zero_add]

theorem results_cell3 {P : Program} {fn : Func} {p b c : Tmp} {ty : TypeId} (h : fn.results = #[.cell p ty, .tmp b, .tmp c]) (tmps : Array Value) (w : World) (g : Nat) (t : TypeId) (cs : Array Value) (fr : Nat × Nat) (d : TypeDesc)
    (hp : tmps.getD p undef = .pointer (some ⟨g, 0, none⟩)) (hg : w.heap[g]? = some (.cells cs t fr))
    (hu : P.underlying ty = some d) (hd : (match d with | .struct _ | .array _ _ => true | _ => false) = true) (hi : (P.info? ty).map (·.size) = some cs.size) :
    (results fn tmps).run P w = .ok (.tuple #[.agg cs, tmps.getD b undef, tmps.getD c undef]) w := by
  have hp' : tmps[p]?.getD undef = .pointer (some ⟨g, 0, none⟩) := by simpa using hp
  simp [results, h, hp', asAddr, run_loadVar_row w g t ty cs fr d hg hu hd hi]

theorem run_build27b (R : Nat → Int) (pc : Int) (w : World) : (Instr.build 27 #[(0, regV R), (1, .int .i64 pc)]).run Tryd.prog w = .ok (effV R pc false 0 0 0 0) w := by
  unfold regV regC effV effC
  simp [Instr.build, Instr.fill, Value.cells]
theorem wl_build27b {ops : Array Oper} {rest : List Oper} {op : Oper} {a : Act} {w : World} {Q : Exit → Act → World → Prop} (x y : Operand) (ho : op.op = .build 27 #[(0, x), (1, y)]) (hgd : op.guard = none) (R : Nat → Int) (pc : Int) (hx : a.eval x = regV R) (hy : a.eval y = .int .i64 pc)
    (h : wpList Tryd.prog ops Q rest (a.put op.dst (effV R pc false 0 0 0 0)) w) : wpList Tryd.prog ops Q (op :: rest) a w :=
  wpList_val hgd (by simp only [execOp, ho, List.map_toArray, List.map_cons, List.map_nil, hx, hy]; rw [Sem.run_bind, run_build27b R pc w]; rfl) h

theorem fr_newb (w : World) (R : Nat → Int) (pc : Int) :
    Fr w (((w.alloc (.cells (regC R) 25)).alloc (.cells (effC zeroR 0 false 0 0 0 0) 27)).alloc (.cells (effC R pc false 0 0 0 0) 27)) R R pc false 0 0 0 0 := by
  refine ⟨(((Below.refl _ w).alloc (Nat.le_refl _) _).alloc (by simp) _).alloc (by simp; omega) _, ?_, ?_, ?_⟩
  · rw [Below.heap_alloc _ _ _ (by simp; omega), Below.heap_alloc _ _ _ (by simp)]; exact heap_alloc_last _ _
  · rw [Below.heap_alloc _ _ _ (by simp)]
    have := heap_alloc_last (w.alloc (.cells (regC R) 25)) (.cells (effC zeroR 0 false 0 0 0 0) 27)
    simpa using this
  · have := heap_alloc_last ((w.alloc (.cells (regC R) 25)).alloc (.cells (effC zeroR 0 false 0 0 0 0) 27)) (.cells (effC R pc false 0 0 0 0) 27)
    simpa using this
theorem Fr.kept {w0 w w' : World} {R0 R : Nat → Int} {pc : Int} {st : Bool} {ad va fa ca : Int} {G : Nat → Prop} (h : Fr w0 w R0 R pc st ad va fa ca) (k : Kept G w w') (hG : ∀ g, G g → w0.heap.size + 1 + 1 < g) : Fr w0 w' R0 R pc st ad va fa ca :=
  have hlt := h.lt2
  ⟨⟨k.os.trans h.bel.os, k.tape.trans h.bel.tape, k.output.trans h.bel.output, Nat.le_trans h.bel.size k.size, fun i hi => (k.block i (by omega) (fun hg => by have := hG i hg; omega)).trans (h.bel.block i hi)⟩,
   (k.block _ (by omega) (fun hg => by have := hG _ hg; omega)).trans h.reg, (k.block _ (by omega) (fun hg => by have := hG _ hg; omega)).trans h.res, (k.block _ hlt (fun hg => by have := hG _ hg; omega)).trans h.eff⟩
theorem kept_setRow (w : World) (g : Nat) (cs : Array Value) : Kept (fun k => k = g) w (w.setRow g cs) :=
  ⟨rfl, rfl, rfl, by simp [World.setRow], fun k hk hn => setRow_other _ _ _ _ hn⟩
theorem Mm.ge {w : World} {B g : Nat} {v : Value} {xs ys : List Int} (h : Mm w B v xs ys) (hg : v.ownBlock = some g) : B ≤ g := by
  obtain ⟨_, _, _, _, hb, _⟩ := h.blk hg
  exact hb

end Go.Proofs.YtijeaonldhccmaaDoor
