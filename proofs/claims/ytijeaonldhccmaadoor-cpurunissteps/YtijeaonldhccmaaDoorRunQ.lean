/-
  Runs in two parts: plain. The same contract over a list.
-/
import Derived.Test.YtijeaonldhccmaaDoorRun
import Derived.Test.YtijeaonldhccmaaDoorKeeps
namespace Go.Proofs.YtijeaonldhccmaaDoor
open Go.RowKit
set_option linter.unusedVariables false

theorem runN_add (xs : List Ins) (fx : Int) : ∀ (a b : Nat) (s : Ef × List Int),
    runN xs fx (a + b) s = if onR (runN xs fx a s).1 = true then ((runN xs fx b (runN xs fx a s).1).1, (runN xs fx a s).2 + (runN xs fx b (runN xs fx a s).1).2) else runN xs fx a s
  | 0, b, s => by
    rw [Nat.zero_add]
    show _ = if onR s = true then ((runN xs fx b s).1, 0 + (runN xs fx b s).2) else (s, 0)
    cases h : onR s with
    | true => rw [if_pos rfl, Nat.zero_add]
    | false => rw [if_neg (by decide), runN_off h]
  | a + 1, b, s => by
    cases h : onR s with
    | true =>
      rw [show a + 1 + b = (a + b) + 1 by omega, runN_on h, runN_on h, runN_add xs fx a b (stR xs fx s)]
      dsimp only
      split
      · dsimp only
        congr 1
        omega
      · rfl
    | false => rw [runN_off h, runN_off h]; dsimp only; rw [if_neg (by rw [h]; decide)]

/-- what the reset of an effect leaves -/
def rst (s : Ef × List Int) : Ef × List Int := (⟨s.1.R, s.1.pc, false, 0, 0, 0, 0⟩, s.2)
theorem runN_rst (xs : List Ins) (fx : Int) (k : Nat) (s : Ef × List Int) (h : onR s = true) :
    (runN xs fx k (rst s)).2 = (runN xs fx k s).2 ∧ (runN xs fx k (rst s)).1.2 = (runN xs fx k s).1.2 ∧ (runN xs fx k (rst s)).1.1.R = (runN xs fx k s).1.1.R ∧ (runN xs fx k (rst s)).1.1.pc = (runN xs fx k s).1.1.pc ∧ (runN xs fx k (rst s)).1.1.fa = (runN xs fx k s).1.1.fa ∧ (runN xs fx k (rst s)).1.1.ca = (runN xs fx k s).1.1.ca := by
  have h0 : onR (rst s) = true := rfl
  cases k with
  | zero =>
    unfold onR at h
    rw [Bool.and_eq_true] at h
    exact ⟨rfl, rfl, rfl, rfl, (by simpa using h.1 : s.1.fa = 0).symm, (by simpa using h.2 : s.1.ca = 0).symm⟩
  | succ k =>
    rw [runN_on h, runN_on h0]
    have e : stR xs fx (rst s) = stR xs fx s := rfl
    rw [e]
    exact ⟨rfl, rfl, rfl, rfl, rfl, rfl⟩
theorem runN_length (xs : List Ins) (fx : Int) : ∀ (k : Nat) (s : Ef × List Int), (runN xs fx k s).1.2.length = s.2.length
  | 0, s => rfl
  | k + 1, s => by
    cases h : onR s with
    | true => rw [runN_on h]; dsimp only; rw [runN_length xs fx k, stR_length]
    | false => rw [runN_off h]
theorem runN_le (xs : List Ins) (fx : Int) : ∀ (k : Nat) (s : Ef × List Int), (runN xs fx k s).2 ≤ k
  | 0, s => Nat.le_refl _
  | k + 1, s => by
    cases h : onR s with
    | true => rw [runN_on h]; have := runN_le xs fx k (stR xs fx s); dsimp only; omega
    | false => rw [runN_off h]; exact Nat.zero_le _

/-- cpu.Run, its memory as a list -/
theorem run_zs (F G : Nat → Prop) (R : Nat → Int) (p m : Option Addr) (n cc mn mc : Nat) (fx pc most : Int) (xs : List Ins) (ms : List Int) (w : World) (hc : Cs w F p n cc xs) (hz : Zs w G m mn mc ms) (hO : Ops w) (hmn : mn ≤ 17592186043904) (hmost : most ≤ 6000) (r : (Ef × List Int) × Nat) (hr : r = runN xs fx most.toNat (⟨R, pc, false, 0, 0, 0, 0⟩, ms)) :
    Calls Tryd.prog 17 #[.slice p n cc, .slice m mn mc, .int .i64 fx, regV R, .int .i64 pc, .int .i64 most] w fun ex w' =>
      ∃ a c, ex = .returned (.tuple #[effV r.1.1.R r.1.1.pc r.1.1.st r.1.1.ad r.1.1.va r.1.1.fa r.1.1.ca, .slice a mn c, .int .i64 r.2]) ∧ Zs w' (fun g => w.heap.size ≤ g) a mn c r.1.2 ∧ Below w.heap.size w w' := by
  refine (run_any F G R p m n cc mn mc fx pc most xs ms w hc hz hO hmn hmost).mono ?_
  rw [← hr]
  rintro ex w' ⟨v, rfl, own, bel⟩
  have hl : r.1.2.length = mn := by rw [hr, runN_length]; exact hz.len
  obtain ⟨a, c, hv, hzz⟩ := Zs.of_owns (xs := r.1.2) (by rw [hl]; exact own)
  rw [hl] at hv hzz
  subst hv
  exact ⟨a, c, rfl, hzz.mono (fun k hk => (own.lt k hk).1), bel⟩

/-- the law's own rounds -/
structure Rl (w0 w : World) (a : Option Addr) (n c : Nat) (E : Ef) (ms : List Int) : Prop where
  bel : Below w0.heap.size w0 w
  eff : w.heap[w0.heap.size]? = some (.cells (effC E.R E.pc E.st E.ad E.va E.fa E.ca) 27)
  mm : Mm w (w0.heap.size + 1) (.slice a n c) ms []
  len : ms.length = n
theorem Rl.step {w0 w w' : World} {a : Option Addr} {n c : Nat} {E E' : Ef} {ms : List Int} (h : Rl w0 w a n c E ms) (b : Below w.heap.size w w') : Rl w0 (w'.setRow w0.heap.size (effC E'.R E'.pc E'.st E'.ad E'.va E'.fa E'.ca)) a n c E' ms := by
  have m1 := h.mm.kept (Kept.of_below (F := No) b) (fun _ _ h => h)
  have e1 := (b.block _ (heap_lt h.eff)).trans h.eff
  have b1 := h.bel.trans (b.mono h.bel.size)
  exact ⟨⟨b1.os, b1.tape, b1.output, by simpa [World.setRow] using b1.size, fun k hk => (setRow_other _ _ _ _ (by omega)).trans (b1.block k hk)⟩, setRow_heap _ _ _ _ _ _ e1, m1.kept (kept_setRow _ _ _) (fun g hg e => by have := m1.ge hg; omega), h.len⟩
theorem Rl.setw {w0 w : World} {g n c : Nat} {E : Ef} {ms : List Int} (h : Rl w0 w (some ⟨g, 0, none⟩) n c E ms) {i : Nat} (hi : i < n) (x : Int) : Rl w0 (w.setCell ⟨g, i, none⟩ (.int .i64 x)) (some ⟨g, 0, none⟩) n c E (ms.set i x) := by
  have hge := h.mm.ge (g := g) rfl
  exact ⟨h.bel.setCell (p := ⟨g, i, none⟩) (by show w0.heap.size ≤ g; omega) _, (heap_setCell_ne _ _ _ _ (by show w0.heap.size ≠ g; omega)).trans h.eff, h.mm.set_ (g := g) rfl (by rw [h.len]; exact hi) x, by rw [List.length_set]; exact h.len⟩
theorem wrX_set {ms : List Int} {fx A V : Int} (h : wb ms.length fx A 1 = true) : wrX ms fx A [V] = ms.set A.toNat V := by
  unfold wrX
  rw [show (([V] : List Int).length : Int) = 1 from rfl, h, if_pos rfl]
  unfold wb at h
  rw [Bool.and_eq_true, wi_iff] at h
  unfold laid
  rw [List.set_eq_take_append_cons_drop, if_pos (by omega)]
  rfl

end Go.Proofs.YtijeaonldhccmaaDoor
