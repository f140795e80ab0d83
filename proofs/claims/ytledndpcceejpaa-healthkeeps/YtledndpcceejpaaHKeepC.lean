/-
  HealthKeeps: what its walks have in common.
-/
import Derived.Test.YtledndpcceejpaaHJudge
import Derived.Test.YtledndpcceejpaaHPrt
import Derived.Deep.DeepCutAuto
namespace Go.Proofs.Ytledndpcceejpaa
open Go.RowKit
set_option linter.unusedVariables false
set_option maxRecDepth 100000

theorem pnL_len (gi gc g N cap : Nat) (h : Int) (t : Nat → Int) : (pnL gi gc g N cap h t).length = 21 := rfl
theorem pnL_8 (gi gc g N cap : Nat) (h : Int) (t : Nat → Int) : (pnL gi gc g N cap h t)[8]? = some (.slice (some ⟨g, 0, none⟩) N cap) := rfl
theorem pnL_9 (gi gc g N cap : Nat) (h : Int) (t : Nat → Int) : (pnL gi gc g N cap h t)[9]? = some (.int .i64 h) := rfl
theorem pnL_t (gi gc g N cap : Nat) (h : Int) (t : Nat → Int) : ∀ j, j < 8 → (pnL gi gc g N cap h t)[10 + j]? = some (.int .i64 (t j))
  | 0, _ => rfl
  | 1, _ => rfl
  | 2, _ => rfl
  | 3, _ => rfl
  | 4, _ => rfl
  | 5, _ => rfl
  | 6, _ => rfl
  | 7, _ => rfl
  | j + 8, h => by omega
theorem pnL_one (gi gc g N cap : Nat) (h : Int) (t : Nat → Int) : (pnL gi gc g N cap h t).toArray.all (·.oneCell') = true := pn_one _ _ _ _ _ _ _ _ _ h t
theorem cs_ld {W : World} {b : Nat} {n h : Int} {t : Nat → Int} {k p : Int} {busy : Bool} (H : W.heap[b]? = some (.cells (csA n h t k p busy) 24)) : (Instr.loadAt 24 (.pointer (some ⟨b, 0, none⟩))).run Try.prog W = .ok (.agg (csA n h t k p busy)) W :=
  run_loadAt_mid W b 0 _ (csA n h t k p busy).toList _ (fun j v hv => by rw [Nat.zero_add]; exact cell_row H (by simpa using hv)) Try.underlying24 rfl (by kernel_rfl)

theorem er_c4 {w : World} {a : Act} {o : Oper} (x : Operand) (t : TypeId) (ho : o.op = .call { callee := .value (.func 4), args := #[x], argTypes := #[t] }) (v : Value) (hx : a.eval x = v) : (execOp a.eval o).run Try.prog w = .ok (.enter 4 #[v]) w := by
  subst hx
  simp [execOp, ho, go_sem, Act.eval]
theorem cs_t {W : World} {b : Nat} {n h : Int} {t : Nat → Int} {k p : Int} {busy : Bool} (H : W.heap[b]? = some (.cells (csA n h t k p busy) 24)) : ∀ j, j < 8 → W.cell? ⟨b, 2 + j, none⟩ = some (.int .i64 (t j))
  | 0, _ => cell_row H rfl
  | 1, _ => cell_row H rfl
  | 2, _ => cell_row H rfl
  | 3, _ => cell_row H rfl
  | 4, _ => cell_row H rfl
  | 5, _ => cell_row H rfl
  | 6, _ => cell_row H rfl
  | 7, _ => cell_row H rfl
  | j + 8, h => by omega
/-- the case, the partition and the verdict where they lie -/
structure Kw (w W : World) (n h : Int) (t : Nat → Int) (k p : Int) (busy : Bool) (pb : Nat) (cs : List Value) : Prop where
  hk : Kept No w W
  c : W.heap[w.heap.size]? = some (.cells (csA n h t k p busy) 24)
  pn : W.heap[pb]? = some (.cells cs.toArray 34)
  lo : w.heap.size < pb
theorem Kw.keep {w W W' : World} {n h : Int} {t : Nat → Int} {k p : Int} {busy : Bool} {pb : Nat} {cs : List Value} (K : Kw w W n h t k p busy pb cs) (kk : Kept No W W') : Kw w W' n h t k p busy pb cs :=
  ⟨K.hk.trans kk (fun _ e => .inl e), kk.at' K.c (fun e => e), kk.at' K.pn (fun e => e), K.lo⟩

/-- a plain entry of the table -/
def plB (a k : Int) : Prop := 0 ≤ a ∧ a ≤ 5 ∧ a ≠ 3 ∧ (a ≠ 0 ∨ k ≠ 4)
theorem jd_cases (N : Nat) (h : Int) (t : Nat → Int) (k p : Int) (busy : Bool) (hk : 1 ≤ k ∧ k ≤ 7) (hp : 1 ≤ p ∧ p ≤ N) (hn : ¬ (1 ≤ h ∧ h ≤ N ∧ p = h)) :
    (jdA N h t k p busy = 0 ∧ jdP N h t k p busy = p ∧ k ≠ 4 ∧ (plB (t k.toNat) k → t k.toNat = 0)) ∨ (jdA N h t k p busy = 1 ∧ jdP N h t k p busy = p ∧ (plB (t k.toNat) k → t k.toNat = 1)) ∨ (jdA N h t k p busy = 2 ∧ jdP N h t k p busy = p ∧ (plB (t k.toNat) k → t k.toNat = 2)) ∨ (jdA N h t k p busy = 3 ∧ jdP N h t k p busy = h ∧ 1 ≤ h ∧ h ≤ N ∧ busy = false ∧ p ≠ h ∧ t k.toNat = 3) ∨ (jdA N h t k p busy = 4 ∧ jdP N h t k p busy = 0 ∧ (plB (t k.toNat) k → t k.toNat = 4)) ∨ (jdA N h t k p busy = 5 ∧ jdP N h t k p busy = 0 ∧ (plB (t k.toNat) k → t k.toNat = 5)) := by
  have e1 : inB k 1 7 = true := by simp [inB]; exact hk
  have e2 : inB p 1 N = true := by simp [inB]; exact hp
  have e3 : p ≠ hOf N h := by
    unfold hOf
    by_cases hh : 1 ≤ h ∧ h ≤ N
    · rw [if_pos (by simp [inB]; exact hh)]; intro e; exact hn ⟨hh.1, hh.2, e⟩
    · rw [if_neg (by simp [inB]; omega)]; omega
  have eA : jdA N h t k p busy = if hdl (t k.toNat) (hOf N h) busy = 0 ∧ k = 4 then 1 else hdl (t k.toNat) (hOf N h) busy := by
    unfold jdA; rw [if_neg (by simp [e1]), if_neg (by simp [e2]), if_neg e3]
  have eP : jdP N h t k p busy = aimP (jdA N h t k p busy) p (hOf N h) := by
    unfold jdP; rw [if_neg (by simp [e1]), if_neg (by simp [e2]), if_neg e3]
  rw [eP, eA]
  generalize t k.toNat = a
  have eh : (1 ≤ h ∧ h ≤ N ∧ hOf N h = h) ∨ hOf N h = 0 := by
    unfold hOf
    by_cases hh : 1 ≤ h ∧ h ≤ N
    · rw [if_pos (by simp [inB]; exact hh)]; exact .inl ⟨hh.1, hh.2, rfl⟩
    · rw [if_neg (by simp [inB]; omega)]; exact .inr rfl
  generalize hOf N h = H at *
  by_cases hr : inB a 0 5 = false
  · have : ¬ (0 ≤ a ∧ a ≤ 5) := by simp [inB] at hr; omega
    rw [show hdl a H busy = 1 by unfold hdl; rw [if_pos hr]]
    right; left
    refine ⟨by simp, by simp [aimP], fun pl => absurd ⟨pl.1, pl.2.1⟩ this⟩
  · have ha : 0 ≤ a ∧ a ≤ 5 := by simp [inB] at hr; omega
    by_cases h3 : a = 3
    · by_cases hH : H = 0
      · rw [show hdl a H busy = 1 by unfold hdl; rw [if_neg hr, if_neg (by omega), if_pos hH]]
        right; left
        exact ⟨by simp, by simp [aimP], fun pl => absurd h3 pl.2.2.1⟩
      · have eh' : 1 ≤ h ∧ h ≤ N ∧ H = h := eh.resolve_right hH
        cases busy
        · rw [show hdl a H false = 3 by unfold hdl; rw [if_neg hr, if_neg (by omega), if_neg hH]; rfl]
          right; right; right; left
          exact ⟨by simp, by simp [aimP, eh'.2.2], eh'.1, eh'.2.1, rfl, by rw [← eh'.2.2]; exact e3, h3⟩
        · rw [show hdl a H true = 0 by unfold hdl; rw [if_neg hr, if_neg (by omega), if_neg hH]; rfl]
          by_cases hk4 : k = 4
          · right; left
            exact ⟨by simp [hk4], by simp [hk4, aimP], fun pl => absurd h3 pl.2.2.1⟩
          · left
            exact ⟨by simp [hk4], by simp [hk4, aimP], hk4, fun pl => absurd h3 pl.2.2.1⟩
    · rw [show hdl a H busy = a by unfold hdl; rw [if_neg hr, if_pos h3]]
      by_cases h0 : a = 0
      · by_cases hk4 : k = 4
        · right; left
          exact ⟨by simp [h0, hk4], by simp [h0, hk4, aimP], fun pl => by have := pl.2.2.2; omega⟩
        · left
          exact ⟨by simp [h0, hk4], by simp [h0, hk4, aimP], hk4, fun _ => h0⟩
      · rw [if_neg (by omega)]
        have : a = 1 ∨ a = 2 ∨ a = 4 ∨ a = 5 := by omega
        rcases this with e | e | e | e
        · subst e; right; left; exact ⟨rfl, by simp [aimP], fun _ => rfl⟩
        · subst e; right; right; left; exact ⟨rfl, by simp [aimP], fun _ => rfl⟩
        · subst e; right; right; right; right; left; exact ⟨rfl, by simp [aimP], fun _ => rfl⟩
        · subst e; right; right; right; right; right; exact ⟨rfl, by simp [aimP], fun _ => rfl⟩
theorem pnA_size (gi gc g N cap : Nat) (h : Int) (t : Nat → Int) : (pnL gi gc g N cap h t).toArray.size = 21 := rfl
theorem kw_new {w w0 w1 : World} {n h : Int} {t : Nat → Int} {k p : Int} {busy : Bool} (K0 : Kept No w w0) (B0 : w0.heap[w.heap.size]? = some (.cells (csA n h t k p busy) 24)) (S0 : w0.heap.size = w.heap.size + 1) (k1 : Kept No w0 w1) (cs : List Value) : Kw w ((w1.alloc (.cells Z21 34)).setRow w1.heap.size cs.toArray) n h t k p busy w1.heap.size cs := by
  have kr : Kept (fun j => j = w1.heap.size) w1 ((w1.alloc (.cells Z21 34)).setRow w1.heap.size cs.toArray) := ((Kept.refl (fun j => j = w1.heap.size) w1).alloc _).setRow (.inl rfl) _
  have s1 := k1.size
  have s2 := K0.size
  exact ⟨(K0.trans k1 (fun _ e => .inl e)).trans kr (fun j e => .inr (by omega)), kr.at' (k1.at' B0 (fun e => e)) (by omega), setRow_heap _ _ Z21 _ _ (0, 0) (heap_alloc_new _ _), by omega⟩

end Go.Proofs.Ytledndpcceejpaa
