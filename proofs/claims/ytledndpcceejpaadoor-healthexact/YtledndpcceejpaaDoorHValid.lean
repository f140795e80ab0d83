/-
  health: whether a table may be; both.
-/
import Derived.Test.YtledndpcceejpaaDoorHName
import Derived.Deep.DeepCutAuto
namespace Go.Proofs.YtledndpcceejpaaDoor
open Go.RowKit
set_option linter.unusedVariables false
set_option maxRecDepth 100000

def t8 (t : Nat → Int) : Array Value := #[.int .i64 (t 0), .int .i64 (t 1), .int .i64 (t 2), .int .i64 (t 3), .int .i64 (t 4), .int .i64 (t 5), .int .i64 (t 6), .int .i64 (t 7)]
def okF (t : Nat → Int) : Nat → Bool
  | 0 => true
  | k + 1 => okF t k && inB (t k) 0 5
theorem okF_no {t : Nat → Int} {k : Nat} (h : inB (t k) 0 5 = false) : ∀ n, k < n → okF t n = false
  | 0, hn => by omega
  | n + 1, hn => by
    rcases Nat.lt_or_eq_of_le (Nat.lt_succ_iff.1 hn) with h1 | h1
    · rw [okF, okF_no h n h1]; rfl
    · subst h1; rw [okF, h, Bool.and_false]
def vlB (t : Nat → Int) : Bool := okF t 8 && (t 0 == 0)
theorem ix8 (t : Nat → Int) : ∀ k, k < 8 → ∀ W : World, (Instr.index 22 (.agg (t8 t)) (.int .i64 (k : Nat))).run Tryd.prog W = .ok (.int .i64 (t k)) W
  | 0, _ => fun W => by kernel_rfl
  | 1, _ => fun W => by kernel_rfl
  | 2, _ => fun W => by kernel_rfl
  | 3, _ => fun W => by kernel_rfl
  | 4, _ => fun W => by kernel_rfl
  | 5, _ => fun W => by kernel_rfl
  | 6, _ => fun W => by kernel_rfl
  | 7, _ => fun W => by kernel_rfl
  | k + 8, h => by omega
theorem t8_cell {W : World} {b : Nat} {t : Nat → Int} (H : W.heap[b]? = some (.cells (t8 t) 22)) : ∀ j, j < 8 → W.cell? ⟨b, j, none⟩ = some (.int .i64 (t j))
  | 0, _ => cell_row H rfl
  | 1, _ => cell_row H rfl
  | 2, _ => cell_row H rfl
  | 3, _ => cell_row H rfl
  | 4, _ => cell_row H rfl
  | 5, _ => cell_row H rfl
  | 6, _ => cell_row H rfl
  | 7, _ => cell_row H rfl
  | j + 8, h => by omega
theorem er_ix {w : World} {a : Act} {o : Oper} (x y : Operand) (ho : o.op = .index 22 x y) (u v r : Value) (hx : a.eval x = u) (hy : a.eval y = v) (hr : (Instr.index 22 u v).run Tryd.prog w = .ok r w) : (execOp a.eval o).run Tryd.prog w = .ok (.value r) w := by
  simp only [execOp, ho, hx, hy, Sem.run_bind, hr]; rfl

set_option maxHeartbeats 4000000 in
theorem valid_any (t : Nat → Int) (w : World) : Calls Tryd.prog 12 #[.agg (t8 t)] w fun e w' => e = .returned (.bool (vlB t)) ∧ Kept No w w' := by
  obtain ⟨R, hR⟩ : ∃ R, R = vlB t := ⟨_, rfl⟩
  rw [← hR]
  have HR := hid hR
  obtain ⟨w0, e0⟩ : ∃ w0, w0 = w.alloc (.cells (t8 t) 22) := ⟨_, rfl⟩
  have HK : Hid (Kept No w w0) := by rw [e0]; exact (Kept.refl No w).alloc _
  have HB : Hid (w0.heap[w.heap.size]? = some (.cells (t8 t) 22)) := by rw [e0]; exact heap_alloc_new w _
  have LD := hid (ld8 (w := w0) (b := w.heap.size) (o := 0) t (fun j hj => by rw [Nat.zero_add]; exact t8_cell HB.out j hj))
  have c0 : w0.cell? ⟨w.heap.size, 0, none⟩ = some (.int .i64 (t 0)) := t8_cell HB.out 0 (by decide)
  clear hR
  go_enter Tryd.func12, Tryd.ntmps12
  go_upto_region 1 with fail
  rw [← e0]
  clear e0
  go_wp2_with (refine l_take 5 rfl rfl (er_ld 22 (.tmp 1) rfl (.pointer (some ⟨w.heap.size, 0, none⟩)) (.agg (t8 t)) rfl LD.out) ?_)
  clear LD
  go_loopw [6] (fun x wr => ∃ k : Nat, k ≤ 8 ∧ x = .int .i64 k ∧ wr = w0 ∧ okF t k = true) (fun x _ => 8 - (intOf x).toNat)
  case atStart => exact ⟨0, by omega, rfl, rfl, rfl⟩
  case round =>
    obtain ⟨k, hk, rfl, hw, hok⟩ := hrel
    obtain rfl := hw.symm
    clear hw
    have HO := hid hok
    clear hok
    by_cases h8 : k < 8
    · have h8z : (k : Int) < 8 := by omega
      have ix := ix8 t k h8
      have q := fun W => isAction_any (t k) W
      cases hb : inB (t k) 0 5
      · have HF : Hid (R = false) := by rw [HR.out]; unfold vlB; rw [okF_no hb 8 h8]; rfl
        rw [hb] at q
        clear hb
        generalize t k = tk at *
        go_wp2_with (first
          | (go_at_call 22; refine (q _).mono ?_; rintro e w' ⟨rfl, e1⟩; obtain rfl := e1.symm; clear e1))
        go_ret
        exact ⟨by rw [HF.out]; rfl, HK.out⟩
      · have HF : Hid (okF t (k + 1) = true) := by
          show (okF t k && inB (t k) 0 5) = true
          rw [HO.out, hb]; rfl
        rw [hb] at q
        clear hb
        generalize t k = tk at *
        go_wp2_with (first
          | (go_at_call 22; refine (q _).mono ?_; rintro e w' ⟨rfl, e1⟩; obtain rfl := e1.symm; clear e1))
        refine ⟨⟨k + 1, by omega, by go_num, trivial, HF.out⟩, ?_⟩
        simp [intOf]; omega
    · have h8z : ¬ (k : Int) < 8 := by omega
      obtain rfl : k = 8 := by omega
      go_wp2
      go_ret
      exact ⟨by rw [HR.out]; unfold vlB; rw [HO.out]; rfl, HK.out⟩

set_option maxHeartbeats 4000000 in
theorem rvalid_any (t : Nat → Int) (w : World) : Calls Tryd.prog 13 #[.agg (t8 t)] w fun e w' => e = .returned (.bool (vlB t)) ∧ Kept No w w' := by
  obtain ⟨R, hR⟩ : ∃ R, R = vlB t := ⟨_, rfl⟩
  rw [← hR]
  have HR := hid hR
  obtain ⟨w0, e0⟩ : ∃ w0, w0 = w.alloc (.cells (t8 t) 22) := ⟨_, rfl⟩
  have HK : Hid (Kept No w w0) := by rw [e0]; exact (Kept.refl No w).alloc _
  have HB : Hid (w0.heap[w.heap.size]? = some (.cells (t8 t) 22)) := by rw [e0]; exact heap_alloc_new w _
  clear hR
  go_enter Tryd.func13, Tryd.ntmps13
  go_upto_region 1 with fail
  rw [← e0]
  clear e0
  go_wp2
  go_loopw [3] (fun x wr => ∃ k : Nat, k ≤ 8 ∧ x = .int .i64 k ∧ wr = w0 ∧ okF t k = true ∧ (0 < k → t 0 = 0)) (fun x _ => 8 - (intOf x).toNat)
  case atStart => exact ⟨0, by omega, rfl, rfl, rfl, fun h => absurd h (by omega)⟩
  case round =>
    obtain ⟨k, hk, rfl, hw, hok, hz⟩ := hrel
    obtain rfl := hw.symm
    clear hw
    have HO := hid hok
    have HZ := hid hz
    clear hok hz
    by_cases h8 : k < 8
    · have h8z : (k : Int) < 8 := by omega
      have ck := t8_cell HB.out k h8
      by_cases n1 : t k < 0
      · have HF : Hid (R = false) := by rw [HR.out]; unfold vlB; rw [okF_no (k := k) (by simp [inB]; omega) 8 h8]; rfl
        generalize t k = tk at *
        go_wp2
        go_ret
        exact ⟨by rw [HF.out]; rfl, HK.out⟩
      by_cases n2 : 5 < t k
      · have HF : Hid (R = false) := by rw [HR.out]; unfold vlB; rw [okF_no (k := k) (by simp [inB]; omega) 8 h8]; rfl
        generalize t k = tk at *
        go_wp2
        go_ret
        exact ⟨by rw [HF.out]; rfl, HK.out⟩
      have HF : Hid (okF t (k + 1) = true) := by
        show (okF t k && inB (t k) 0 5) = true
        rw [HO.out, show inB (t k) 0 5 = true by simp [inB]; omega]; rfl
      by_cases k0 : k = 0
      · subst k0
        by_cases n3 : t 0 = 0
        · have HN := hid n3
          have n3' : (t 0 == 0) = true := by simp [n3]
          clear n3
          rw [show ((0 : Nat) : Int) = 0 from rfl]
          generalize t 0 = tk at *
          go_wp2
          refine ⟨⟨0 + 1, by omega, rfl, trivial, HF.out, fun _ => HN.out⟩, ?_⟩
          simp [intOf]
        · have HF2 : Hid (R = false) := by rw [HR.out]; unfold vlB; rw [show (t 0 == 0) = false by simp [n3], Bool.and_false]; exact rfl
          have n3' : (t 0 == 0) = false := by simp [n3]
          clear n3 HZ HF
          rw [show ((0 : Nat) : Int) = 0 from rfl]
          generalize t 0 = tk at *
          go_wp2
          go_ret
          exact ⟨by rw [HF2.out]; rfl, HK.out⟩
      · have k0' : ((k : Int) == 0) = false := by simp; omega
        generalize t k = tk at *
        go_wp2
        refine ⟨⟨k + 1, by omega, by go_num, trivial, HF.out, fun _ => HZ.out (by omega)⟩, ?_⟩
        simp [intOf]; omega
    · have h8z : ¬ (k : Int) < 8 := by omega
      obtain rfl : k = 8 := by omega
      go_wp2
      go_ret
      exact ⟨by rw [HR.out]; unfold vlB; rw [HO.out, HZ.out (by omega)]; rfl, HK.out⟩
end Go.Proofs.YtledndpcceejpaaDoor
