/-
  proc: Next.
-/
import Derived.Test.YtofkacfchkimiaaPDue
namespace Go.Proofs.Ytofkacfchkimiaa
open Go.RowKit Plain
set_option linter.unusedVariables false
set_option maxRecDepth 100000

def nstep (now acc t : Int) : Int := if t ≠ -1 ∧ now < t ∧ (acc = -1 ∨ t < acc) then t else acc
def Pr.tkAt (p : Pr) : Nat → Int
  | 0 => p.tkD
  | 1 => p.tkR
  | _ => p.tkW
def nin (now acc : Int) (p : Pr) : Nat → Int
  | 0 => acc
  | j + 1 => nstep now (nin now acc p j) (p.tkAt j)
def nout (now : Int) (f : Nat → Pr) : Nat → Int
  | 0 => -1
  | k + 1 => nin now (nout now f k) (f k) 3

section
variable {b g cap : Nat} {T : Tt}
set_option maxHeartbeats 4000000 in
theorem next_tw (w : World) (h : Tw w b g cap T) (hn : T.n ≤ 1048576) (now : Int) :
    Calls Try.prog 13 #[.pointer (some ⟨b, 0, none⟩), .int .i64 now] w fun e w' => e = .returned (.int .i64 (nout now T.ps T.n)) ∧ Kept No w w' := by
  have hb := h.box
  have hc := h.hcap
  have hm := h.hmax
  have H : Hid (Tw w b g cap T) := h
  clear h
  go_enter Try.func13, Try.ntmps13
  go_wp2
  clear hb
  go_loopw [5, 17] (fun v x wr => ∃ k : Nat, k ≤ T.n ∧ x = .int .i64 k ∧ v = .int .i64 (nout now T.ps k) ∧ Kept No w wr) (fun _ x _ => T.n - (intOf x).toNat)
  case atStart => exact ⟨0, Nat.zero_le _, rfl, rfl, Kept.refl No w⟩
  case round =>
    obtain ⟨k, hk, rfl, rfl, hkr⟩ := hrel
    have HKR : Hid (Kept No w wr) := hkr
    by_cases hlt : k < T.n
    · have hltz : (k : Int) < (T.n : Int) := by omega
      have tr := H.out.keep hkr
      have hb := tr.box
      have tk := ticks_any wr tr hlt
      unfold Pr.tks at tk
      clear tr hkr
      have HN : Hid (nout now T.ps (k + 1) = nin now (nout now T.ps k) (T.ps k) 3) := rfl
      have HIX : Hid (∀ (j : Nat), j < 3 → ∀ W, (Instr.index 97 (.agg #[.int .i64 (T.ps k).tkD, .int .i64 (T.ps k).tkR, .int .i64 (T.ps k).tkW]) (.int .i64 (j : Int))).run Try.prog W = .ok (.int .i64 ((T.ps k).tkAt j)) W) := fun j hj W => by
        have h3 : j = 0 ∨ j = 1 ∨ j = 2 := by omega
        rw [ix3 W _ _ _ j hj]
        rcases h3 with rfl | rfl | rfl <;> rfl
      generalize (T.ps k).tkD = d at *
      generalize (T.ps k).tkR = r at *
      generalize (T.ps k).tkW = q at *
      generalize nout now T.ps k = acc at *
      go_upto_region 8 with (go_at_call 42; refine tk.mono ?_; rintro e w1 ⟨rfl, k1⟩; have K1 : Hid (Kept No w w1) := HKR.out.trans k1 (fun _ e => e.elim); clear tk k1)
      go_loopw [5, 27] (fun v x wj => ∃ j : Nat, j ≤ 3 ∧ x = .int .i64 j ∧ v = .int .i64 (nin now acc (T.ps k) j) ∧ Kept No w wj) (fun _ x _ => 3 - (intOf x).toNat)
      case atStart => exact ⟨0, by omega, rfl, rfl, K1.out⟩
      case round =>
        obtain ⟨j, hj, rfl, rfl, hkj⟩ := hrel
        have HJ : Hid (Kept No w wr) := hkj
        clear hkj
        by_cases hj3 : j < 3
        · have hjz : (j : Int) < 3 := by omega
          have IX := HIX.out j hj3 wr
          obtain ⟨a, hxa⟩ : ∃ a, nin now acc (T.ps k) j = a := ⟨_, rfl⟩
          obtain ⟨t, hxt⟩ : ∃ t, (T.ps k).tkAt j = t := ⟨_, rfl⟩
          have HXA : Hid (nin now acc (T.ps k) j = a) := hxa
          have HXT : Hid ((T.ps k).tkAt j = t) := hxt
          rw [hxa]
          rw [hxt] at IX
          clear hxa hxt
          by_cases c1 : t = -1
          · have c1' : (t != -1) = false := by simp [c1]
            go_wp2
            go_roundw
            case rel => exact ⟨j + 1, by omega, by go_num, (by show _ = Value.int .i64 (nstep now (nin now acc (T.ps k) j) ((T.ps k).tkAt j)); rw [HXA.out, HXT.out]; unfold nstep; rw [if_neg (fun h => h.1 c1)]), HJ.out⟩
            case measure => simp [intOf]; omega
          · have c1' : (t != -1) = true := by simp [c1]
            by_cases c2 : now < t
            · by_cases c3 : a = -1
              · have c3' : (a == -1) = true := by simp [c3]
                go_wp2
                go_roundw
                case rel => exact ⟨j + 1, by omega, by go_num, (by show _ = Value.int .i64 (nstep now (nin now acc (T.ps k) j) ((T.ps k).tkAt j)); rw [HXA.out, HXT.out]; unfold nstep; rw [if_pos ⟨c1, c2, .inl c3⟩]), HJ.out⟩
                case measure => simp [intOf]; omega
              · have c3' : (a == -1) = false := by simp [c3]
                by_cases c4 : t < a
                · go_wp2
                  go_roundw
                  case rel => exact ⟨j + 1, by omega, by go_num, (by show _ = Value.int .i64 (nstep now (nin now acc (T.ps k) j) ((T.ps k).tkAt j)); rw [HXA.out, HXT.out]; unfold nstep; rw [if_pos ⟨c1, c2, .inr c4⟩]), HJ.out⟩
                  case measure => simp [intOf]; omega
                · go_wp2
                  go_roundw
                  case rel => exact ⟨j + 1, by omega, by go_num, (by show _ = Value.int .i64 (nstep now (nin now acc (T.ps k) j) ((T.ps k).tkAt j)); rw [HXA.out, HXT.out]; unfold nstep; rw [if_neg (fun h => by rcases h.2.2 with h | h; exact c3 h; exact c4 h)]), HJ.out⟩
                  case measure => simp [intOf]; omega
            · go_wp2
              go_roundw
              case rel => exact ⟨j + 1, by omega, by go_num, (by show _ = Value.int .i64 (nstep now (nin now acc (T.ps k) j) ((T.ps k).tkAt j)); rw [HXA.out, HXT.out]; unfold nstep; rw [if_neg (fun h => c2 h.2.1)]), HJ.out⟩
              case measure => simp [intOf]; omega
        · have hjz : ¬ (j : Int) < 3 := by omega
          have hj4 : j = 3 := by omega
          subst hj4
          go_wp2
          go_roundw
          case rel => exact ⟨k + 1, by omega, by go_num, by rw [HN.out], HJ.out⟩
          case measure => simp [intOf]; omega
    · have hltz : ¬ (k : Int) < (T.n : Int) := by omega
      have hkn : k = T.n := by omega
      subst hkn
      go_wp2
      go_ret
      exact ⟨rfl, HKR.out⟩
end
end Go.Proofs.Ytofkacfchkimiaa
