/-
  Step: one contract for all.
-/
import Derived.Test.YtijeaonldhccmaaDoorStepI
import Derived.Test.YtijeaonldhccmaaDoorStepN
import Derived.Test.YtijeaonldhccmaaDoorStepW
import Derived.Test.YtijeaonldhccmaaDoorStepFW
import Derived.Test.YtijeaonldhccmaaDoorStepF1
import Derived.Test.YtijeaonldhccmaaDoorStepF2
import Derived.Test.YtijeaonldhccmaaDoorStepFO
import Derived.Test.YtijeaonldhccmaaDoorStepP
import Derived.Test.YtijeaonldhccmaaDoorStepPO
namespace Go.Proofs.YtijeaonldhccmaaDoor
open Go.RowKit
set_option linter.unusedVariables false

/-- an effect -/
structure Ef where
  R : Nat → Int
  pc : Int
  st : Bool
  ad : Int
  va : Int
  fa : Int
  ca : Int
def Ef.v (e : Ef) : Value := effV e.R e.pc e.st e.ad e.va e.fa e.ca

/-- the word that A's register becomes -/
def wd (o : Nat) (A B C n : Int) : Int :=
  if o = 2 then n else
  if o = 3 then ldh A n else
  if o = 4 then B else
  if o = 7 then wrap64 (B + C) else
  if o = 8 then wrap64 (B - C) else
  if o = 9 then wrap64 (B * C) else
  if o = 12 then bits .and .i64 B C else
  if o = 13 then bits .or .i64 B C else
  if o = 14 then bits .xor .i64 B C else
  if o = 15 then shl B C else
  if o = 16 then shr B C else
  if o = 17 then sar B C else
  if o = 18 then wrap64 (B + n) else
  if o = 19 then fl (decide (B < C)) else
  if o = 20 then fl (decide (un B < un C)) else
  fl (B == C)

/-- a legal instruction of code of n -/
def doE (n : Nat) (x : Ins) (ms : List Int) (fx : Int) (R : Nat → Int) (pc : Int) : Ef :=
  if x.o = 1 then (⟨R, pc + 1, false, 0, 0, 0, 0⟩) else
  if x.o = 5 then (if wi ms.length (wrap64 (R x.b + x.n)) 1 = true then ⟨upd R x.a (mmVal ms (wrap64 (R x.b + x.n))), pc + 1, false, 0, 0, 0, 0⟩ else ⟨R, pc + 1, false, 0, 0, 2, 0⟩) else
  if x.o = 6 then (if wb ms.length fx (wrap64 (R x.b + x.n)) 1 = true then ⟨R, pc + 1, true, wrap64 (R x.b + x.n), R x.a, 0, 0⟩ else ⟨R, pc + 1, false, 0, 0, 2, 0⟩) else
  if x.o = 10 then (if (R x.c == 0) = true then ⟨R, pc + 1, false, 0, 0, 3, 0⟩ else ⟨upd R x.a (qt (R x.b) (R x.c)), pc + 1, false, 0, 0, 0, 0⟩) else
  if x.o = 11 then (if (R x.c == 0) = true then ⟨R, pc + 1, false, 0, 0, 3, 0⟩ else ⟨upd R x.a (wrap64 (rm (R x.b) (R x.c))), pc + 1, false, 0, 0, 0, 0⟩) else
  if x.o = 22 then (⟨R, bri x.n n, false, 0, 0, 0, 0⟩) else
  if x.o = 23 then (⟨R, bri (if (R x.a == 0) = true then x.n else pc + 1) n, false, 0, 0, 0, 0⟩) else
  if x.o = 24 then (⟨R, bri (if (R x.a == 0) = true then pc + 1 else x.n) n, false, 0, 0, 0, 0⟩) else
  if x.o = 25 then (⟨R, bri (R x.a) n, false, 0, 0, 0, 0⟩) else
  if x.o = 26 then (⟨upd R 14 (pc + 1), bri x.n n, false, 0, 0, 0, 0⟩) else
  if x.o = 27 then (if 1 ≤ x.n ∧ x.n ≤ 27 then ⟨R, pc + 1, false, 0, 0, 0, x.n⟩ else ⟨R, pc + 1, false, 0, 0, 5, 0⟩) else
  ⟨upd R x.a (wd x.o (R x.a) (R x.b) (R x.c) x.n), pc + 1, false, 0, 0, 0, 0⟩
def opE (n : Nat) (x : Ins) (ms : List Int) (fx : Int) (R : Nat → Int) (pc : Int) : Ef :=
  if x.lg = true then doE n x ms fx R pc else ⟨R, pc + 1, false, 0, 0, 1, 0⟩
def stepE (xs : List Ins) (ms : List Int) (fx : Int) (R : Nat → Int) (pc : Int) : Ef :=
  if 0 ≤ pc ∧ pc < xs.length then opE xs.length (xs.getD pc.toNat ins0) ms fx R pc else ⟨R, bri pc xs.length, false, 0, 0, 4, 0⟩

theorem rm_of' (b c : Int) : wrap64 (b - wrap64 (qt b c * c)) = wrap64 (rm b c) := by
  unfold qt rm
  rw [w6_mull, w6_subr]
  have := Int.mul_ediv_add_emod b c
  rw [Int.mul_comm] at this
  rw [show b - b / c * c = b % c by omega]

theorem f47b (a b c n h : Int) (hc : c ≠ 0) (ma : Option Addr) (mn mc : Nat) (fx : Int) (w : World) :
    Calls Tryd.prog 47 #[turnV a b c n h (.slice ma mn mc) fx] w fun ex w' => ex = .returned (.int .i64 (wrap64 (rm b c))) ∧ Below w.heap.size w w' := by
  have HE : Hid (wrap64 (rm b c) = IntKind.i64.wrap (b - IntKind.i64.wrap (qt b c * c))) := (show wrap64 (rm b c) = IntKind.i64.wrap (b - IntKind.i64.wrap (qt b c * c)) by rw [w64i, w64i, rm_of'])
  have c46 := fun w0 => f46 a b c n h hc ma mn mc fx w0
  unfold turnV at *
  have HT := tAt_box w a b c n h (.slice ma mn mc) fx
  unfold tBox at HT
  obtain ⟨t0, t1, t2, t3, t4, t5, t6⟩ := HT
  go_enter Tryd.func47, Tryd.ntmps47
  go_wp2_with fail
  go_region_held (fun w' => w'.cell? ⟨w.heap.size, 0, none⟩ = some (.int .i64 a) ∧ w'.cell? ⟨w.heap.size, 1, none⟩ = some (.int .i64 b) ∧ w'.cell? ⟨w.heap.size, 2, none⟩ = some (.int .i64 c) ∧ w'.cell? ⟨w.heap.size, 3, none⟩ = some (.int .i64 n) ∧ w'.cell? ⟨w.heap.size, 4, none⟩ = some (.int .i64 h) ∧ w'.cell? ⟨w.heap.size, 5, none⟩ = some (.slice ma mn mc) ∧ w'.cell? ⟨w.heap.size, 6, none⟩ = some (.int .i64 fx)) (go_keep) (first
    | (go_at_call 46; refine (c46 _).mono ?_; rintro ex w2 ⟨rfl, b2⟩; obtain ⟨s0, s1, s2, s3, s4, s5, s6⟩ := tAt.below (q := w.heap.size) b2 (by simp) (by assumption); have HB := below_box b2; clear b2))
  all_goals
    go_wp2
    go_ret
    exact ⟨by rw [HE.out]; rfl, by assumption⟩

/-- legal: what the fields may be -/
theorem lg_fields {o a b c : Nat} {n : Int} (h : lg o a b c n = true) : 1 ≤ o ∧ o ≤ 27 ∧ a < 16 ∧ b < 16 ∧ c < 16 := by
  unfold lg at h
  rw [Bool.and_eq_true] at h
  obtain ⟨h1, h2⟩ := h
  have h1 : 1 ≤ (o : Int) ∧ (o : Int) ≤ 27 := by simpa [kn] using h1
  unfold lgS at h2
  have h2 := of_decide_eq_true h2
  obtain ⟨ha, hb, hc, _⟩ := h2
  refine ⟨by omega, by omega, ?_, ?_, ?_⟩
  · split at ha <;> omega
  · split at hb <;> omega
  · split at hc <;> omega

theorem lt28 {o : Nat} (h1 : 1 ≤ o) (h2 : o ≤ 27) : o = 1 ∨ o = 2 ∨ o = 3 ∨ o = 4 ∨ o = 5 ∨ o = 6 ∨ o = 7 ∨ o = 8 ∨ o = 9 ∨ o = 10 ∨ o = 11 ∨ o = 12 ∨ o = 13 ∨ o = 14 ∨ o = 15 ∨ o = 16 ∨ o = 17 ∨ o = 18 ∨ o = 19 ∨ o = 20 ∨ o = 21 ∨ o = 22 ∨ o = 23 ∨ o = 24 ∨ o = 25 ∨ o = 26 ∨ o = 27 := by omega

theorem doE2 (n a b c : Nat) (N : Int) (ms : List Int) (fx : Int) (R : Nat → Int) (pc : Int) : (doE n ⟨2, a, b, c, N⟩ ms fx R pc).v = effV (upd R a (N)) (pc + 1) false 0 0 0 0 := by unfold doE; rw [if_neg (show ¬ (2 : Nat) = 1 by decide), if_neg (show ¬ (2 : Nat) = 5 by decide), if_neg (show ¬ (2 : Nat) = 6 by decide), if_neg (show ¬ (2 : Nat) = 10 by decide), if_neg (show ¬ (2 : Nat) = 11 by decide), if_neg (show ¬ (2 : Nat) = 22 by decide), if_neg (show ¬ (2 : Nat) = 23 by decide), if_neg (show ¬ (2 : Nat) = 24 by decide), if_neg (show ¬ (2 : Nat) = 25 by decide), if_neg (show ¬ (2 : Nat) = 26 by decide), if_neg (show ¬ (2 : Nat) = 27 by decide)]; unfold wd; rw [if_pos (show (2 : Nat) = 2 from rfl)] <;> dsimp only [Ef.v]
theorem doE3 (n a b c : Nat) (N : Int) (ms : List Int) (fx : Int) (R : Nat → Int) (pc : Int) : (doE n ⟨3, a, b, c, N⟩ ms fx R pc).v = effV (upd R a (ldh (R a) N)) (pc + 1) false 0 0 0 0 := by unfold doE; rw [if_neg (show ¬ (3 : Nat) = 1 by decide), if_neg (show ¬ (3 : Nat) = 5 by decide), if_neg (show ¬ (3 : Nat) = 6 by decide), if_neg (show ¬ (3 : Nat) = 10 by decide), if_neg (show ¬ (3 : Nat) = 11 by decide), if_neg (show ¬ (3 : Nat) = 22 by decide), if_neg (show ¬ (3 : Nat) = 23 by decide), if_neg (show ¬ (3 : Nat) = 24 by decide), if_neg (show ¬ (3 : Nat) = 25 by decide), if_neg (show ¬ (3 : Nat) = 26 by decide), if_neg (show ¬ (3 : Nat) = 27 by decide)]; unfold wd; rw [if_neg (show ¬ (3 : Nat) = 2 by decide), if_pos (show (3 : Nat) = 3 from rfl)] <;> dsimp only [Ef.v]
theorem doE4 (n a b c : Nat) (N : Int) (ms : List Int) (fx : Int) (R : Nat → Int) (pc : Int) : (doE n ⟨4, a, b, c, N⟩ ms fx R pc).v = effV (upd R a (R b)) (pc + 1) false 0 0 0 0 := by unfold doE; rw [if_neg (show ¬ (4 : Nat) = 1 by decide), if_neg (show ¬ (4 : Nat) = 5 by decide), if_neg (show ¬ (4 : Nat) = 6 by decide), if_neg (show ¬ (4 : Nat) = 10 by decide), if_neg (show ¬ (4 : Nat) = 11 by decide), if_neg (show ¬ (4 : Nat) = 22 by decide), if_neg (show ¬ (4 : Nat) = 23 by decide), if_neg (show ¬ (4 : Nat) = 24 by decide), if_neg (show ¬ (4 : Nat) = 25 by decide), if_neg (show ¬ (4 : Nat) = 26 by decide), if_neg (show ¬ (4 : Nat) = 27 by decide)]; unfold wd; rw [if_neg (show ¬ (4 : Nat) = 2 by decide), if_neg (show ¬ (4 : Nat) = 3 by decide), if_pos (show (4 : Nat) = 4 from rfl)] <;> dsimp only [Ef.v]
theorem doE7 (n a b c : Nat) (N : Int) (ms : List Int) (fx : Int) (R : Nat → Int) (pc : Int) : (doE n ⟨7, a, b, c, N⟩ ms fx R pc).v = effV (upd R a (wrap64 (R b + R c))) (pc + 1) false 0 0 0 0 := by unfold doE; rw [if_neg (show ¬ (7 : Nat) = 1 by decide), if_neg (show ¬ (7 : Nat) = 5 by decide), if_neg (show ¬ (7 : Nat) = 6 by decide), if_neg (show ¬ (7 : Nat) = 10 by decide), if_neg (show ¬ (7 : Nat) = 11 by decide), if_neg (show ¬ (7 : Nat) = 22 by decide), if_neg (show ¬ (7 : Nat) = 23 by decide), if_neg (show ¬ (7 : Nat) = 24 by decide), if_neg (show ¬ (7 : Nat) = 25 by decide), if_neg (show ¬ (7 : Nat) = 26 by decide), if_neg (show ¬ (7 : Nat) = 27 by decide)]; unfold wd; rw [if_neg (show ¬ (7 : Nat) = 2 by decide), if_neg (show ¬ (7 : Nat) = 3 by decide), if_neg (show ¬ (7 : Nat) = 4 by decide), if_pos (show (7 : Nat) = 7 from rfl)] <;> dsimp only [Ef.v]
theorem doE8 (n a b c : Nat) (N : Int) (ms : List Int) (fx : Int) (R : Nat → Int) (pc : Int) : (doE n ⟨8, a, b, c, N⟩ ms fx R pc).v = effV (upd R a (wrap64 (R b - R c))) (pc + 1) false 0 0 0 0 := by unfold doE; rw [if_neg (show ¬ (8 : Nat) = 1 by decide), if_neg (show ¬ (8 : Nat) = 5 by decide), if_neg (show ¬ (8 : Nat) = 6 by decide), if_neg (show ¬ (8 : Nat) = 10 by decide), if_neg (show ¬ (8 : Nat) = 11 by decide), if_neg (show ¬ (8 : Nat) = 22 by decide), if_neg (show ¬ (8 : Nat) = 23 by decide), if_neg (show ¬ (8 : Nat) = 24 by decide), if_neg (show ¬ (8 : Nat) = 25 by decide), if_neg (show ¬ (8 : Nat) = 26 by decide), if_neg (show ¬ (8 : Nat) = 27 by decide)]; unfold wd; rw [if_neg (show ¬ (8 : Nat) = 2 by decide), if_neg (show ¬ (8 : Nat) = 3 by decide), if_neg (show ¬ (8 : Nat) = 4 by decide), if_neg (show ¬ (8 : Nat) = 7 by decide), if_pos (show (8 : Nat) = 8 from rfl)] <;> dsimp only [Ef.v]
theorem doE9 (n a b c : Nat) (N : Int) (ms : List Int) (fx : Int) (R : Nat → Int) (pc : Int) : (doE n ⟨9, a, b, c, N⟩ ms fx R pc).v = effV (upd R a (wrap64 (R b * R c))) (pc + 1) false 0 0 0 0 := by unfold doE; rw [if_neg (show ¬ (9 : Nat) = 1 by decide), if_neg (show ¬ (9 : Nat) = 5 by decide), if_neg (show ¬ (9 : Nat) = 6 by decide), if_neg (show ¬ (9 : Nat) = 10 by decide), if_neg (show ¬ (9 : Nat) = 11 by decide), if_neg (show ¬ (9 : Nat) = 22 by decide), if_neg (show ¬ (9 : Nat) = 23 by decide), if_neg (show ¬ (9 : Nat) = 24 by decide), if_neg (show ¬ (9 : Nat) = 25 by decide), if_neg (show ¬ (9 : Nat) = 26 by decide), if_neg (show ¬ (9 : Nat) = 27 by decide)]; unfold wd; rw [if_neg (show ¬ (9 : Nat) = 2 by decide), if_neg (show ¬ (9 : Nat) = 3 by decide), if_neg (show ¬ (9 : Nat) = 4 by decide), if_neg (show ¬ (9 : Nat) = 7 by decide), if_neg (show ¬ (9 : Nat) = 8 by decide), if_pos (show (9 : Nat) = 9 from rfl)] <;> dsimp only [Ef.v]
theorem doE12 (n a b c : Nat) (N : Int) (ms : List Int) (fx : Int) (R : Nat → Int) (pc : Int) : (doE n ⟨12, a, b, c, N⟩ ms fx R pc).v = effV (upd R a (bits .and .i64 (R b) (R c))) (pc + 1) false 0 0 0 0 := by unfold doE; rw [if_neg (show ¬ (12 : Nat) = 1 by decide), if_neg (show ¬ (12 : Nat) = 5 by decide), if_neg (show ¬ (12 : Nat) = 6 by decide), if_neg (show ¬ (12 : Nat) = 10 by decide), if_neg (show ¬ (12 : Nat) = 11 by decide), if_neg (show ¬ (12 : Nat) = 22 by decide), if_neg (show ¬ (12 : Nat) = 23 by decide), if_neg (show ¬ (12 : Nat) = 24 by decide), if_neg (show ¬ (12 : Nat) = 25 by decide), if_neg (show ¬ (12 : Nat) = 26 by decide), if_neg (show ¬ (12 : Nat) = 27 by decide)]; unfold wd; rw [if_neg (show ¬ (12 : Nat) = 2 by decide), if_neg (show ¬ (12 : Nat) = 3 by decide), if_neg (show ¬ (12 : Nat) = 4 by decide), if_neg (show ¬ (12 : Nat) = 7 by decide), if_neg (show ¬ (12 : Nat) = 8 by decide), if_neg (show ¬ (12 : Nat) = 9 by decide), if_pos (show (12 : Nat) = 12 from rfl)] <;> dsimp only [Ef.v]
theorem doE13 (n a b c : Nat) (N : Int) (ms : List Int) (fx : Int) (R : Nat → Int) (pc : Int) : (doE n ⟨13, a, b, c, N⟩ ms fx R pc).v = effV (upd R a (bits .or .i64 (R b) (R c))) (pc + 1) false 0 0 0 0 := by unfold doE; rw [if_neg (show ¬ (13 : Nat) = 1 by decide), if_neg (show ¬ (13 : Nat) = 5 by decide), if_neg (show ¬ (13 : Nat) = 6 by decide), if_neg (show ¬ (13 : Nat) = 10 by decide), if_neg (show ¬ (13 : Nat) = 11 by decide), if_neg (show ¬ (13 : Nat) = 22 by decide), if_neg (show ¬ (13 : Nat) = 23 by decide), if_neg (show ¬ (13 : Nat) = 24 by decide), if_neg (show ¬ (13 : Nat) = 25 by decide), if_neg (show ¬ (13 : Nat) = 26 by decide), if_neg (show ¬ (13 : Nat) = 27 by decide)]; unfold wd; rw [if_neg (show ¬ (13 : Nat) = 2 by decide), if_neg (show ¬ (13 : Nat) = 3 by decide), if_neg (show ¬ (13 : Nat) = 4 by decide), if_neg (show ¬ (13 : Nat) = 7 by decide), if_neg (show ¬ (13 : Nat) = 8 by decide), if_neg (show ¬ (13 : Nat) = 9 by decide), if_neg (show ¬ (13 : Nat) = 12 by decide), if_pos (show (13 : Nat) = 13 from rfl)] <;> dsimp only [Ef.v]
theorem doE14 (n a b c : Nat) (N : Int) (ms : List Int) (fx : Int) (R : Nat → Int) (pc : Int) : (doE n ⟨14, a, b, c, N⟩ ms fx R pc).v = effV (upd R a (bits .xor .i64 (R b) (R c))) (pc + 1) false 0 0 0 0 := by unfold doE; rw [if_neg (show ¬ (14 : Nat) = 1 by decide), if_neg (show ¬ (14 : Nat) = 5 by decide), if_neg (show ¬ (14 : Nat) = 6 by decide), if_neg (show ¬ (14 : Nat) = 10 by decide), if_neg (show ¬ (14 : Nat) = 11 by decide), if_neg (show ¬ (14 : Nat) = 22 by decide), if_neg (show ¬ (14 : Nat) = 23 by decide), if_neg (show ¬ (14 : Nat) = 24 by decide), if_neg (show ¬ (14 : Nat) = 25 by decide), if_neg (show ¬ (14 : Nat) = 26 by decide), if_neg (show ¬ (14 : Nat) = 27 by decide)]; unfold wd; rw [if_neg (show ¬ (14 : Nat) = 2 by decide), if_neg (show ¬ (14 : Nat) = 3 by decide), if_neg (show ¬ (14 : Nat) = 4 by decide), if_neg (show ¬ (14 : Nat) = 7 by decide), if_neg (show ¬ (14 : Nat) = 8 by decide), if_neg (show ¬ (14 : Nat) = 9 by decide), if_neg (show ¬ (14 : Nat) = 12 by decide), if_neg (show ¬ (14 : Nat) = 13 by decide), if_pos (show (14 : Nat) = 14 from rfl)] <;> dsimp only [Ef.v]
theorem doE15 (n a b c : Nat) (N : Int) (ms : List Int) (fx : Int) (R : Nat → Int) (pc : Int) : (doE n ⟨15, a, b, c, N⟩ ms fx R pc).v = effV (upd R a (shl (R b) (R c))) (pc + 1) false 0 0 0 0 := by unfold doE; rw [if_neg (show ¬ (15 : Nat) = 1 by decide), if_neg (show ¬ (15 : Nat) = 5 by decide), if_neg (show ¬ (15 : Nat) = 6 by decide), if_neg (show ¬ (15 : Nat) = 10 by decide), if_neg (show ¬ (15 : Nat) = 11 by decide), if_neg (show ¬ (15 : Nat) = 22 by decide), if_neg (show ¬ (15 : Nat) = 23 by decide), if_neg (show ¬ (15 : Nat) = 24 by decide), if_neg (show ¬ (15 : Nat) = 25 by decide), if_neg (show ¬ (15 : Nat) = 26 by decide), if_neg (show ¬ (15 : Nat) = 27 by decide)]; unfold wd; rw [if_neg (show ¬ (15 : Nat) = 2 by decide), if_neg (show ¬ (15 : Nat) = 3 by decide), if_neg (show ¬ (15 : Nat) = 4 by decide), if_neg (show ¬ (15 : Nat) = 7 by decide), if_neg (show ¬ (15 : Nat) = 8 by decide), if_neg (show ¬ (15 : Nat) = 9 by decide), if_neg (show ¬ (15 : Nat) = 12 by decide), if_neg (show ¬ (15 : Nat) = 13 by decide), if_neg (show ¬ (15 : Nat) = 14 by decide), if_pos (show (15 : Nat) = 15 from rfl)] <;> dsimp only [Ef.v]
theorem doE16 (n a b c : Nat) (N : Int) (ms : List Int) (fx : Int) (R : Nat → Int) (pc : Int) : (doE n ⟨16, a, b, c, N⟩ ms fx R pc).v = effV (upd R a (shr (R b) (R c))) (pc + 1) false 0 0 0 0 := by unfold doE; rw [if_neg (show ¬ (16 : Nat) = 1 by decide), if_neg (show ¬ (16 : Nat) = 5 by decide), if_neg (show ¬ (16 : Nat) = 6 by decide), if_neg (show ¬ (16 : Nat) = 10 by decide), if_neg (show ¬ (16 : Nat) = 11 by decide), if_neg (show ¬ (16 : Nat) = 22 by decide), if_neg (show ¬ (16 : Nat) = 23 by decide), if_neg (show ¬ (16 : Nat) = 24 by decide), if_neg (show ¬ (16 : Nat) = 25 by decide), if_neg (show ¬ (16 : Nat) = 26 by decide), if_neg (show ¬ (16 : Nat) = 27 by decide)]; unfold wd; rw [if_neg (show ¬ (16 : Nat) = 2 by decide), if_neg (show ¬ (16 : Nat) = 3 by decide), if_neg (show ¬ (16 : Nat) = 4 by decide), if_neg (show ¬ (16 : Nat) = 7 by decide), if_neg (show ¬ (16 : Nat) = 8 by decide), if_neg (show ¬ (16 : Nat) = 9 by decide), if_neg (show ¬ (16 : Nat) = 12 by decide), if_neg (show ¬ (16 : Nat) = 13 by decide), if_neg (show ¬ (16 : Nat) = 14 by decide), if_neg (show ¬ (16 : Nat) = 15 by decide), if_pos (show (16 : Nat) = 16 from rfl)] <;> dsimp only [Ef.v]
theorem doE17 (n a b c : Nat) (N : Int) (ms : List Int) (fx : Int) (R : Nat → Int) (pc : Int) : (doE n ⟨17, a, b, c, N⟩ ms fx R pc).v = effV (upd R a (sar (R b) (R c))) (pc + 1) false 0 0 0 0 := by unfold doE; rw [if_neg (show ¬ (17 : Nat) = 1 by decide), if_neg (show ¬ (17 : Nat) = 5 by decide), if_neg (show ¬ (17 : Nat) = 6 by decide), if_neg (show ¬ (17 : Nat) = 10 by decide), if_neg (show ¬ (17 : Nat) = 11 by decide), if_neg (show ¬ (17 : Nat) = 22 by decide), if_neg (show ¬ (17 : Nat) = 23 by decide), if_neg (show ¬ (17 : Nat) = 24 by decide), if_neg (show ¬ (17 : Nat) = 25 by decide), if_neg (show ¬ (17 : Nat) = 26 by decide), if_neg (show ¬ (17 : Nat) = 27 by decide)]; unfold wd; rw [if_neg (show ¬ (17 : Nat) = 2 by decide), if_neg (show ¬ (17 : Nat) = 3 by decide), if_neg (show ¬ (17 : Nat) = 4 by decide), if_neg (show ¬ (17 : Nat) = 7 by decide), if_neg (show ¬ (17 : Nat) = 8 by decide), if_neg (show ¬ (17 : Nat) = 9 by decide), if_neg (show ¬ (17 : Nat) = 12 by decide), if_neg (show ¬ (17 : Nat) = 13 by decide), if_neg (show ¬ (17 : Nat) = 14 by decide), if_neg (show ¬ (17 : Nat) = 15 by decide), if_neg (show ¬ (17 : Nat) = 16 by decide), if_pos (show (17 : Nat) = 17 from rfl)] <;> dsimp only [Ef.v]
theorem doE18 (n a b c : Nat) (N : Int) (ms : List Int) (fx : Int) (R : Nat → Int) (pc : Int) : (doE n ⟨18, a, b, c, N⟩ ms fx R pc).v = effV (upd R a (wrap64 (R b + N))) (pc + 1) false 0 0 0 0 := by unfold doE; rw [if_neg (show ¬ (18 : Nat) = 1 by decide), if_neg (show ¬ (18 : Nat) = 5 by decide), if_neg (show ¬ (18 : Nat) = 6 by decide), if_neg (show ¬ (18 : Nat) = 10 by decide), if_neg (show ¬ (18 : Nat) = 11 by decide), if_neg (show ¬ (18 : Nat) = 22 by decide), if_neg (show ¬ (18 : Nat) = 23 by decide), if_neg (show ¬ (18 : Nat) = 24 by decide), if_neg (show ¬ (18 : Nat) = 25 by decide), if_neg (show ¬ (18 : Nat) = 26 by decide), if_neg (show ¬ (18 : Nat) = 27 by decide)]; unfold wd; rw [if_neg (show ¬ (18 : Nat) = 2 by decide), if_neg (show ¬ (18 : Nat) = 3 by decide), if_neg (show ¬ (18 : Nat) = 4 by decide), if_neg (show ¬ (18 : Nat) = 7 by decide), if_neg (show ¬ (18 : Nat) = 8 by decide), if_neg (show ¬ (18 : Nat) = 9 by decide), if_neg (show ¬ (18 : Nat) = 12 by decide), if_neg (show ¬ (18 : Nat) = 13 by decide), if_neg (show ¬ (18 : Nat) = 14 by decide), if_neg (show ¬ (18 : Nat) = 15 by decide), if_neg (show ¬ (18 : Nat) = 16 by decide), if_neg (show ¬ (18 : Nat) = 17 by decide), if_pos (show (18 : Nat) = 18 from rfl)] <;> dsimp only [Ef.v]
theorem doE19 (n a b c : Nat) (N : Int) (ms : List Int) (fx : Int) (R : Nat → Int) (pc : Int) : (doE n ⟨19, a, b, c, N⟩ ms fx R pc).v = effV (upd R a (fl (decide (R b < R c)))) (pc + 1) false 0 0 0 0 := by unfold doE; rw [if_neg (show ¬ (19 : Nat) = 1 by decide), if_neg (show ¬ (19 : Nat) = 5 by decide), if_neg (show ¬ (19 : Nat) = 6 by decide), if_neg (show ¬ (19 : Nat) = 10 by decide), if_neg (show ¬ (19 : Nat) = 11 by decide), if_neg (show ¬ (19 : Nat) = 22 by decide), if_neg (show ¬ (19 : Nat) = 23 by decide), if_neg (show ¬ (19 : Nat) = 24 by decide), if_neg (show ¬ (19 : Nat) = 25 by decide), if_neg (show ¬ (19 : Nat) = 26 by decide), if_neg (show ¬ (19 : Nat) = 27 by decide)]; unfold wd; rw [if_neg (show ¬ (19 : Nat) = 2 by decide), if_neg (show ¬ (19 : Nat) = 3 by decide), if_neg (show ¬ (19 : Nat) = 4 by decide), if_neg (show ¬ (19 : Nat) = 7 by decide), if_neg (show ¬ (19 : Nat) = 8 by decide), if_neg (show ¬ (19 : Nat) = 9 by decide), if_neg (show ¬ (19 : Nat) = 12 by decide), if_neg (show ¬ (19 : Nat) = 13 by decide), if_neg (show ¬ (19 : Nat) = 14 by decide), if_neg (show ¬ (19 : Nat) = 15 by decide), if_neg (show ¬ (19 : Nat) = 16 by decide), if_neg (show ¬ (19 : Nat) = 17 by decide), if_neg (show ¬ (19 : Nat) = 18 by decide), if_pos (show (19 : Nat) = 19 from rfl)] <;> dsimp only [Ef.v]
theorem doE20 (n a b c : Nat) (N : Int) (ms : List Int) (fx : Int) (R : Nat → Int) (pc : Int) : (doE n ⟨20, a, b, c, N⟩ ms fx R pc).v = effV (upd R a (fl (decide (un (R b) < un (R c))))) (pc + 1) false 0 0 0 0 := by unfold doE; rw [if_neg (show ¬ (20 : Nat) = 1 by decide), if_neg (show ¬ (20 : Nat) = 5 by decide), if_neg (show ¬ (20 : Nat) = 6 by decide), if_neg (show ¬ (20 : Nat) = 10 by decide), if_neg (show ¬ (20 : Nat) = 11 by decide), if_neg (show ¬ (20 : Nat) = 22 by decide), if_neg (show ¬ (20 : Nat) = 23 by decide), if_neg (show ¬ (20 : Nat) = 24 by decide), if_neg (show ¬ (20 : Nat) = 25 by decide), if_neg (show ¬ (20 : Nat) = 26 by decide), if_neg (show ¬ (20 : Nat) = 27 by decide)]; unfold wd; rw [if_neg (show ¬ (20 : Nat) = 2 by decide), if_neg (show ¬ (20 : Nat) = 3 by decide), if_neg (show ¬ (20 : Nat) = 4 by decide), if_neg (show ¬ (20 : Nat) = 7 by decide), if_neg (show ¬ (20 : Nat) = 8 by decide), if_neg (show ¬ (20 : Nat) = 9 by decide), if_neg (show ¬ (20 : Nat) = 12 by decide), if_neg (show ¬ (20 : Nat) = 13 by decide), if_neg (show ¬ (20 : Nat) = 14 by decide), if_neg (show ¬ (20 : Nat) = 15 by decide), if_neg (show ¬ (20 : Nat) = 16 by decide), if_neg (show ¬ (20 : Nat) = 17 by decide), if_neg (show ¬ (20 : Nat) = 18 by decide), if_neg (show ¬ (20 : Nat) = 19 by decide), if_pos (show (20 : Nat) = 20 from rfl)] <;> dsimp only [Ef.v]
theorem doE21 (n a b c : Nat) (N : Int) (ms : List Int) (fx : Int) (R : Nat → Int) (pc : Int) : (doE n ⟨21, a, b, c, N⟩ ms fx R pc).v = effV (upd R a (fl (R b == R c))) (pc + 1) false 0 0 0 0 := by unfold doE; rw [if_neg (show ¬ (21 : Nat) = 1 by decide), if_neg (show ¬ (21 : Nat) = 5 by decide), if_neg (show ¬ (21 : Nat) = 6 by decide), if_neg (show ¬ (21 : Nat) = 10 by decide), if_neg (show ¬ (21 : Nat) = 11 by decide), if_neg (show ¬ (21 : Nat) = 22 by decide), if_neg (show ¬ (21 : Nat) = 23 by decide), if_neg (show ¬ (21 : Nat) = 24 by decide), if_neg (show ¬ (21 : Nat) = 25 by decide), if_neg (show ¬ (21 : Nat) = 26 by decide), if_neg (show ¬ (21 : Nat) = 27 by decide)]; unfold wd; rw [if_neg (show ¬ (21 : Nat) = 2 by decide), if_neg (show ¬ (21 : Nat) = 3 by decide), if_neg (show ¬ (21 : Nat) = 4 by decide), if_neg (show ¬ (21 : Nat) = 7 by decide), if_neg (show ¬ (21 : Nat) = 8 by decide), if_neg (show ¬ (21 : Nat) = 9 by decide), if_neg (show ¬ (21 : Nat) = 12 by decide), if_neg (show ¬ (21 : Nat) = 13 by decide), if_neg (show ¬ (21 : Nat) = 14 by decide), if_neg (show ¬ (21 : Nat) = 15 by decide), if_neg (show ¬ (21 : Nat) = 16 by decide), if_neg (show ¬ (21 : Nat) = 17 by decide), if_neg (show ¬ (21 : Nat) = 18 by decide), if_neg (show ¬ (21 : Nat) = 19 by decide), if_neg (show ¬ (21 : Nat) = 20 by decide)] <;> dsimp only [Ef.v]
theorem doE5 (n a b c : Nat) (N : Int) (ms : List Int) (fx : Int) (R : Nat → Int) (pc : Int) : doE n ⟨5, a, b, c, N⟩ ms fx R pc = if wi ms.length (wrap64 (R b + N)) 1 = true then ⟨upd R a (mmVal ms (wrap64 (R b + N))), pc + 1, false, 0, 0, 0, 0⟩ else ⟨R, pc + 1, false, 0, 0, 2, 0⟩ := by unfold doE; rw [if_neg (show ¬ (5 : Nat) = 1 by decide), if_pos (show (5 : Nat) = 5 from rfl)] <;> dsimp only [Ef.v]
theorem doE6 (n a b c : Nat) (N : Int) (ms : List Int) (fx : Int) (R : Nat → Int) (pc : Int) : doE n ⟨6, a, b, c, N⟩ ms fx R pc = if wb ms.length fx (wrap64 (R b + N)) 1 = true then ⟨R, pc + 1, true, wrap64 (R b + N), R a, 0, 0⟩ else ⟨R, pc + 1, false, 0, 0, 2, 0⟩ := by unfold doE; rw [if_neg (show ¬ (6 : Nat) = 1 by decide), if_neg (show ¬ (6 : Nat) = 5 by decide), if_pos (show (6 : Nat) = 6 from rfl)] <;> dsimp only [Ef.v]
theorem doE10 (n a b c : Nat) (N : Int) (ms : List Int) (fx : Int) (R : Nat → Int) (pc : Int) : doE n ⟨10, a, b, c, N⟩ ms fx R pc = if (R c == 0) = true then ⟨R, pc + 1, false, 0, 0, 3, 0⟩ else ⟨upd R a (qt (R b) (R c)), pc + 1, false, 0, 0, 0, 0⟩ := by unfold doE; rw [if_neg (show ¬ (10 : Nat) = 1 by decide), if_neg (show ¬ (10 : Nat) = 5 by decide), if_neg (show ¬ (10 : Nat) = 6 by decide), if_pos (show (10 : Nat) = 10 from rfl)] <;> dsimp only [Ef.v]
theorem doE11 (n a b c : Nat) (N : Int) (ms : List Int) (fx : Int) (R : Nat → Int) (pc : Int) : doE n ⟨11, a, b, c, N⟩ ms fx R pc = if (R c == 0) = true then ⟨R, pc + 1, false, 0, 0, 3, 0⟩ else ⟨upd R a (wrap64 (rm (R b) (R c))), pc + 1, false, 0, 0, 0, 0⟩ := by unfold doE; rw [if_neg (show ¬ (11 : Nat) = 1 by decide), if_neg (show ¬ (11 : Nat) = 5 by decide), if_neg (show ¬ (11 : Nat) = 6 by decide), if_neg (show ¬ (11 : Nat) = 10 by decide), if_pos (show (11 : Nat) = 11 from rfl)] <;> dsimp only [Ef.v]
theorem doE27 (n a b c : Nat) (N : Int) (ms : List Int) (fx : Int) (R : Nat → Int) (pc : Int) : doE n ⟨27, a, b, c, N⟩ ms fx R pc = if 1 ≤ N ∧ N ≤ 27 then ⟨R, pc + 1, false, 0, 0, 0, N⟩ else ⟨R, pc + 1, false, 0, 0, 5, 0⟩ := by unfold doE; rw [if_neg (show ¬ (27 : Nat) = 1 by decide), if_neg (show ¬ (27 : Nat) = 5 by decide), if_neg (show ¬ (27 : Nat) = 6 by decide), if_neg (show ¬ (27 : Nat) = 10 by decide), if_neg (show ¬ (27 : Nat) = 11 by decide), if_neg (show ¬ (27 : Nat) = 22 by decide), if_neg (show ¬ (27 : Nat) = 23 by decide), if_neg (show ¬ (27 : Nat) = 24 by decide), if_neg (show ¬ (27 : Nat) = 25 by decide), if_neg (show ¬ (27 : Nat) = 26 by decide), if_pos (show (27 : Nat) = 27 from rfl)] <;> dsimp only [Ef.v]
theorem doE22 (n a b c : Nat) (N : Int) (ms : List Int) (fx : Int) (R : Nat → Int) (pc : Int) : (doE n ⟨22, a, b, c, N⟩ ms fx R pc).v = effV R (bri N n) false 0 0 0 0 := by unfold doE; rw [if_neg (show ¬ (22 : Nat) = 1 by decide), if_neg (show ¬ (22 : Nat) = 5 by decide), if_neg (show ¬ (22 : Nat) = 6 by decide), if_neg (show ¬ (22 : Nat) = 10 by decide), if_neg (show ¬ (22 : Nat) = 11 by decide), if_pos (show (22 : Nat) = 22 from rfl)] <;> dsimp only [Ef.v]
theorem doE23 (n a b c : Nat) (N : Int) (ms : List Int) (fx : Int) (R : Nat → Int) (pc : Int) : (doE n ⟨23, a, b, c, N⟩ ms fx R pc).v = effV R (bri (if (R a == 0) = true then N else pc + 1) n) false 0 0 0 0 := by unfold doE; rw [if_neg (show ¬ (23 : Nat) = 1 by decide), if_neg (show ¬ (23 : Nat) = 5 by decide), if_neg (show ¬ (23 : Nat) = 6 by decide), if_neg (show ¬ (23 : Nat) = 10 by decide), if_neg (show ¬ (23 : Nat) = 11 by decide), if_neg (show ¬ (23 : Nat) = 22 by decide), if_pos (show (23 : Nat) = 23 from rfl)] <;> dsimp only [Ef.v]
theorem doE24 (n a b c : Nat) (N : Int) (ms : List Int) (fx : Int) (R : Nat → Int) (pc : Int) : (doE n ⟨24, a, b, c, N⟩ ms fx R pc).v = effV R (bri (if (R a == 0) = true then pc + 1 else N) n) false 0 0 0 0 := by unfold doE; rw [if_neg (show ¬ (24 : Nat) = 1 by decide), if_neg (show ¬ (24 : Nat) = 5 by decide), if_neg (show ¬ (24 : Nat) = 6 by decide), if_neg (show ¬ (24 : Nat) = 10 by decide), if_neg (show ¬ (24 : Nat) = 11 by decide), if_neg (show ¬ (24 : Nat) = 22 by decide), if_neg (show ¬ (24 : Nat) = 23 by decide), if_pos (show (24 : Nat) = 24 from rfl)] <;> dsimp only [Ef.v]
theorem doE25 (n a b c : Nat) (N : Int) (ms : List Int) (fx : Int) (R : Nat → Int) (pc : Int) : (doE n ⟨25, a, b, c, N⟩ ms fx R pc).v = effV R (bri (R a) n) false 0 0 0 0 := by unfold doE; rw [if_neg (show ¬ (25 : Nat) = 1 by decide), if_neg (show ¬ (25 : Nat) = 5 by decide), if_neg (show ¬ (25 : Nat) = 6 by decide), if_neg (show ¬ (25 : Nat) = 10 by decide), if_neg (show ¬ (25 : Nat) = 11 by decide), if_neg (show ¬ (25 : Nat) = 22 by decide), if_neg (show ¬ (25 : Nat) = 23 by decide), if_neg (show ¬ (25 : Nat) = 24 by decide), if_pos (show (25 : Nat) = 25 from rfl)] <;> dsimp only [Ef.v]
theorem doE1 (n a b c : Nat) (N : Int) (ms : List Int) (fx : Int) (R : Nat → Int) (pc : Int) : (doE n ⟨1, a, b, c, N⟩ ms fx R pc).v = effV R (pc + 1) false 0 0 0 0 := by unfold doE; rw [if_pos (show (1 : Nat) = 1 from rfl)] <;> dsimp only [Ef.v]
theorem doE26 (n a b c : Nat) (N : Int) (ms : List Int) (fx : Int) (R : Nat → Int) (pc : Int) : (doE n ⟨26, a, b, c, N⟩ ms fx R pc).v = effV (upd R 14 (pc + 1)) (bri N n) false 0 0 0 0 := by unfold doE; rw [if_neg (show ¬ (26 : Nat) = 1 by decide), if_neg (show ¬ (26 : Nat) = 5 by decide), if_neg (show ¬ (26 : Nat) = 6 by decide), if_neg (show ¬ (26 : Nat) = 10 by decide), if_neg (show ¬ (26 : Nat) = 11 by decide), if_neg (show ¬ (26 : Nat) = 22 by decide), if_neg (show ¬ (26 : Nat) = 23 by decide), if_neg (show ¬ (26 : Nat) = 24 by decide), if_neg (show ¬ (26 : Nat) = 25 by decide), if_pos (show (26 : Nat) = 26 from rfl)] <;> dsimp only [Ef.v]
theorem ef_v (R : Nat → Int) (pc : Int) (st : Bool) (ad va fa ca : Int) : (Ef.mk R pc st ad va fa ca).v = effV R pc st ad va fa ca := rfl

theorem op_any (G : Nat → Prop) (R : Nat → Int) (p m : Option Addr) (n cc mn mc : Nat) (fx : Int) (pc o a b c : Nat) (N : Int) (ms : List Int) (w : World) (hn : n ≤ 9223372036854775807) (hpc : pc < n) (hN : -2147483648 ≤ N ∧ N ≤ 2147483647) (hcode : Here w p pc o a b c N) (hO : Ops w) (ho : o < 256) (ha : a < 256) (hb : b < 256) (hc : c < 256) (hz : Zs w G m mn mc ms) :
    Calls Tryd.prog 12 #[.slice p n cc, .slice m mn mc, .int .i64 fx, regV R, .int .i64 pc] w fun ex w' => ex = .returned (opE n ⟨o, a, b, c, N⟩ ms fx R pc).v ∧ Below w.heap.size w w' := by
  unfold opE
  have hl0 : (Ins.mk o a b c N).lg = lg o a b c N := rfl
  cases hl : lg o a b c N with
  | false =>
    rw [hl0, hl, if_neg (by decide), ef_v]
    exact step_bad R p m n cc mn mc fx pc o a b c N w hn hpc hcode hO hl ho ha hb hc
  | true =>
    rw [hl0, hl, if_pos rfl]
    obtain ⟨h1, h27, ha, hb, hc⟩ := lg_fields hl
    have hz' := fun w0 (hb : Below w.heap.size w w0) => hz.kept (Kept.of_below (F := No) hb) (fun _ _ h => h)
    have WORD := fun W hW hrow V cW => step_word R p m n cc mn mc fx pc o a b c N w hn hpc hN hcode hO hl (by omega) ha hb hc W hW hrow V cW
    have FWORD := fun F W hF hW hrow cF V cW => step_fword R p m n cc mn mc fx pc o a b c N w hn hpc hN hcode hO hl (by omega) ha hb hc F hF W hW hrow cF V cW
    have FAULTW := fun F W hF hW hrow V hV cF => step_faultw R p m n cc mn mc fx pc o a b c N w hn hpc hN hcode hO hl (by omega) ha hb hc F hF W hW hrow V hV cF
    have FAULTO := fun F U hF hU hrow V hV cF => step_faulto R p m n cc mn mc fx pc o a b c N w hn hpc hN hcode hO hl (by omega) ha hb hc F hF U hU hrow V hV cF
    have PLACE := fun J hJ hrow V cJ => step_place R p m n cc mn mc fx pc o a b c N w hn hpc hN hcode hO hl (by omega) ha hb hc J hJ hrow V cJ
    rcases lt28 h1 h27 with rfl | rfl | rfl | rfl | rfl | rfl | rfl | rfl | rfl | rfl | rfl | rfl | rfl | rfl | rfl | rfl | rfl | rfl | rfl | rfl | rfl | rfl | rfl | rfl | rfl | rfl | rfl
    · rw [doE1]
      exact step_nop R p m n cc mn mc fx pc 1 a b c N w hn hpc hN hcode hO hl (by omega) ha hb hc rfl
    · rw [doE2]
      exact WORD 35 Tryd.call35 rfl _ (fun w0 _ => f35 _ _ _ _ _ _ _ _ _ w0)
    · rw [doE3]
      exact WORD 36 Tryd.call36 rfl _ (fun w0 _ => f36 _ _ _ _ _ _ _ _ _ w0)
    · rw [doE4]
      exact WORD 37 Tryd.call37 rfl _ (fun w0 _ => f37 _ _ _ _ _ _ _ _ _ w0)
    · rw [doE5]
      cases hw : wi ms.length (wrap64 (R b + N)) 1 with
      | true =>
        rw [if_pos rfl, ef_v]
        exact FWORD 38 39 Tryd.call38 Tryd.call39 rfl (fun w0 hb => by have := f38 G ms (R a) (R b) (R c) N ((pc : Int) + 1) m mn mc fx w0 (hz' w0 hb); rw [hw, if_pos rfl] at this; exact this) _ (fun w0 hb => f39 G ms (R a) (R b) (R c) N ((pc : Int) + 1) m mn mc fx w0 (hz' w0 hb))
      | false =>
        rw [if_neg (by decide), ef_v]
        exact FAULTW 38 39 Tryd.call38 Tryd.call39 rfl 2 rfl (fun w0 hb => by have := f38 G ms (R a) (R b) (R c) N ((pc : Int) + 1) m mn mc fx w0 (hz' w0 hb); rw [hw, if_neg (by decide)] at this; exact this)
    · rw [doE6]
      cases hw : wb ms.length fx (wrap64 (R b + N)) 1 with
      | true =>
        rw [if_pos rfl, ef_v]
        exact step_fother R p m n cc mn mc fx pc 6 a b c N w hn hpc hN hcode hO hl (by omega) ha hb hc 40 Tryd.call40 41 Tryd.call41 rfl (fun w0 hb => by have := f40 G ms (R a) (R b) (R c) N ((pc : Int) + 1) m mn mc fx w0 (hz' w0 hb); rw [hw, if_pos rfl] at this; exact this) _ _ _ _ _ _ _ (fun w0 => f41 R ((pc : Int) + 1) false 0 0 0 0 (R a) (R b) (R c) N ((pc : Int) + 1) m mn mc fx w0)
      | false =>
        rw [if_neg (by decide), ef_v]
        exact FAULTO 40 41 Tryd.call40 Tryd.call41 rfl 2 rfl (fun w0 hb => by have := f40 G ms (R a) (R b) (R c) N ((pc : Int) + 1) m mn mc fx w0 (hz' w0 hb); rw [hw, if_neg (by decide)] at this; exact this)
    · rw [doE7]
      exact WORD 42 Tryd.call42 rfl _ (fun w0 _ => f42 _ _ _ _ _ _ _ _ _ w0)
    · rw [doE8]
      exact WORD 43 Tryd.call43 rfl _ (fun w0 _ => f43 _ _ _ _ _ _ _ _ _ w0)
    · rw [doE9]
      exact WORD 44 Tryd.call44 rfl _ (fun w0 _ => f44 _ _ _ _ _ _ _ _ _ w0)
    · rw [doE10]
      cases hw : (R c == 0) with
      | true =>
        rw [if_pos rfl, ef_v]
        exact FAULTW 45 46 Tryd.call45 Tryd.call46 rfl 3 rfl (fun w0 hb => by have := f45 (R a) (R b) (R c) N ((pc : Int) + 1) m mn mc fx w0; rw [hw, if_pos rfl] at this; exact this)
      | false =>
        rw [if_neg (by decide), ef_v]
        exact FWORD 45 46 Tryd.call45 Tryd.call46 rfl (fun w0 hb => by have := f45 (R a) (R b) (R c) N ((pc : Int) + 1) m mn mc fx w0; rw [hw, if_neg (by decide)] at this; exact this) _ (fun w0 _ => f46 (R a) (R b) (R c) N ((pc : Int) + 1) (by simpa using hw) m mn mc fx w0)
    · rw [doE11]
      cases hw : (R c == 0) with
      | true =>
        rw [if_pos rfl, ef_v]
        exact FAULTW 45 47 Tryd.call45 Tryd.call47 rfl 3 rfl (fun w0 hb => by have := f45 (R a) (R b) (R c) N ((pc : Int) + 1) m mn mc fx w0; rw [hw, if_pos rfl] at this; exact this)
      | false =>
        rw [if_neg (by decide), ef_v]
        exact FWORD 45 47 Tryd.call45 Tryd.call47 rfl (fun w0 hb => by have := f45 (R a) (R b) (R c) N ((pc : Int) + 1) m mn mc fx w0; rw [hw, if_neg (by decide)] at this; exact this) _ (fun w0 _ => f47b (R a) (R b) (R c) N ((pc : Int) + 1) (by simpa using hw) m mn mc fx w0)
    · rw [doE12]
      exact WORD 48 Tryd.call48 rfl _ (fun w0 _ => f48 _ _ _ _ _ _ _ _ _ w0)
    · rw [doE13]
      exact WORD 49 Tryd.call49 rfl _ (fun w0 _ => f49 _ _ _ _ _ _ _ _ _ w0)
    · rw [doE14]
      exact WORD 50 Tryd.call50 rfl _ (fun w0 _ => f50 _ _ _ _ _ _ _ _ _ w0)
    · rw [doE15]
      exact WORD 51 Tryd.call51 rfl _ (fun w0 _ => f51 _ _ _ _ _ _ _ _ _ w0)
    · rw [doE16]
      exact WORD 53 Tryd.call53 rfl _ (fun w0 _ => f53 _ _ _ _ _ _ _ _ _ w0)
    · rw [doE17]
      exact WORD 54 Tryd.call54 rfl _ (fun w0 _ => f54 _ _ _ _ _ _ _ _ _ w0)
    · rw [doE18]
      exact WORD 55 Tryd.call55 rfl _ (fun w0 _ => f55 _ _ _ _ _ _ _ _ _ w0)
    · rw [doE19]
      exact WORD 56 Tryd.call56 rfl _ (fun w0 _ => f56 _ _ _ _ _ _ _ _ _ w0)
    · rw [doE20]
      exact WORD 58 Tryd.call58 rfl _ (fun w0 _ => f58 _ _ _ _ _ _ _ _ _ w0)
    · rw [doE21]
      exact WORD 59 Tryd.call59 rfl _ (fun w0 _ => f59 _ _ _ _ _ _ _ _ _ w0)
    · rw [doE22]
      exact PLACE 60 Tryd.call60 rfl _ (fun w0 => f60 _ _ _ _ _ _ _ _ _ w0)
    · rw [doE23]
      exact PLACE 61 Tryd.call61 rfl _ (fun w0 => f61 _ _ _ _ _ _ _ _ _ w0)
    · rw [doE24]
      exact PLACE 63 Tryd.call63 rfl _ (fun w0 => f63 _ _ _ _ _ _ _ _ _ w0)
    · rw [doE25]
      exact PLACE 64 Tryd.call64 rfl _ (fun w0 => f64 _ _ _ _ _ _ _ _ _ w0)
    · rw [doE26]
      exact step_pother R p m n cc mn mc fx pc 26 a b c N w hn hpc hN hcode hO hl (by omega) ha hb hc 65 Tryd.call65 66 Tryd.call66 rfl _ (fun w0 => f65 _ _ _ _ _ _ _ _ _ w0) _ _ _ _ _ _ _ (fun w0 => f66 R (bri N n) false 0 0 0 0 (R a) (R b) (R c) N ((pc : Int) + 1) m mn mc fx w0)
    · rw [doE27]
      by_cases hw : 1 ≤ N ∧ N ≤ 27
      · rw [if_pos hw, ef_v]
        exact step_fother R p m n cc mn mc fx pc 27 a b c N w hn hpc hN hcode hO hl (by omega) ha hb hc 67 Tryd.call67 68 Tryd.call68 rfl (fun w0 _ => by have := f67 (R a) (R b) (R c) N ((pc : Int) + 1) m mn mc fx w0; rw [if_pos hw] at this; exact this) _ _ _ _ _ _ _ (fun w0 => f68 R ((pc : Int) + 1) false 0 0 0 0 (R a) (R b) (R c) N ((pc : Int) + 1) m mn mc fx w0)
      · rw [if_neg hw, ef_v]
        exact FAULTO 67 68 Tryd.call67 Tryd.call68 rfl 5 rfl (fun w0 _ => by have := f67 (R a) (R b) (R c) N ((pc : Int) + 1) m mn mc fx w0; rw [if_neg hw] at this; exact this)

theorem step_any (F G : Nat → Prop) (R : Nat → Int) (p m : Option Addr) (n cc mn mc : Nat) (fx pc : Int) (xs : List Ins) (ms : List Int) (w : World) (hc : Cs w F p n cc xs) (hz : Zs w G m mn mc ms) (hO : Ops w) :
    Calls Tryd.prog 12 #[.slice p n cc, .slice m mn mc, .int .i64 fx, regV R, .int .i64 pc] w fun ex w' => ex = .returned (stepE xs ms fx R pc).v ∧ Below w.heap.size w w' := by
  have hlen := hc.len
  have hn : n ≤ 9223372036854775807 := Nat.le_trans hc.cap hc.max
  unfold stepE
  rw [hlen]
  by_cases h1 : pc < 0
  · rw [if_neg (by omega)]
    rw [ef_v]
    exact step_lo R p m n cc mn mc fx pc w hn h1
  · by_cases h2 : pc ≥ n
    · rw [if_neg (by omega)]
      rw [ef_v]
      exact step_hi R p m n cc mn mc fx pc w hn h1 h2
    · rw [if_pos (by omega)]
      obtain ⟨k, rfl⟩ : ∃ k : Nat, pc = k := ⟨pc.toNat, by omega⟩
      have hk : k < n := by omega
      rw [Int.toNat_natCast]
      obtain ⟨b, o, e, _, h⟩ := hc.at' k hk
      have hok := hc.ok (xs.getD k ins0) (by rw [List.getD_eq_getElem?_getD, List.getElem?_eq_getElem (by omega)]; exact List.getElem_mem _)
      obtain ⟨x, hx⟩ : ∃ x, xs.getD k ins0 = x := ⟨_, rfl⟩
      rw [hx] at h hok ⊢
      obtain ⟨g0, g1, g2, g3, g4⟩ := hok
      exact op_any G R p m n cc mn mc fx k x.o x.a x.b x.c x.n ms w hn hk g4 ⟨b, o, e, h⟩ hO g0 g1 g2 g3 hz

end Go.Proofs.YtijeaonldhccmaaDoor
