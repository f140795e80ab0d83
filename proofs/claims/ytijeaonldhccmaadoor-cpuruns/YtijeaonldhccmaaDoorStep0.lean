/-
  Step: no instruction there; an illegal one.
-/
import Derived.Test.YtijeaonldhccmaaDoorEff

import Derived.Test.YtijeaonldhccmaaDoorLegal
namespace Go.Proofs.YtijeaonldhccmaaDoor
open Go.RowKit
set_option linter.unusedVariables false

/-- a list of instructions -/
structure Ins where
  o : Nat
  a : Nat
  b : Nat
  c : Nat
  n : Int
def Ins.ok (x : Ins) : Prop := x.o < 256 ∧ x.a < 256 ∧ x.b < 256 ∧ x.c < 256 ∧ -2147483648 ≤ x.n ∧ x.n ≤ 2147483647
def Ins.v (x : Ins) : Value := insV x.o x.a x.b x.c x.n
def Ins.lg (x : Ins) : Bool := YtijeaonldhccmaaDoor.lg x.o x.a x.b x.c x.n
def ins0 : Ins := ⟨0, 0, 0, 0, 0⟩

/-- code where it lies: five cells an instruction -/
structure Cs (w : World) (F : Nat → Prop) (p : Option Addr) (n c : Nat) (xs : List Ins) : Prop where
  len : xs.length = n
  cap : n ≤ c
  max : c ≤ 9223372036854775807
  nil : p = none → c = 0
  ok : ∀ x ∈ xs, x.ok
  at' : ∀ i, i < n → ∃ b o, p = some ⟨b, o, none⟩ ∧ F b ∧ w.cell? ⟨b, o + i * 5, none⟩ = some (.int .u8 (xs.getD i ins0).o) ∧ w.cell? ⟨b, o + i * 5 + 1, none⟩ = some (.int .u8 (xs.getD i ins0).a) ∧ w.cell? ⟨b, o + i * 5 + 2, none⟩ = some (.int .u8 (xs.getD i ins0).b) ∧ w.cell? ⟨b, o + i * 5 + 3, none⟩ = some (.int .u8 (xs.getD i ins0).c) ∧ w.cell? ⟨b, o + i * 5 + 4, none⟩ = some (.int .i32 (xs.getD i ins0).n)
theorem Cs.kept {w w' : World} {F G : Nat → Prop} {p : Option Addr} {n c : Nat} {xs : List Ins} (h : Cs w F p n c xs) (k : Kept G w w') (hd : ∀ b, F b → ¬ G b) : Cs w' F p n c xs :=
  ⟨h.len, h.cap, h.max, h.nil, h.ok, fun i hi => by
    obtain ⟨b, o, e, hb, h0, h1, h2, h3, h4⟩ := h.at' i hi
    exact ⟨b, o, e, hb, k.cell h0 (hd b hb), k.cell h1 (hd b hb), k.cell h2 (hd b hb), k.cell h3 (hd b hb), k.cell h4 (hd b hb)⟩⟩

def bri (p : Int) (n : Nat) : Int := if 0 ≤ p ∧ p ≤ n then p else n

/-- the first blocks -/
theorem fr_new (w : World) (R : Nat → Int) :
    Fr w (((w.alloc (.cells (regC R) 25)).alloc (.cells (effC zeroR 0 false 0 0 0 0) 27)).alloc (.cells (effC R 0 false 0 0 0 0) 27)) R R 0 false 0 0 0 0 := by
  refine ⟨(((Below.refl _ w).alloc (Nat.le_refl _) _).alloc (by simp) _).alloc (by simp; omega) _, ?_, ?_, ?_⟩
  · rw [Below.heap_alloc _ _ _ (by simp; omega), Below.heap_alloc _ _ _ (by simp)]; exact heap_alloc_last _ _
  · rw [Below.heap_alloc _ _ _ (by simp)]
    have := heap_alloc_last (w.alloc (.cells (regC R) 25)) (.cells (effC zeroR 0 false 0 0 0 0) 27)
    simpa using this
  · have := heap_alloc_last ((w.alloc (.cells (regC R) 25)).alloc (.cells (effC zeroR 0 false 0 0 0 0) 27)) (.cells (effC R 0 false 0 0 0 0) 27)
    simpa using this
theorem heap_second (w : World) (x y : Obj) : ((w.alloc x).alloc y).heap[w.heap.size]? = some x := by
  rw [Below.heap_alloc _ _ _ (by simp)]; exact heap_alloc_last _ _
theorem heap_third (w : World) (x y z : Obj) : (((w.alloc x).alloc y).alloc z).heap[w.heap.size + 1 + 1]? = some z := by
  have := heap_alloc_last ((w.alloc x).alloc y) z
  simpa using this
theorem row_third (w : World) (x y : Obj) (c c' : Array Value) (t : TypeId) : (((w.alloc x).alloc y).alloc (.cells c t)).setRow (w.heap.size + 1 + 1) c' = ((w.alloc x).alloc y).alloc (.cells c' t) := by
  have := World.setRow_alloc_new ((w.alloc x).alloc y) c c' t
  simpa using this

set_option maxHeartbeats 300000 in
set_option maxRecDepth 100000 in
theorem step_lo (R : Nat → Int) (p m : Option Addr) (n cc mn mc : Nat) (fx pc : Int) (w : World) (hn : n ≤ 9223372036854775807) (h : pc < 0) :
    Calls Tryd.prog 12 #[.slice p n cc, .slice m mn mc, .int .i64 fx, regV R, .int .i64 pc] w fun ex w' => ex = .returned (effV R (bri pc n) false 0 0 4 0) ∧ Below w.heap.size w w' := by
  have F0 := fr_new w R
  have c25 := fun w0 => f25 pc n w0
  have EB : Hid ((if 0 ≤ pc ∧ pc ≤ n then pc else (n : Int)) = bri pc n) := rfl
  rw [EB.out] at c25
  generalize bri pc n = B at *
  have HG2 := heap_second w (.cells (regC R) 25) (.cells (effC zeroR 0 false 0 0 0 0) 27)
  go_enter Tryd.func12, Tryd.ntmps12
  go_upto_region 1 with (first
    | (refine wl_box25 _ rfl rfl R rfl ?_)
    | (refine wl_alloc27 rfl rfl ?_))
  go_upto_region 2 with (first
    | (refine wl_load25 _ rfl rfl R w.heap.size rfl HG2 ?_)
    | (refine wl_build27 _ rfl rfl R rfl ?_)
    | (refine wl_alloc27 rfl rfl ?_)
    | (refine wl_store27 _ _ rfl rfl R 0 false 0 0 0 0 _ _ rfl rfl (heap_alloc_last _ _) rfl ?_; rw [World.setRow_alloc_new]))
  generalize (((w.alloc (.cells (regC R) 25)).alloc (.cells (effC zeroR 0 false 0 0 0 0) 27)).alloc (.cells (effC R 0 false 0 0 0 0) 27)) = w1 at *
  clear HG2
  simp only [World.size_alloc]
  have e16 := F0.at16
  have z16 := F0.fz 16
  have F1 := F0.setPc B
  have F2 := F1.setFa 4
  have e20 := F1.at20
  have z20 := F1.fz 20
  clear F0
  go_upto_region 4 with (go_at_call 25; refine (c25 _).mono ?_; rintro ex w2 ⟨rfl, hw⟩; obtain rfl := hw.symm)
  generalize w1.setCell ⟨w.heap.size + 1 + 1, 16, none⟩ (.int .i64 B) = w2 at *
  go_upto_region 5 with fail
  generalize w2.setCell ⟨w.heap.size + 1 + 1, 20, none⟩ (.int .i64 4) = w3 at *
  clear e16 z16 e20 z20 F1
  go_wp2_with (first
    | (refine wl_load27 _ rfl rfl R B false 0 0 4 0 (w.heap.size + 1 + 1) rfl F2.eff ?_)
    | (refine wl_store27 _ _ rfl rfl R B false 0 0 4 0 (w.heap.size + 1) _ rfl rfl F2.res rfl ?_))
  refine bodyPost_ret (results_cell_row rfl _ _ (w.heap.size + 1) 27 _ _ _ rfl (setRow_heap _ _ _ _ _ _ F2.res) Tryd.underlying27 rfl (by rw [effC_size]; exact info27)) rfl ?_
  exact ⟨rfl, F2.outBel _⟩

set_option maxHeartbeats 300000 in
set_option maxRecDepth 100000 in
theorem step_hi (R : Nat → Int) (p m : Option Addr) (n cc mn mc : Nat) (fx pc : Int) (w : World) (hn : n ≤ 9223372036854775807) (h : ¬ pc < 0) (h2 : pc ≥ n) :
    Calls Tryd.prog 12 #[.slice p n cc, .slice m mn mc, .int .i64 fx, regV R, .int .i64 pc] w fun ex w' => ex = .returned (effV R (bri pc n) false 0 0 4 0) ∧ Below w.heap.size w w' := by
  have F0 := fr_new w R
  have c25 := fun w0 => f25 pc n w0
  have EB : Hid ((if 0 ≤ pc ∧ pc ≤ n then pc else (n : Int)) = bri pc n) := rfl
  rw [EB.out] at c25
  generalize bri pc n = B at *
  have HG2 := heap_second w (.cells (regC R) 25) (.cells (effC zeroR 0 false 0 0 0 0) 27)
  go_enter Tryd.func12, Tryd.ntmps12
  go_upto_region 1 with (first
    | (refine wl_box25 _ rfl rfl R rfl ?_)
    | (refine wl_alloc27 rfl rfl ?_))
  go_upto_region 2 with (first
    | (refine wl_load25 _ rfl rfl R w.heap.size rfl HG2 ?_)
    | (refine wl_build27 _ rfl rfl R rfl ?_)
    | (refine wl_alloc27 rfl rfl ?_)
    | (refine wl_store27 _ _ rfl rfl R 0 false 0 0 0 0 _ _ rfl rfl (heap_alloc_last _ _) rfl ?_; rw [World.setRow_alloc_new]))
  generalize (((w.alloc (.cells (regC R) 25)).alloc (.cells (effC zeroR 0 false 0 0 0 0) 27)).alloc (.cells (effC R 0 false 0 0 0 0) 27)) = w1 at *
  clear HG2
  simp only [World.size_alloc]
  have e16 := F0.at16
  have z16 := F0.fz 16
  have F1 := F0.setPc B
  have F2 := F1.setFa 4
  have e20 := F1.at20
  have z20 := F1.fz 20
  clear F0
  go_upto_region 4 with (go_at_call 25; refine (c25 _).mono ?_; rintro ex w2 ⟨rfl, hw⟩; obtain rfl := hw.symm)
  generalize w1.setCell ⟨w.heap.size + 1 + 1, 16, none⟩ (.int .i64 B) = w2 at *
  go_upto_region 5 with fail
  generalize w2.setCell ⟨w.heap.size + 1 + 1, 20, none⟩ (.int .i64 4) = w3 at *
  clear e16 z16 e20 z20 F1
  go_wp2_with (first
    | (refine wl_load27 _ rfl rfl R B false 0 0 4 0 (w.heap.size + 1 + 1) rfl F2.eff ?_)
    | (refine wl_store27 _ _ rfl rfl R B false 0 0 4 0 (w.heap.size + 1) _ rfl rfl F2.res rfl ?_))
  refine bodyPost_ret (results_cell_row rfl _ _ (w.heap.size + 1) 27 _ _ _ rfl (setRow_heap _ _ _ _ _ _ F2.res) Tryd.underlying27 rfl (by rw [effC_size]; exact info27)) rfl ?_
  exact ⟨rfl, F2.outBel _⟩

end Go.Proofs.YtijeaonldhccmaaDoor
