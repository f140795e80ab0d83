/-
  The closures that turn an effect; a place brought in; the table.
-/
import Derived.Test.YtijeaonldhccmaaDoorLaws
import Derived.Deep.DeepCutAuto
import Derived.Deep.RegionHeld
namespace Go.Proofs.YtijeaonldhccmaaDoor
open Go.RowKit
set_option linter.unusedVariables false

/-- three new blocks: a turn, an effect, the result's cell -/
structure Tri (w0 w : World) (a b c n h : Int) (M : Value) (fx : Int) (R : Nat → Int) (pc : Int) (st : Bool) (ad va fa ca : Int) : Prop where
  bel : Below w0.heap.size w0 w
  tur : w.heap[w0.heap.size]? = some (.cells #[.int .i64 a, .int .i64 b, .int .i64 c, .int .i64 n, .int .i64 h, M, .int .i64 fx] 55)
  eff : w.heap[w0.heap.size + 1]? = some (.cells (effC R pc st ad va fa ca) 27)
  res : w.heap[w0.heap.size + 1 + 1]? = some (.cells (effC zeroR 0 false 0 0 0 0) 27)
theorem tri_new (w : World) (a b c n h : Int) (M : Value) (fx : Int) (R : Nat → Int) (pc : Int) (st : Bool) (ad va fa ca : Int) :
    Tri w (((w.alloc (.cells #[.int .i64 a, .int .i64 b, .int .i64 c, .int .i64 n, .int .i64 h, M, .int .i64 fx] 55)).alloc (.cells (effC R pc st ad va fa ca) 27)).alloc (.cells (effC zeroR 0 false 0 0 0 0) 27)) a b c n h M fx R pc st ad va fa ca := by
  refine ⟨(((Below.refl _ w).alloc (Nat.le_refl _) _).alloc (by simp) _).alloc (by simp; omega) _, ?_, ?_, ?_⟩
  · rw [Below.heap_alloc _ _ _ (by simp; omega), Below.heap_alloc _ _ _ (by simp)]; exact heap_alloc_last _ _
  · rw [Below.heap_alloc _ _ _ (by simp)]
    have := heap_alloc_last (w.alloc (.cells #[.int .i64 a, .int .i64 b, .int .i64 c, .int .i64 n, .int .i64 h, M, .int .i64 fx] 55)) (.cells (effC R pc st ad va fa ca) 27)
    simpa using this
  · have := heap_alloc_last ((w.alloc (.cells #[.int .i64 a, .int .i64 b, .int .i64 c, .int .i64 n, .int .i64 h, M, .int .i64 fx] 55)).alloc (.cells (effC R pc st ad va fa ca) 27)) (.cells (effC zeroR 0 false 0 0 0 0) 27)
    simpa using this
namespace Tri
variable {w0 w w' : World} {a b c n h : Int} {M : Value} {fx : Int} {R : Nat → Int} {pc : Int} {st : Bool} {ad va fa ca : Int}
theorem grow {B : Nat} (t : Tri w0 w a b c n h M fx R pc st ad va fa ca) (k : Below B w w') (hB : w0.heap.size + 1 + 1 < B) : Tri w0 w' a b c n h M fx R pc st ad va fa ca :=
  ⟨t.bel.trans (k.mono (by omega)), (k.block _ (by omega)).trans t.tur, (k.block _ (by omega)).trans t.eff, (k.block _ (by omega)).trans t.res⟩
theorem drew (t : Tri w0 w a b c n h M fx R pc st ad va fa ca) : Tri w0 w.drew a b c n h M fx R pc st ad va fa ca := ⟨t.bel.drew, t.tur, t.eff, t.res⟩
theorem set (t : Tri w0 w a b c n h M fx R pc st ad va fa ca) (i : Nat) (v : Value) {R' : Nat → Int} {pc' : Int} {st' : Bool} {ad' va' fa' ca' : Int} (he : (effC R pc st ad va fa ca).setIfInBounds i v = effC R' pc' st' ad' va' fa' ca') :
    Tri w0 (w.setCell ⟨w0.heap.size + 1, i, none⟩ v) a b c n h M fx R' pc' st' ad' va' fa' ca' :=
  ⟨t.bel.setCell (by show w0.heap.size ≤ w0.heap.size + 1; omega) v, by rw [heap_setCell_ne _ _ _ _ (by show _ ≠ w0.heap.size + 1; omega)]; exact t.tur, by rw [← he]; exact heap_setCell_eq t.eff _, by rw [heap_setCell_ne _ _ _ _ (by show _ ≠ w0.heap.size + 1; omega)]; exact t.res⟩
theorem tat (t : Tri w0 w a b c n h M fx R pc st ad va fa ca) : tAt w0.heap.size a b c n h M fx w :=
  ⟨cell_of_row _ _ _ _ _ _ t.tur, cell_of_row _ _ _ _ _ _ t.tur, cell_of_row _ _ _ _ _ _ t.tur, cell_of_row _ _ _ _ _ _ t.tur, cell_of_row _ _ _ _ _ _ t.tur, cell_of_row _ _ _ _ _ _ t.tur, cell_of_row _ _ _ _ _ _ t.tur⟩
theorem fz (t : Tri w0 w a b c n h M fx R pc st ad va fa ca) (i : Nat) : w.frozen? ⟨w0.heap.size + 1, i, none⟩ = false := by simp [World.frozen?, t.eff]
theorem at' (t : Tri w0 w a b c n h M fx R pc st ad va fa ca) (i : Nat) : w.cell? ⟨w0.heap.size + 1, i, none⟩ = (effC R pc st ad va fa ca)[i]? := cell_of_row _ _ _ _ _ _ t.eff
theorem out (t : Tri w0 w a b c n h M fx R pc st ad va fa ca) : (w.setRow (w0.heap.size + 1 + 1) (effC R pc st ad va fa ca)).heap[w0.heap.size + 1 + 1]? = some (.cells (effC R pc st ad va fa ca) 27) := setRow_heap _ _ _ _ _ _ t.res
theorem outBel (t : Tri w0 w a b c n h M fx R pc st ad va fa ca) (cs : Array Value) : Below w0.heap.size w0 (w.setRow (w0.heap.size + 1 + 1) cs) :=
  ⟨t.bel.os, t.bel.tape, t.bel.output, by simpa [World.setRow] using t.bel.size, fun k hk => (setRow_other _ _ _ _ (by omega)).trans (t.bel.block k hk)⟩
end Tri

set_option maxHeartbeats 1000000 in
theorem f68 (R : Nat → Int) (pc : Int) (st : Bool) (ad va fa ca : Int) (a b c n h : Int) (ma : Option Addr) (mn mc : Nat) (fx : Int) (w : World) :
    Calls Tryd.prog 68 #[turnV a b c n h (.slice ma mn mc) fx, effV R pc st ad va fa ca] w fun ex w' => ex = .returned (effV R pc st ad va fa n) ∧ Below w.heap.size w w' := by
  have T0 := tri_new w a b c n h (.slice ma mn mc) fx R pc st ad va fa ca
  unfold turnV
  go_enter Tryd.func68, Tryd.ntmps68
  go_upto_region 1 with (first
    | (refine wl_box27 _ rfl rfl R pc st ad va fa ca rfl ?_)
    | (refine wl_alloc27 rfl rfl ?_))
  generalize (((w.alloc (.cells #[.int .i64 a, .int .i64 b, .int .i64 c, .int .i64 n, .int .i64 h, (.slice ma mn mc), .int .i64 fx] 55)).alloc (.cells (effC R pc st ad va fa ca) 27)).alloc (.cells (effC zeroR 0 false 0 0 0 0) 27)) = w1 at *
  obtain ⟨t0, t1, t2, t3, t4, t5, t6⟩ := T0.tat
  have e21 : w1.cell? ⟨w.heap.size + 1, 21, none⟩ = some (.int .i64 ca) := T0.at' 21
  have z21 := T0.fz 21
  have T1 := T0.set 21 (.int .i64 n) (R' := R) (pc' := pc) (st' := st) (ad' := ad) (va' := va) (fa' := fa) (ca' := n) rfl
  clear T0
  go_upto_region 2 with fail
  generalize w1.setCell ⟨w.heap.size + 1, 21, none⟩ (.int .i64 n) = w2 at *
  clear t0 t1 t2 t3 t4 t5 t6 e21 z21
  go_wp2_with (first
    | (refine wl_load27 _ rfl rfl R pc st ad va fa n (w.heap.size + 1) rfl T1.eff ?_)
    | (refine wl_store27 _ _ rfl rfl R pc st ad va fa n (w.heap.size + 1 + 1) _ rfl rfl T1.res rfl ?_))
  refine bodyPost_ret (results_cell_row rfl _ _ (w.heap.size + 1 + 1) 27 _ _ _ rfl T1.out Tryd.underlying27 rfl (by rw [effC_size]; exact info27)) rfl ?_
  exact ⟨rfl, T1.outBel _⟩

set_option maxHeartbeats 1000000 in
theorem f66 (R : Nat → Int) (pc : Int) (st : Bool) (ad va fa ca : Int) (a b c n h : Int) (ma : Option Addr) (mn mc : Nat) (fx : Int) (w : World) :
    Calls Tryd.prog 66 #[turnV a b c n h (.slice ma mn mc) fx, effV R pc st ad va fa ca] w fun ex w' => ex = .returned (effV (upd R 14 h) pc st ad va fa ca) ∧ Below w.heap.size w w' := by
  have T0 := tri_new w a b c n h (.slice ma mn mc) fx R pc st ad va fa ca
  unfold turnV
  go_enter Tryd.func66, Tryd.ntmps66
  go_upto_region 1 with (first
    | (refine wl_box27 _ rfl rfl R pc st ad va fa ca rfl ?_)
    | (refine wl_alloc27 rfl rfl ?_))
  generalize (((w.alloc (.cells #[.int .i64 a, .int .i64 b, .int .i64 c, .int .i64 n, .int .i64 h, (.slice ma mn mc), .int .i64 fx] 55)).alloc (.cells (effC R pc st ad va fa ca) 27)).alloc (.cells (effC zeroR 0 false 0 0 0 0) 27)) = w1 at *
  obtain ⟨t0, t1, t2, t3, t4, t5, t6⟩ := T0.tat
  have e21 : w1.cell? ⟨w.heap.size + 1, 14, none⟩ = some (.int .i64 (R 14)) := T0.at' 14
  have z21 := T0.fz 14
  have T1 := T0.set 14 (.int .i64 h) (R' := upd R 14 h) (pc' := pc) (st' := st) (ad' := ad) (va' := va) (fa' := fa) (ca' := ca) rfl
  clear T0
  go_upto_region 2 with fail
  generalize w1.setCell ⟨w.heap.size + 1, 14, none⟩ (.int .i64 h) = w2 at *
  clear t0 t1 t2 t3 t4 t5 t6 e21 z21
  go_wp2_with (first
    | (refine wl_load27 _ rfl rfl (upd R 14 h) pc st ad va fa ca (w.heap.size + 1) rfl T1.eff ?_)
    | (refine wl_store27 _ _ rfl rfl (upd R 14 h) pc st ad va fa ca (w.heap.size + 1 + 1) _ rfl rfl T1.res rfl ?_))
  refine bodyPost_ret (results_cell_row rfl _ _ (w.heap.size + 1 + 1) 27 _ _ _ rfl T1.out Tryd.underlying27 rfl (by rw [effC_size]; exact info27)) rfl ?_
  exact ⟨rfl, T1.outBel _⟩

set_option maxHeartbeats 1000000 in
theorem f41 (R : Nat → Int) (pc : Int) (st : Bool) (ad va fa ca : Int) (a b c n h : Int) (ma : Option Addr) (mn mc : Nat) (fx : Int) (w : World) :
    Calls Tryd.prog 41 #[turnV a b c n h (.slice ma mn mc) fx, effV R pc st ad va fa ca] w fun ex w' => ex = .returned (effV R pc true (wrap64 (b + n)) a fa ca) ∧ Below w.heap.size w w' := by
  have c83 := fun w0 => f83 a b c n h ma mn mc fx w0
  generalize wrap64 (b + n) = A at *
  have T0 := tri_new w a b c n h (.slice ma mn mc) fx R pc st ad va fa ca
  unfold turnV at *
  go_enter Tryd.func41, Tryd.ntmps41
  go_upto_region 1 with (first
    | (refine wl_box27 _ rfl rfl R pc st ad va fa ca rfl ?_)
    | (refine wl_alloc27 rfl rfl ?_))
  generalize (((w.alloc (.cells #[.int .i64 a, .int .i64 b, .int .i64 c, .int .i64 n, .int .i64 h, (.slice ma mn mc), .int .i64 fx] 55)).alloc (.cells (effC R pc st ad va fa ca) 27)).alloc (.cells (effC zeroR 0 false 0 0 0 0) 27)) = w1 at *
  obtain ⟨t0, t1, t2, t3, t4, t5, t6⟩ := T0.tat
  have T0 := T0.drew
  go_region_held (fun w' => w'.cell? ⟨w.heap.size, 0, none⟩ = some (.int .i64 a) ∧ w'.cell? ⟨w.heap.size, 1, none⟩ = some (.int .i64 b) ∧ w'.cell? ⟨w.heap.size, 2, none⟩ = some (.int .i64 c) ∧ w'.cell? ⟨w.heap.size, 3, none⟩ = some (.int .i64 n) ∧ w'.cell? ⟨w.heap.size, 4, none⟩ = some (.int .i64 h) ∧ w'.cell? ⟨w.heap.size, 5, none⟩ = some (.slice ma mn mc) ∧ w'.cell? ⟨w.heap.size, 6, none⟩ = some (.int .i64 fx)) (go_keep) (first
    | (go_at_call 83; refine (c83 _).mono ?_; rintro ex w2 ⟨rfl, b2⟩; have T2 := T0.grow b2 (by have := T0.bel.size; have h3 := (Array.getElem?_eq_some_iff.1 T0.res).1; exact h3); obtain ⟨s0, s1, s2, s3, s4, s5, s6⟩ := T2.tat; have e17 : w2.cell? ⟨w.heap.size + 1, 17, none⟩ = some (.bool st) := T2.at' 17; have e18 : w2.cell? ⟨w.heap.size + 1, 18, none⟩ = some (.int .i64 ad) := T2.at' 18; have e19 : w2.cell? ⟨w.heap.size + 1, 19, none⟩ = some (.int .i64 va) := T2.at' 19; have z17 := T2.fz 17; have z18 := T2.fz 18; have z19 := T2.fz 19))
  have T3 := ((T2.set 17 (.bool true) (R' := R) (pc' := pc) (st' := true) (ad' := ad) (va' := va) (fa' := fa) (ca' := ca) rfl).set 18 (.int .i64 A) (R' := R) (pc' := pc) (st' := true) (ad' := A) (va' := va) (fa' := fa) (ca' := ca) rfl).set 19 (.int .i64 a) (R' := R) (pc' := pc) (st' := true) (ad' := A) (va' := a) (fa' := fa) (ca' := ca) rfl
  clear t0 t1 t2 t3 t4 t5 t6 s0 s1 s2 s3 s4 s5 s6 e17 e18 e19 z17 z18 z19 c83 T2 T0 b2
  rename_i hh
  clear hh
  generalize ((w2.setCell ⟨w.heap.size + 1, 17, none⟩ (.bool true)).setCell ⟨w.heap.size + 1, 18, none⟩ (.int .i64 A)).setCell ⟨w.heap.size + 1, 19, none⟩ (.int .i64 a) = w3 at *
  go_wp2_with (first
    | (refine wl_load27 _ rfl rfl R pc true A a fa ca (w.heap.size + 1) rfl T3.eff ?_)
    | (refine wl_store27 _ _ rfl rfl R pc true A a fa ca (w.heap.size + 1 + 1) _ rfl rfl T3.res rfl ?_))
  refine bodyPost_ret (results_cell_row rfl _ _ (w.heap.size + 1 + 1) 27 _ _ _ rfl T3.out Tryd.underlying27 rfl (by rw [effC_size]; exact info27)) rfl ?_
  exact ⟨rfl, T3.outBel _⟩


theorem f25 (p : Int) (n : Nat) (w : World) : Calls Tryd.prog 25 #[.int .i64 p, .int .i64 n] w fun ex w' => ex = .returned (.int .i64 (if 0 ≤ p ∧ p ≤ n then p else n)) ∧ w' = w := by
  by_cases h1 : p < 0
  · rw [if_neg (by omega)]
    go_enter Tryd.func25, Tryd.ntmps25
    go_wp2
    go_ret
    exact ⟨rfl, rfl⟩
  · by_cases h2 : p > n
    · rw [if_neg (by omega)]
      go_enter Tryd.func25, Tryd.ntmps25
      go_wp2
      go_ret
      exact ⟨rfl, rfl⟩
    · rw [if_pos (by omega)]
      go_enter Tryd.func25, Tryd.ntmps25
      go_wp2
      go_ret
      exact ⟨rfl, rfl⟩

end Go.Proofs.YtijeaonldhccmaaDoor
