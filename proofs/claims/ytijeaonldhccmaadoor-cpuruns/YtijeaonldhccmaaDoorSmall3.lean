/-
  The closures of the table: shifts, the rest, the memory's.
-/
import Derived.Test.YtijeaonldhccmaaDoorSmall2
import Derived.Test.YtijeaonldhccmaaDoorCalls
import Derived.Deep.RegionHeld
namespace Go.Proofs.YtijeaonldhccmaaDoor
open Go.RowKit
set_option linter.unusedVariables false

/-- the turn, where it lies -/
abbrev tAt (g : Nat) (a b c n h : Int) (M : Value) (fx : Int) (w' : World) : Prop :=
  w'.cell? ⟨g, 0, none⟩ = some (.int .i64 a) ∧ w'.cell? ⟨g, 1, none⟩ = some (.int .i64 b) ∧ w'.cell? ⟨g, 2, none⟩ = some (.int .i64 c) ∧ w'.cell? ⟨g, 3, none⟩ = some (.int .i64 n) ∧ w'.cell? ⟨g, 4, none⟩ = some (.int .i64 h) ∧ w'.cell? ⟨g, 5, none⟩ = some M ∧ w'.cell? ⟨g, 6, none⟩ = some (.int .i64 fx)
def tBox (w : World) (a b c n h : Int) (M : Value) (fx : Int) : World := w.alloc (.cells #[.int .i64 a, .int .i64 b, .int .i64 c, .int .i64 n, .int .i64 h, M, .int .i64 fx] 55)
theorem tAt_box (w : World) (a b c n h : Int) (M : Value) (fx : Int) : tAt w.heap.size a b c n h M fx (tBox w a b c n h M fx) := by
  unfold tBox
  refine ⟨?_, ?_, ?_, ?_, ?_, ?_, ?_⟩ <;> rw [World.cell?_alloc_mark] <;> rfl
theorem tAt.below {w w' : World} {a b c n h : Int} {M : Value} {fx : Int} {q B : Nat} (hb : Below B w w') (hq : q < B) (t : tAt q a b c n h M fx w) : tAt q a b c n h M fx w' := by
  obtain ⟨h0, h1, h2, h3, h4, h5, h6⟩ := t
  exact ⟨(hb.cell (p := ⟨q, 0, none⟩) hq).trans h0, (hb.cell (p := ⟨q, 1, none⟩) hq).trans h1, (hb.cell (p := ⟨q, 2, none⟩) hq).trans h2, (hb.cell (p := ⟨q, 3, none⟩) hq).trans h3, (hb.cell (p := ⟨q, 4, none⟩) hq).trans h4, (hb.cell (p := ⟨q, 5, none⟩) hq).trans h5, (hb.cell (p := ⟨q, 6, none⟩) hq).trans h6⟩

def shl (b c : Int) : Int := wrap64 (b * 2 ^ (c % 64).toNat)
def sar (b c : Int) : Int := b / 2 ^ (c % 64).toNat
def shr (b c : Int) : Int := wrap64 ((un b : Int) / 2 ^ (c % 64).toNat)

theorem below_box {w w2 : World} {o : Obj} (h : Below (w.alloc o).drew.heap.size (w.alloc o).drew w2) : Below w.heap.size w w2 :=
  (((Below.refl _ w).alloc (Nat.le_refl _) o).drew).trans (h.mono (by simp [World.drew]))
theorem w64i (x : Int) : IntKind.i64.wrap x = wrap64 x := by rw [IntKind.wrap_i64]; unfold wrap64; first | done | omega

theorem f51 (a b c n h : Int) (ma : Option Addr) (mn mc : Nat) (fx : Int) (w : World) :
    Calls Tryd.prog 51 #[turnV a b c n h (.slice ma mn mc) fx] w fun ex w' => ex = .returned (.int .i64 (shl b c)) ∧ Below w.heap.size w w' := by
  obtain ⟨K, hK⟩ : ∃ K : Nat, c % 64 = K := ⟨(c % 64).toNat, by omega⟩
  have hK2 : K < 64 := by omega
  have HE : Hid (shl b c = IntKind.i64.wrap (b * 2 ^ K)) := (show shl b c = IntKind.i64.wrap (b * 2 ^ K) by unfold shl; rw [hK, w64i]; rfl)
  have c52 := fun w0 => f52 a b c n h ma mn mc fx w0
  rw [hK] at c52
  clear hK
  unfold turnV at *
  have HT := tAt_box w a b c n h (.slice ma mn mc) fx
  unfold tBox at HT
  obtain ⟨t0, t1, t2, t3, t4, t5, t6⟩ := HT
  go_enter Tryd.func51, Tryd.ntmps51
  go_wp2_with fail
  go_region_held (fun w' => w'.cell? ⟨w.heap.size, 0, none⟩ = some (.int .i64 a) ∧ w'.cell? ⟨w.heap.size, 1, none⟩ = some (.int .i64 b) ∧ w'.cell? ⟨w.heap.size, 2, none⟩ = some (.int .i64 c) ∧ w'.cell? ⟨w.heap.size, 3, none⟩ = some (.int .i64 n) ∧ w'.cell? ⟨w.heap.size, 4, none⟩ = some (.int .i64 h) ∧ w'.cell? ⟨w.heap.size, 5, none⟩ = some (.slice ma mn mc) ∧ w'.cell? ⟨w.heap.size, 6, none⟩ = some (.int .i64 fx)) (go_keep) (first
    | (go_at_call 52; refine (c52 _).mono ?_; rintro ex w2 ⟨rfl, b2⟩; obtain ⟨s0, s1, s2, s3, s4, s5, s6⟩ := tAt.below (q := w.heap.size) b2 (by simp) (by assumption); have HB := below_box b2; clear b2))
  all_goals
    go_wp2
    go_ret
    exact ⟨by rw [HE.out]; rfl, by assumption⟩

theorem f54 (a b c n h : Int) (ma : Option Addr) (mn mc : Nat) (fx : Int) (w : World) :
    Calls Tryd.prog 54 #[turnV a b c n h (.slice ma mn mc) fx] w fun ex w' => ex = .returned (.int .i64 (sar b c)) ∧ Below w.heap.size w w' := by
  obtain ⟨K, hK⟩ : ∃ K : Nat, c % 64 = K := ⟨(c % 64).toNat, by omega⟩
  have hK2 : K < 64 := by omega
  have HE : Hid (sar b c = b / 2 ^ K) := (show sar b c = b / 2 ^ K by unfold sar; rw [hK]; rfl)
  have c52 := fun w0 => f52 a b c n h ma mn mc fx w0
  rw [hK] at c52
  clear hK
  unfold turnV at *
  have HT := tAt_box w a b c n h (.slice ma mn mc) fx
  unfold tBox at HT
  obtain ⟨t0, t1, t2, t3, t4, t5, t6⟩ := HT
  go_enter Tryd.func54, Tryd.ntmps54
  go_wp2_with fail
  go_region_held (fun w' => w'.cell? ⟨w.heap.size, 0, none⟩ = some (.int .i64 a) ∧ w'.cell? ⟨w.heap.size, 1, none⟩ = some (.int .i64 b) ∧ w'.cell? ⟨w.heap.size, 2, none⟩ = some (.int .i64 c) ∧ w'.cell? ⟨w.heap.size, 3, none⟩ = some (.int .i64 n) ∧ w'.cell? ⟨w.heap.size, 4, none⟩ = some (.int .i64 h) ∧ w'.cell? ⟨w.heap.size, 5, none⟩ = some (.slice ma mn mc) ∧ w'.cell? ⟨w.heap.size, 6, none⟩ = some (.int .i64 fx)) (go_keep) (first
    | (go_at_call 52; refine (c52 _).mono ?_; rintro ex w2 ⟨rfl, b2⟩; obtain ⟨s0, s1, s2, s3, s4, s5, s6⟩ := tAt.below (q := w.heap.size) b2 (by simp) (by assumption); have HB := below_box b2; clear b2))
  all_goals
    go_wp2
    go_ret
    exact ⟨by rw [HE.out]; rfl, by assumption⟩

theorem f53 (a b c n h : Int) (ma : Option Addr) (mn mc : Nat) (fx : Int) (w : World) :
    Calls Tryd.prog 53 #[turnV a b c n h (.slice ma mn mc) fx] w fun ex w' => ex = .returned (.int .i64 (shr b c)) ∧ Below w.heap.size w w' := by
  obtain ⟨K, hK⟩ : ∃ K : Nat, c % 64 = K := ⟨(c % 64).toNat, by omega⟩
  have hK2 : K < 64 := by omega
  have HE : Hid (shr b c = IntKind.i64.wrap (IntKind.u64.wrap b / 2 ^ K)) := (show shr b c = IntKind.i64.wrap (IntKind.u64.wrap b / 2 ^ K) by unfold shr; rw [hK, w64i, u64un]; rfl)
  have c52 := fun w0 => f52 a b c n h ma mn mc fx w0
  rw [hK] at c52
  clear hK
  unfold turnV at *
  have HT := tAt_box w a b c n h (.slice ma mn mc) fx
  unfold tBox at HT
  obtain ⟨t0, t1, t2, t3, t4, t5, t6⟩ := HT
  go_enter Tryd.func53, Tryd.ntmps53
  go_wp2_with fail
  go_region_held (fun w' => w'.cell? ⟨w.heap.size, 0, none⟩ = some (.int .i64 a) ∧ w'.cell? ⟨w.heap.size, 1, none⟩ = some (.int .i64 b) ∧ w'.cell? ⟨w.heap.size, 2, none⟩ = some (.int .i64 c) ∧ w'.cell? ⟨w.heap.size, 3, none⟩ = some (.int .i64 n) ∧ w'.cell? ⟨w.heap.size, 4, none⟩ = some (.int .i64 h) ∧ w'.cell? ⟨w.heap.size, 5, none⟩ = some (.slice ma mn mc) ∧ w'.cell? ⟨w.heap.size, 6, none⟩ = some (.int .i64 fx)) (go_keep) (first
    | (go_at_call 52; refine (c52 _).mono ?_; rintro ex w2 ⟨rfl, b2⟩; obtain ⟨s0, s1, s2, s3, s4, s5, s6⟩ := tAt.below (q := w.heap.size) b2 (by simp) (by assumption); have HB := below_box b2; clear b2))
  all_goals
    go_wp2
    go_ret
    exact ⟨by rw [HE.out]; rfl, by assumption⟩

theorem f47 (a b c n h : Int) (hc : c ≠ 0) (hc6 : I6 c) (ma : Option Addr) (mn mc : Nat) (fx : Int) (w : World) :
    Calls Tryd.prog 47 #[turnV a b c n h (.slice ma mn mc) fx] w fun ex w' => ex = .returned (.int .i64 (rm b c)) ∧ Below w.heap.size w w' := by
  have HE : Hid (rm b c = IntKind.i64.wrap (b - IntKind.i64.wrap (qt b c * c))) := (show rm b c = IntKind.i64.wrap (b - IntKind.i64.wrap (qt b c * c)) by rw [w64i, w64i, rm_of hc6 hc])
  have c46 := fun w0 => f46 a b c n h hc ma mn mc fx w0
  clear hc6
  unfold turnV at *
  have HT := tAt_box w a b c n h (.slice ma mn mc) fx
  unfold tBox at HT
  obtain ⟨t0, t1, t2, t3, t4, t5, t6⟩ := HT
  go_enter Tryd.func47, Tryd.ntmps47
  go_wp2_with fail
  go_region_held (fun w' => w'.cell? ⟨w.heap.size, 0, none⟩ = some (.int .i64 a) ∧ w'.cell? ⟨w.heap.size, 1, none⟩ = some (.int .i64 b) ∧ w'.cell? ⟨w.heap.size, 2, none⟩ = some (.int .i64 c) ∧ w'.cell? ⟨w.heap.size, 3, none⟩ = some (.int .i64 n) ∧ w'.cell? ⟨w.heap.size, 4, none⟩ = some (.int .i64 h) ∧ w'.cell? ⟨w.heap.size, 5, none⟩ = some (.slice ma mn mc) ∧ w'.cell? ⟨w.heap.size, 6, none⟩ = some (.int .i64 fx)) (go_keep) (first
    | (go_at_call 46; refine (c46 _).mono ?_; rintro ex w2 ⟨rfl, b2⟩; obtain ⟨s0, s1, s2, s3, s4, s5, s6⟩ := tAt.below (q := w.heap.size) b2 (by simp) (by assumption); have HB := below_box b2; clear b2))
  all_goals
    go_wp2
    go_ret
    exact ⟨by rw [HE.out]; rfl, by assumption⟩

set_option maxHeartbeats 1000000 in
theorem f38 (F : Nat → Prop) (xs : List Int) (a b c n h : Int) (ma : Option Addr) (mn mc : Nat) (fx : Int) (w : World) (hz : Zs w F ma mn mc xs) :
    Calls Tryd.prog 38 #[turnV a b c n h (.slice ma mn mc) fx] w fun ex w' => ex = .returned (.int .i64 (if wi xs.length (wrap64 (b + n)) 1 = true then 0 else 2)) ∧ Below w.heap.size w w' := by
  have c83 := fun w0 => f83 a b c n h ma mn mc fx w0
  have c82 := fun w0 (hb : Below w.heap.size w w0) => load_any F (wrap64 (b + n)) ma mn mc xs w0 (hz.kept (Kept.of_below (F := No) hb) (fun _ _ h => h))
  clear hz
  generalize wrap64 (b + n) = A at *
  generalize mmVal xs A = V at *
  generalize wi xs.length A 1 = WI at *
  cases WI
  · skip
    unfold turnV at *
    have HT := tAt_box w a b c n h (.slice ma mn mc) fx
    unfold tBox at HT
    obtain ⟨t0, t1, t2, t3, t4, t5, t6⟩ := HT
    go_enter Tryd.func38, Tryd.ntmps38
    go_wp2_with fail
    go_region_held (fun w' => w'.cell? ⟨w.heap.size, 0, none⟩ = some (.int .i64 a) ∧ w'.cell? ⟨w.heap.size, 1, none⟩ = some (.int .i64 b) ∧ w'.cell? ⟨w.heap.size, 2, none⟩ = some (.int .i64 c) ∧ w'.cell? ⟨w.heap.size, 3, none⟩ = some (.int .i64 n) ∧ w'.cell? ⟨w.heap.size, 4, none⟩ = some (.int .i64 h) ∧ w'.cell? ⟨w.heap.size, 5, none⟩ = some (.slice ma mn mc) ∧ w'.cell? ⟨w.heap.size, 6, none⟩ = some (.int .i64 fx)) (go_keep) (first
      | (go_at_call 83; refine (c83 _).mono ?_; rintro ex w2 ⟨rfl, b2⟩; obtain ⟨s0, s1, s2, s3, s4, s5, s6⟩ := tAt.below (q := w.heap.size) b2 (by simp) (by assumption); have HB := below_box b2; clear b2)
      | (go_at_call 82; refine (c82 _ (by assumption)).mono ?_; rintro ex w3 ⟨rfl, hw⟩; obtain rfl := hw.symm))
    all_goals
      go_wp2
      go_ret
      exact ⟨rfl, by assumption⟩
  · skip
    unfold turnV at *
    have HT := tAt_box w a b c n h (.slice ma mn mc) fx
    unfold tBox at HT
    obtain ⟨t0, t1, t2, t3, t4, t5, t6⟩ := HT
    go_enter Tryd.func38, Tryd.ntmps38
    go_wp2_with fail
    go_region_held (fun w' => w'.cell? ⟨w.heap.size, 0, none⟩ = some (.int .i64 a) ∧ w'.cell? ⟨w.heap.size, 1, none⟩ = some (.int .i64 b) ∧ w'.cell? ⟨w.heap.size, 2, none⟩ = some (.int .i64 c) ∧ w'.cell? ⟨w.heap.size, 3, none⟩ = some (.int .i64 n) ∧ w'.cell? ⟨w.heap.size, 4, none⟩ = some (.int .i64 h) ∧ w'.cell? ⟨w.heap.size, 5, none⟩ = some (.slice ma mn mc) ∧ w'.cell? ⟨w.heap.size, 6, none⟩ = some (.int .i64 fx)) (go_keep) (first
      | (go_at_call 83; refine (c83 _).mono ?_; rintro ex w2 ⟨rfl, b2⟩; obtain ⟨s0, s1, s2, s3, s4, s5, s6⟩ := tAt.below (q := w.heap.size) b2 (by simp) (by assumption); have HB := below_box b2; clear b2)
      | (go_at_call 82; refine (c82 _ (by assumption)).mono ?_; rintro ex w3 ⟨rfl, hw⟩; obtain rfl := hw.symm))
    all_goals
      go_wp2
      go_ret
      exact ⟨rfl, by assumption⟩

set_option maxHeartbeats 1000000 in
theorem f39 (F : Nat → Prop) (xs : List Int) (a b c n h : Int) (ma : Option Addr) (mn mc : Nat) (fx : Int) (w : World) (hz : Zs w F ma mn mc xs) :
    Calls Tryd.prog 39 #[turnV a b c n h (.slice ma mn mc) fx] w fun ex w' => ex = .returned (.int .i64 (mmVal xs (wrap64 (b + n)))) ∧ Below w.heap.size w w' := by
  have c83 := fun w0 => f83 a b c n h ma mn mc fx w0
  have c82 := fun w0 (hb : Below w.heap.size w w0) => load_any F (wrap64 (b + n)) ma mn mc xs w0 (hz.kept (Kept.of_below (F := No) hb) (fun _ _ h => h))
  clear hz
  generalize wrap64 (b + n) = A at *
  generalize mmVal xs A = V at *
  generalize wi xs.length A 1 = WI at *
  unfold turnV at *
  have HT := tAt_box w a b c n h (.slice ma mn mc) fx
  unfold tBox at HT
  obtain ⟨t0, t1, t2, t3, t4, t5, t6⟩ := HT
  go_enter Tryd.func39, Tryd.ntmps39
  go_wp2_with fail
  go_region_held (fun w' => w'.cell? ⟨w.heap.size, 0, none⟩ = some (.int .i64 a) ∧ w'.cell? ⟨w.heap.size, 1, none⟩ = some (.int .i64 b) ∧ w'.cell? ⟨w.heap.size, 2, none⟩ = some (.int .i64 c) ∧ w'.cell? ⟨w.heap.size, 3, none⟩ = some (.int .i64 n) ∧ w'.cell? ⟨w.heap.size, 4, none⟩ = some (.int .i64 h) ∧ w'.cell? ⟨w.heap.size, 5, none⟩ = some (.slice ma mn mc) ∧ w'.cell? ⟨w.heap.size, 6, none⟩ = some (.int .i64 fx)) (go_keep) (first
    | (go_at_call 83; refine (c83 _).mono ?_; rintro ex w2 ⟨rfl, b2⟩; obtain ⟨s0, s1, s2, s3, s4, s5, s6⟩ := tAt.below (q := w.heap.size) b2 (by simp) (by assumption); have HB := below_box b2; clear b2)
    | (go_at_call 82; refine (c82 _ (by assumption)).mono ?_; rintro ex w3 ⟨rfl, hw⟩; obtain rfl := hw.symm))
  all_goals
    go_wp2
    go_ret
    exact ⟨rfl, by assumption⟩

set_option maxHeartbeats 1000000 in
theorem f40 (F : Nat → Prop) (xs : List Int) (a b c n h : Int) (ma : Option Addr) (mn mc : Nat) (fx : Int) (w : World) (hz : Zs w F ma mn mc xs) :
    Calls Tryd.prog 40 #[turnV a b c n h (.slice ma mn mc) fx] w fun ex w' => ex = .returned (.int .i64 (if wb xs.length fx (wrap64 (b + n)) 1 = true then 0 else 2)) ∧ Below w.heap.size w w' := by
  have c83 := fun w0 => f83 a b c n h ma mn mc fx w0
  have hmn : (mn : Int) ≤ 9223372036854775807 := by have h1 := hz.cap; have h2 := hz.max; omega
  have c72 := fun w0 => writable_any mn fx (wrap64 (b + n)) 1 w0 hmn
  rw [hz.len]
  clear hz
  generalize wrap64 (b + n) = A at *
  generalize wb mn fx A 1 = WI at *
  cases WI
  · skip
    unfold turnV at *
    have HT := tAt_box w a b c n h (.slice ma mn mc) fx
    unfold tBox at HT
    obtain ⟨t0, t1, t2, t3, t4, t5, t6⟩ := HT
    go_enter Tryd.func40, Tryd.ntmps40
    go_wp2_with fail
    go_region_held (fun w' => w'.cell? ⟨w.heap.size, 0, none⟩ = some (.int .i64 a) ∧ w'.cell? ⟨w.heap.size, 1, none⟩ = some (.int .i64 b) ∧ w'.cell? ⟨w.heap.size, 2, none⟩ = some (.int .i64 c) ∧ w'.cell? ⟨w.heap.size, 3, none⟩ = some (.int .i64 n) ∧ w'.cell? ⟨w.heap.size, 4, none⟩ = some (.int .i64 h) ∧ w'.cell? ⟨w.heap.size, 5, none⟩ = some (.slice ma mn mc) ∧ w'.cell? ⟨w.heap.size, 6, none⟩ = some (.int .i64 fx)) (go_keep) (first
      | (go_at_call 83; refine (c83 _).mono ?_; rintro ex w2 ⟨rfl, b2⟩; obtain ⟨s0, s1, s2, s3, s4, s5, s6⟩ := tAt.below (q := w.heap.size) b2 (by simp) (by assumption); have HB := below_box b2; clear b2)
      | (go_at_call 72; refine (c72 _).mono ?_; rintro ex w3 ⟨rfl, hw⟩; obtain rfl := hw.symm))
    all_goals
      go_wp2
      go_ret
      exact ⟨rfl, by assumption⟩
  · skip
    unfold turnV at *
    have HT := tAt_box w a b c n h (.slice ma mn mc) fx
    unfold tBox at HT
    obtain ⟨t0, t1, t2, t3, t4, t5, t6⟩ := HT
    go_enter Tryd.func40, Tryd.ntmps40
    go_wp2_with fail
    go_region_held (fun w' => w'.cell? ⟨w.heap.size, 0, none⟩ = some (.int .i64 a) ∧ w'.cell? ⟨w.heap.size, 1, none⟩ = some (.int .i64 b) ∧ w'.cell? ⟨w.heap.size, 2, none⟩ = some (.int .i64 c) ∧ w'.cell? ⟨w.heap.size, 3, none⟩ = some (.int .i64 n) ∧ w'.cell? ⟨w.heap.size, 4, none⟩ = some (.int .i64 h) ∧ w'.cell? ⟨w.heap.size, 5, none⟩ = some (.slice ma mn mc) ∧ w'.cell? ⟨w.heap.size, 6, none⟩ = some (.int .i64 fx)) (go_keep) (first
      | (go_at_call 83; refine (c83 _).mono ?_; rintro ex w2 ⟨rfl, b2⟩; obtain ⟨s0, s1, s2, s3, s4, s5, s6⟩ := tAt.below (q := w.heap.size) b2 (by simp) (by assumption); have HB := below_box b2; clear b2)
      | (go_at_call 72; refine (c72 _).mono ?_; rintro ex w3 ⟨rfl, hw⟩; obtain rfl := hw.symm))
    all_goals
      go_wp2
      go_ret
      exact ⟨rfl, by assumption⟩

end Go.Proofs.YtijeaonldhccmaaDoor
