/-
  Jumps: the program's; plain, of the statements.
-/
import Derived.Test.YtkmhpbjegkhabaaDoorKnown
namespace Go.Proofs.YtkmhpbjegkhabaaDoor
open Go.RowKit
set_option linter.unusedVariables false

def jp (o : Int) : Bool := decide (0 ≤ Lib.indexByte (shs.getD o.toNat []) 112)
def jmB (o a b c n : Int) : Bool := lg o a b c n && (o == 25 || jp o)
def jmN (o a b c n : Int) : Int := if lg o a b c n then (if o = 25 then -1 else if jp o then n else 0) else 0

set_option maxHeartbeats 4000000 in
theorem jumps_any (o a b c n : Int) (ho : 0 ≤ o ∧ o < 256) (ha : 0 ≤ a ∧ a < 256) (hb : 0 ≤ b ∧ b < 256) (hc : 0 ≤ c ∧ c < 256) (hn : -2147483648 ≤ n ∧ n ≤ 2147483647) (w : World) (hO : Ops w) :
    Calls Tryd.prog 19 #[insV o a b c n] w fun ex w' => ex = .returned (.tuple #[.int .i64 (jmN o a b c n), .bool (jmB o a b c n)]) ∧ Below w.heap.size w w' := by
  have hbx : Below w.heap.size w (box w o a b c n) := (Below.refl _ w).alloc (Nat.le_refl _) _
  have c20 := via (legal_any o a b c n ho ha hb hc (box w o a b c n) (hO.below hbx hO.pos)) (Below.refl (w.heap.size + 1) (box w o a b c n)) (by simp)
  have c10 := fun w0 (hb : Below w.heap.size w w0) => shape_any o ho w0 (hO.below hb hO.pos)
  have HCELL : Hid (∀ w0, Below (w.heap.size + 1) (box w o a b c n) w0 → w0.heap[w.heap.size]? = some (.cells #[.int .u8 o, .int .u8 a, .int .u8 b, .int .u8 c, .int .i32 n] 26)) := (fun w0 h => (h.block w.heap.size (by omega)).trans (heap_alloc_new w _))
  have HBX : Hid (Below w.heap.size w (box w o a b c n)) := hbx
  cases hl : lg o a b c n
  · have e1 : jmN o a b c n = 0 := by unfold jmN; rw [hl]; rfl
    have e2 : jmB o a b c n = false := by unfold jmB; rw [hl]; rfl
    rw [e1, e2]
    rw [hl] at c20
    unfold insV at *
    clear hO hl e1 e2 hbx ho ha hb hc hn c10
    go_enter Tryd.func19, Tryd.ntmps19
    go_wp2_with (go_at_call 20; refine c20.mono ?_; rintro ex w1 ⟨rfl, b1⟩; have bw1 := HBX.out.trans (b1.mono (Nat.le_succ _)))
    go_ret2
    exact ⟨rfl, bw1⟩
  · rw [hl] at c20
    have hk : kn o = true := by unfold lg at hl; cases h : kn o <;> simp [h] at hl; rfl
    have hS : (shV o).data.toList = shs.getD o.toNat [] := by unfold shV shB; rw [hk]; simp
    have c27 := fun w0 => Tryd.strings_Contains_one (shV o) 112 w0
    rw [hS] at c27
    rw [hk] at c10
    by_cases h25 : o = 25
    · have e1 : jmN o a b c n = -1 := by unfold jmN; rw [hl, if_pos rfl, if_pos h25]
      have e2 : jmB o a b c n = true := by unfold jmB; rw [hl, h25]; rfl
      rw [e1, e2]
      have q : (o == 25) = true := by simpa using h25
      unfold insV at *
      clear hO hl e1 e2 hbx ho ha hb hc hn c10 h25 hk hS c27
      go_enter Tryd.func19, Tryd.ntmps19
      go_wp2_with (go_at_call 20; refine c20.mono ?_; rintro ex w1 ⟨rfl, b1⟩; have bw1 := HBX.out.trans (b1.mono (Nat.le_succ _)); obtain ⟨r0, r1, r2, r3, r4⟩ := cells5 (HCELL.out w1 b1))
      go_ret2
      exact ⟨rfl, bw1⟩
    · have e2 : jmB o a b c n = jp o := by unfold jmB; rw [hl, show (o == 25) = false by simpa using h25]; rfl
      have e1 : jmN o a b c n = if jp o then n else 0 := by unfold jmN; rw [hl, if_pos rfl, if_neg h25]
      rw [e1, e2]
      have q : (o == 25) = false := by simpa using h25
      obtain ⟨S, hS2⟩ : ∃ S, S = shV o := ⟨_, rfl⟩
      rw [← hS2] at c10 c27
      have ej : decide (0 ≤ Lib.indexByte (shs.getD o.toNat []) 112) = jp o := rfl
      rw [ej] at c27
      obtain ⟨J, hJ⟩ : ∃ J, J = jp o := ⟨_, rfl⟩
      rw [← hJ] at c27 ⊢
      unfold insV at *
      clear hO hl e1 e2 hbx ho ha hb hc h25 hk hS hS2 hJ ej
      obtain ⟨hn1, hn2⟩ := hn
      cases J
      · go_enter Tryd.func19, Tryd.ntmps19
        go_wp2_with (first
          | (go_at_call 20; refine c20.mono ?_; rintro ex w1 ⟨rfl, b1⟩; have bw1 := HBX.out.trans (b1.mono (Nat.le_succ _)); obtain ⟨r0, r1, r2, r3, r4⟩ := cells5 (HCELL.out w1 b1))
          | (go_at_call 10; refine (c10 _ (by assumption)).mono ?_; rintro ex w2 ⟨rfl, hw⟩; obtain rfl := hw.symm)
          | (go_at_call 27; refine (c27 _).mono ?_; rintro ex w2 ⟨rfl, hw⟩; obtain rfl := hw.symm))
        go_ret2
        exact ⟨rfl, bw1⟩
      · go_enter Tryd.func19, Tryd.ntmps19
        go_wp2_with (first
          | (go_at_call 20; refine c20.mono ?_; rintro ex w1 ⟨rfl, b1⟩; have bw1 := HBX.out.trans (b1.mono (Nat.le_succ _)); obtain ⟨r0, r1, r2, r3, r4⟩ := cells5 (HCELL.out w1 b1))
          | (go_at_call 10; refine (c10 _ (by assumption)).mono ?_; rintro ex w2 ⟨rfl, hw⟩; obtain rfl := hw.symm)
          | (go_at_call 27; refine (c27 _).mono ?_; rintro ex w2 ⟨rfl, hw⟩; obtain rfl := hw.symm))
        go_ret2
        exact ⟨rfl, bw1⟩

/-- the instruction without the operands of its shape -/
def plV (s : List UInt8) (o a b c n : Int) : Value := insV o (if (97 : UInt8) ∈ s then 0 else a) (if (98 : UInt8) ∈ s then 0 else b) (if (99 : UInt8) ∈ s then 0 else c) (if (110 : UInt8) ∈ s ∨ (112 : UInt8) ∈ s then 0 else n)

set_option maxHeartbeats 4000000 in
theorem plain_none (o a b c n : Int) (w : World) : Calls Tryd.prog 18 #[insV o a b c n, .string ⟨#[]⟩] w fun ex w' => ex = .returned (plV [] o a b c n) ∧ Below w.heap.size w w' := by
  have e : plV [] o a b c n = insV o a b c n := by unfold plV; simp
  rw [e]
  clear e
  unfold insV
  go_enter Tryd.func18, Tryd.ntmps18
  go_wp2
  go_rounds 1
  refine bodyPost_ret (results_cell_row rfl _ _ (w.heap.size + 1) 26 _ (0, 0) _ rfl (heap_alloc2_new _ _ _) Tryd.underlying26 rfl (by kernel_rfl)) rfl ?_
  exact ⟨rfl, by go_grown⟩

set_option maxHeartbeats 4000000 in
theorem plain_an (o a b c n : Int) (w : World) : Calls Tryd.prog 18 #[insV o a b c n, .string ⟨#[97, 110]⟩] w fun ex w' => ex = .returned (plV [97, 110] o a b c n) ∧ Below w.heap.size w w' := by
  have e : plV [97, 110] o a b c n = insV o 0 b c 0 := by unfold plV; simp
  rw [e]
  clear e
  unfold insV
  go_enter Tryd.func18, Tryd.ntmps18
  go_wp2
  go_rounds 3
  refine bodyPost_ret (results_cell_row rfl _ _ (w.heap.size + 1) 26 _ (0, 0) _ rfl (heap_alloc2_new _ _ _) Tryd.underlying26 rfl (by kernel_rfl)) rfl ?_
  exact ⟨rfl, by go_grown⟩

set_option maxHeartbeats 4000000 in
theorem plain_ab (o a b c n : Int) (w : World) : Calls Tryd.prog 18 #[insV o a b c n, .string ⟨#[97, 98]⟩] w fun ex w' => ex = .returned (plV [97, 98] o a b c n) ∧ Below w.heap.size w w' := by
  have e : plV [97, 98] o a b c n = insV o 0 0 c n := by unfold plV; simp
  rw [e]
  clear e
  unfold insV
  go_enter Tryd.func18, Tryd.ntmps18
  go_wp2
  go_rounds 3
  refine bodyPost_ret (results_cell_row rfl _ _ (w.heap.size + 1) 26 _ (0, 0) _ rfl (heap_alloc2_new _ _ _) Tryd.underlying26 rfl (by kernel_rfl)) rfl ?_
  exact ⟨rfl, by go_grown⟩

set_option maxHeartbeats 4000000 in
theorem plain_abn (o a b c n : Int) (w : World) : Calls Tryd.prog 18 #[insV o a b c n, .string ⟨#[97, 98, 110]⟩] w fun ex w' => ex = .returned (plV [97, 98, 110] o a b c n) ∧ Below w.heap.size w w' := by
  have e : plV [97, 98, 110] o a b c n = insV o 0 0 c 0 := by unfold plV; simp
  rw [e]
  clear e
  unfold insV
  go_enter Tryd.func18, Tryd.ntmps18
  go_wp2
  go_rounds 4
  refine bodyPost_ret (results_cell_row rfl _ _ (w.heap.size + 1) 26 _ (0, 0) _ rfl (heap_alloc2_new _ _ _) Tryd.underlying26 rfl (by kernel_rfl)) rfl ?_
  exact ⟨rfl, by go_grown⟩

set_option maxHeartbeats 4000000 in
theorem plain_abc (o a b c n : Int) (w : World) : Calls Tryd.prog 18 #[insV o a b c n, .string ⟨#[97, 98, 99]⟩] w fun ex w' => ex = .returned (plV [97, 98, 99] o a b c n) ∧ Below w.heap.size w w' := by
  have e : plV [97, 98, 99] o a b c n = insV o 0 0 0 n := by unfold plV; simp
  rw [e]
  clear e
  unfold insV
  go_enter Tryd.func18, Tryd.ntmps18
  go_wp2
  go_rounds 4
  refine bodyPost_ret (results_cell_row rfl _ _ (w.heap.size + 1) 26 _ (0, 0) _ rfl (heap_alloc2_new _ _ _) Tryd.underlying26 rfl (by kernel_rfl)) rfl ?_
  exact ⟨rfl, by go_grown⟩

set_option maxHeartbeats 4000000 in
theorem plain_p (o a b c n : Int) (w : World) : Calls Tryd.prog 18 #[insV o a b c n, .string ⟨#[112]⟩] w fun ex w' => ex = .returned (plV [112] o a b c n) ∧ Below w.heap.size w w' := by
  have e : plV [112] o a b c n = insV o a b c 0 := by unfold plV; simp
  rw [e]
  clear e
  unfold insV
  go_enter Tryd.func18, Tryd.ntmps18
  go_wp2
  go_rounds 2
  refine bodyPost_ret (results_cell_row rfl _ _ (w.heap.size + 1) 26 _ (0, 0) _ rfl (heap_alloc2_new _ _ _) Tryd.underlying26 rfl (by kernel_rfl)) rfl ?_
  exact ⟨rfl, by go_grown⟩

set_option maxHeartbeats 4000000 in
theorem plain_ap (o a b c n : Int) (w : World) : Calls Tryd.prog 18 #[insV o a b c n, .string ⟨#[97, 112]⟩] w fun ex w' => ex = .returned (plV [97, 112] o a b c n) ∧ Below w.heap.size w w' := by
  have e : plV [97, 112] o a b c n = insV o 0 b c 0 := by unfold plV; simp
  rw [e]
  clear e
  unfold insV
  go_enter Tryd.func18, Tryd.ntmps18
  go_wp2
  go_rounds 3
  refine bodyPost_ret (results_cell_row rfl _ _ (w.heap.size + 1) 26 _ (0, 0) _ rfl (heap_alloc2_new _ _ _) Tryd.underlying26 rfl (by kernel_rfl)) rfl ?_
  exact ⟨rfl, by go_grown⟩

set_option maxHeartbeats 4000000 in
theorem plain_a (o a b c n : Int) (w : World) : Calls Tryd.prog 18 #[insV o a b c n, .string ⟨#[97]⟩] w fun ex w' => ex = .returned (plV [97] o a b c n) ∧ Below w.heap.size w w' := by
  have e : plV [97] o a b c n = insV o 0 b c n := by unfold plV; simp
  rw [e]
  clear e
  unfold insV
  go_enter Tryd.func18, Tryd.ntmps18
  go_wp2
  go_rounds 2
  refine bodyPost_ret (results_cell_row rfl _ _ (w.heap.size + 1) 26 _ (0, 0) _ rfl (heap_alloc2_new _ _ _) Tryd.underlying26 rfl (by kernel_rfl)) rfl ?_
  exact ⟨rfl, by go_grown⟩

set_option maxHeartbeats 4000000 in
theorem plain_n (o a b c n : Int) (w : World) : Calls Tryd.prog 18 #[insV o a b c n, .string ⟨#[110]⟩] w fun ex w' => ex = .returned (plV [110] o a b c n) ∧ Below w.heap.size w w' := by
  have e : plV [110] o a b c n = insV o a b c 0 := by unfold plV; simp
  rw [e]
  clear e
  unfold insV
  go_enter Tryd.func18, Tryd.ntmps18
  go_wp2
  go_rounds 2
  refine bodyPost_ret (results_cell_row rfl _ _ (w.heap.size + 1) 26 _ (0, 0) _ rfl (heap_alloc2_new _ _ _) Tryd.underlying26 rfl (by kernel_rfl)) rfl ?_
  exact ⟨rfl, by go_grown⟩

theorem plain_any (s : List UInt8) (h9 : Sh9 s) (o a b c n : Int) (w : World) : Calls Tryd.prog 18 #[insV o a b c n, .string ⟨s.toArray⟩] w fun ex w' => ex = .returned (plV s o a b c n) ∧ Below w.heap.size w w' := by
  unfold Sh9 at h9
  rcases h9 with h | h | h | h | h | h | h | h | h <;> subst h
  · exact plain_none o a b c n w
  · exact plain_an o a b c n w
  · exact plain_ab o a b c n w
  · exact plain_abn o a b c n w
  · exact plain_abc o a b c n w
  · exact plain_p o a b c n w
  · exact plain_ap o a b c n w
  · exact plain_a o a b c n w
  · exact plain_n o a b c n w

end Go.Proofs.YtkmhpbjegkhabaaDoor
