/-
  Jumps and Show: the document's.
-/
import Derived.Test.YtkmhpbjegkhabaaDoorRefLegal
import Derived.Test.YtkmhpbjegkhabaaDoorJumps
import Derived.Deep.RegionWith
namespace Go.Proofs.YtkmhpbjegkhabaaDoor
open Go.RowKit
set_option linter.unusedVariables false

theorem table_drew {F : Nat} {f : Nat → ByteArray} (h : ∀ w : World, Calls Tryd.prog F #[] w fun ex w' => ex = .returned (.slice (some ⟨w.heap.size, 0, none⟩) 28 28) ∧ Below w.heap.size w w' ∧ ∀ i, i < 28 → w'.cell? ⟨w.heap.size, i, none⟩ = some (.string (f i))) (w : World) (i : Nat) (hi : i < 28) (S : ByteArray) (hS : S = f i) :
    Calls Tryd.prog F #[] w.drew fun ex w' => ex = .returned (.slice (some ⟨w.heap.size, 0, none⟩) 28 28) ∧ Below w.heap.size w w' ∧ w'.cell? ⟨w.heap.size, i, none⟩ = some (.string S) := by
  refine (h w.drew).mono ?_
  rintro ex w' ⟨rfl, bl, hcs⟩
  exact ⟨rfl, ((Below.refl w.heap.size w).drew).trans bl, by rw [hS]; exact hcs i hi⟩
theorem shB_size (k : Nat) (hk : k < 27) : (shB (k + 1)).size ≤ 3 := by
  have := sh_size k hk
  unfold shB
  exact this
theorem nmB_size (k : Nat) (hk : k < 27) : (nmB (k + 1)).size ≤ 4 := by
  have := (nm_size k hk).2
  unfold nmB
  exact this

theorem jp_mem2 : ∀ k, k < 27 → decide (0 ≤ Lib.indexByte (shs.getD (k + 1) []) 112) = decide ((112 : UInt8) ∈ shs.getD (k + 1) []) := by decide

set_option maxHeartbeats 8000000 in
set_option maxRecDepth 100000 in
theorem refJumps_any (o a b c n : Int) (ho : 0 ≤ o ∧ o < 256) (ha : 0 ≤ a ∧ a < 256) (hb : 0 ≤ b ∧ b < 256) (hc : 0 ≤ c ∧ c < 256) (hn : -2147483648 ≤ n ∧ n ≤ 2147483647) (w : World) :
    Calls Tryd.prog 23 #[insV o a b c n] w fun ex w' => ex = .returned (.tuple #[.int .i64 (jmN o a b c n), .bool (jmB o a b c n)]) ∧ Below w.heap.size w w' := by
  have hbx : Below w.heap.size w (box w o a b c n) := (Below.refl _ w).alloc (Nat.le_refl _) _
  have c24 := via (refLegal_any o a b c n ho ha hb hc (box w o a b c n)) (Below.refl (w.heap.size + 1) (box w o a b c n)) (by simp)
  have HCELL : Hid (∀ w0, Below (w.heap.size + 1) (box w o a b c n) w0 → w0.heap[w.heap.size]? = some (.cells #[.int .u8 o, .int .u8 a, .int .u8 b, .int .u8 c, .int .i32 n] 26)) := (fun w0 h => (h.block w.heap.size (by omega)).trans (heap_alloc_new w _))
  have HBX : Hid (Below w.heap.size w (box w o a b c n)) := hbx
  cases hl : lg o a b c n
  · have e1 : jmN o a b c n = 0 := by unfold jmN; rw [hl]; rfl
    have e2 : jmB o a b c n = false := by unfold jmB; rw [hl]; rfl
    rw [e1, e2]
    rw [hl] at c24
    unfold insV at *
    clear hl e1 e2 hbx ho ha hb hc hn
    go_enter Tryd.func23, Tryd.ntmps23
    go_wp2_with (go_at_call 24; refine c24.mono ?_; rintro ex w1 ⟨rfl, b1⟩; have bw1 := HBX.out.trans (b1.mono (Nat.le_succ _)))
    go_ret2
    exact ⟨rfl, bw1⟩
  · rw [hl] at c24
    have hk : kn o = true := by unfold lg at hl; cases h : kn o <;> simp [h] at hl; rfl
    by_cases h25 : o = 25
    · have e1 : jmN o a b c n = -1 := by unfold jmN; rw [hl, if_pos rfl, if_pos h25]
      have e2 : jmB o a b c n = true := by unfold jmB; rw [hl, h25]; rfl
      rw [e1, e2]
      have q : (o == 25) = true := by simpa using h25
      unfold insV at *
      clear hl e1 e2 hbx ho ha hb hc hn h25 hk
      go_enter Tryd.func23, Tryd.ntmps23
      go_wp2_with (go_at_call 24; refine c24.mono ?_; rintro ex w1 ⟨rfl, b1⟩; have bw1 := HBX.out.trans (b1.mono (Nat.le_succ _)); obtain ⟨r0, r1, r2, r3, r4⟩ := cells5 (HCELL.out w1 b1))
      go_ret2
      exact ⟨rfl, bw1⟩
    · have hk2 : 1 ≤ o ∧ o ≤ 27 := by unfold kn at hk; simpa using hk
      have e2 : jmB o a b c n = jp o := by unfold jmB; rw [hl, show (o == 25) = false by simpa using h25]; rfl
      have e1 : jmN o a b c n = if jp o then n else 0 := by unfold jmN; rw [hl, if_pos rfl, if_neg h25]
      rw [e1, e2]
      have q : (o == 25) = false := by simpa using h25
      obtain ⟨k, rfl⟩ : ∃ k : Nat, o = (k : Int) + 1 := ⟨(o - 1).toNat, by omega⟩
      have hk3 : k < 27 := by omega
      have hz : (shB (k + 1)).size < 1000 := by have := shB_size k hk3; omega
      have c31 := fun w0 => has_any (shB (k + 1)) 112 hz w0
      have hjp : decide ((112 : UInt8) ∈ (shB (k + 1)).data.toList) = jp ((k : Int) + 1) := by
        unfold jp
        rw [show ((k : Int) + 1).toNat = k + 1 by omega, jp_mem2 k hk3]
        unfold shB
        simp
      rw [hjp] at c31
      obtain ⟨S, hS2⟩ : ∃ S, S = shB (k + 1) := ⟨_, rfl⟩
      rw [← hS2] at c31
      have c26 := fun (w0 : World) => table_drew shapes_any w0 (k + 1) (by omega) S hS2
      obtain ⟨J, hJ⟩ : ∃ J, J = jp ((k : Int) + 1) := ⟨_, rfl⟩
      rw [← hJ] at c31 ⊢
      have hlit : ((112 : UInt8).toNat : Int) = 112 := rfl
      rw [hlit] at c31
      unfold insV at *
      clear hl e1 e2 hbx ho ha hb hc h25 hk hS2 hJ hjp hz hlit
      obtain ⟨hn1, hn2⟩ := hn
      go_enter Tryd.func23, Tryd.ntmps23
      go_upto_region 5 with (go_at_call 24; refine c24.mono ?_; rintro ex w1 ⟨rfl, b1⟩; have bw1 := HBX.out.trans (b1.mono (Nat.le_succ _)); obtain ⟨r0, r1, r2, r3, r4⟩ := cells5 (HCELL.out w1 b1))
      have hwk : IntKind.i64.wrap ((k : Int) + 1) = (k : Int) + 1 := by rw [IntKind.wrap_i64]; omega
      have HB1 : Hid (Below (w.heap.size + 1) (box w ((k : Int) + 1) a b c n) w1) := b1
      have hsz1 : w.heap.size + 1 ≤ w1.heap.size := by have := b1.size; simpa using this
      have HBW1 : Hid (Below w.heap.size w w1) := bw1
      clear b1 bw1
      go_region_with (first
        | (go_at_call 26; refine (c26 w1).mono ?_; rintro ex w3 ⟨rfl, b3, hc3⟩; obtain ⟨s0, s1, s2, s3, s4⟩ := cells5 (HCELL.out w3 (HB1.out.trans (b3.mono hsz1))); have HB3 : Hid (Below w.heap.size w w3) := HBW1.out.trans (b3.mono (Nat.le_of_succ_le hsz1)); clear b3)
        | (go_at_call 31; refine (c31 _).mono ?_; rintro ex w4 ⟨rfl, hw⟩; obtain rfl := hw.symm))
      all_goals
        cases J
        · go_wp2
          go_ret2
          exact ⟨rfl, HB3.out⟩
        · go_wp2
          go_ret2
          exact ⟨rfl, HB3.out⟩

end Go.Proofs.YtkmhpbjegkhabaaDoor
