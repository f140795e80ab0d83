/-
  Legal: the document's.
-/
import Derived.Test.YtijeaonldhccmaaDoorLegal
import Derived.Laws.IdiomStrings
import Derived.Deep.QuietTactic
import Derived.Deep.DeepCutAuto
import Derived.BigQuiet
import Derived.WalkSmall
import Derived.Deep.RegionWith
namespace Go.Proofs.YtijeaonldhccmaaDoor
open Go.RowKit
set_option linter.unusedVariables false

abbrev box (w : World) (o a b c n : Int) : World := w.alloc (.cells #[.int .u8 o, .int .u8 a, .int .u8 b, .int .u8 c, .int .i32 n] 30)
theorem cells5 {w : World} {q : Nat} {o a b c n : Int} (h : w.heap[q]? = some (.cells #[.int .u8 o, .int .u8 a, .int .u8 b, .int .u8 c, .int .i32 n] 30)) :
    w.cell? ⟨q, 0, none⟩ = some (.int .u8 o) ∧ w.cell? ⟨q, 1, none⟩ = some (.int .u8 a) ∧ w.cell? ⟨q, 2, none⟩ = some (.int .u8 b) ∧ w.cell? ⟨q, 3, none⟩ = some (.int .u8 c) ∧ w.cell? ⟨q, 4, none⟩ = some (.int .i32 n) := by
  refine ⟨?_, ?_, ?_, ?_, ?_⟩ <;> simp [World.cell?, h]
theorem via {F : Nat} {vs : Array Value} {w : World} {v : Value} (h : Calls Tryd.prog F vs w fun ex w' => ex = .returned v ∧ Below w.heap.size w w') {B : Nat} {W : World} (hb : Below B W w) (hB : B ≤ W.heap.size) :
    Calls Tryd.prog F vs w fun ex w' => ex = .returned v ∧ Below B W w' := by
  refine h.mono ?_
  rintro ex w' ⟨rfl, b⟩
  exact ⟨rfl, hb.trans (b.mono (Nat.le_trans hB hb.size))⟩

theorem mem_step2 (S : ByteArray) (x : UInt8) (k : Nat) (hlt : k < S.size) : decide (x ∈ S.data.toList.take (k + 1)) = (decide (x ∈ S.data.toList.take k) || decide ((S[k]'hlt).toNat = x.toNat)) := by
  have hkl : k < S.data.toList.length := by simpa using hlt
  have hch : S.data.toList[k]'hkl = S[k]'hlt := by simp; rfl
  rw [List.take_add_one, List.getElem?_eq_getElem hkl, hch]
  have e : decide ((S[k]'hlt).toNat = x.toNat) = decide (x = S[k]'hlt) := by
    by_cases h : x = S[k]'hlt
    · simp [h]
    · have : ¬ (S[k]'hlt).toNat = x.toNat := fun e => h (UInt8.toNat_inj.1 e).symm
      simp [h, this]
  rw [e]
  simp

set_option maxHeartbeats 4000000 in
theorem has_any (S : ByteArray) (x : UInt8) (hm : S.size < 1000) (w : World) :
    Calls Tryd.prog 75 #[.string S, .int .u8 (x.toNat : Int)] w fun ex w' => ex = .returned (.bool (decide (x ∈ S.data.toList))) ∧ w' = w := by
  go_enter Tryd.func75, Tryd.ntmps75
  go_wp2
  go_loopw [5] (fun i wr => ∃ k : Nat, k ≤ S.size ∧ i = .int .i64 k ∧ decide (x ∈ S.data.toList.take k) = false ∧ wr = w) (fun i _ => S.size - (intOf i).toNat)
  case atStart => exact ⟨0, by omega, rfl, by simp, rfl⟩
  case round =>
    obtain ⟨k, hk, rfl, hno, rfl⟩ := hrel
    by_cases hlt : k < S.size
    · have hst := mem_step2 S x k hlt
      rw [hno, Bool.false_or] at hst
      have HST : Hid (decide (x ∈ S.data.toList.take (k + 1)) = decide ((S[k]'hlt).toNat = x.toNat)) := hst
      clear hno hst
      by_cases he : (S[k]'hlt).toNat = x.toNat
      · have hin : decide (x ∈ S.data.toList) = true := by
          have := HST.out
          rw [decide_eq_true he] at this
          exact decide_eq_true (List.mem_of_mem_take (of_decide_eq_true this))
        have HIN : Hid (decide (x ∈ S.data.toList) = true) := hin
        clear hin
        have h1 : ((((S[k]'hlt).toNat : Int)) == (x.toNat : Int)) = true := by simp; omega
        go_wp2
        go_ret
        exact ⟨by rw [HIN.out]; rfl, rfl⟩
      · have h1 : ((((S[k]'hlt).toNat : Int)) == (x.toNat : Int)) = false := by simp; omega
        have HE : Hid (¬ (S[k]'hlt).toNat = x.toNat) := he
        clear he
        go_wp2
        go_roundw
        case rel => exact ⟨k + 1, by omega, by go_num, by rw [HST.out]; exact decide_eq_false HE.out, trivial⟩
        case measure => simp [intOf]; omega
    · have hkS : k = S.size := by omega
      subst hkS
      have hfull : S.data.toList.take S.size = S.data.toList := List.take_of_length_le (by simp)
      rw [hfull] at hno
      have HNO : Hid (decide (x ∈ S.data.toList) = false) := hno
      clear hno hfull
      go_wp2
      go_ret
      exact ⟨by rw [HNO.out]; rfl, rfl⟩

theorem refReg_any (r : Int) (hr : 0 ≤ r ∧ r < 256) (N : Bool) (w : World) :
    Calls Tryd.prog 74 #[.int .u8 r, .bool N] w fun ex w' => ex = .returned (.bool (decide (if N = true then r < 16 else r = 0))) ∧ w' = w := by
  obtain ⟨h1, h2⟩ := hr
  cases N
  · go_enter Tryd.func74, Tryd.ntmps74
    go_wp2
    go_ret
    refine ⟨?_, rfl⟩
    by_cases h : r = 0 <;> simp [h]
  · go_enter Tryd.func74, Tryd.ntmps74
    go_wp2
    go_ret
    refine ⟨?_, rfl⟩
    simp
    omega

set_option maxHeartbeats 8000000 in
set_option maxRecDepth 100000 in
theorem rl_no (o a b c n : Int) (w : World) (S : ByteArray) (K HA HB HC HN HP RA RB RC : Bool)
    (c11 : Calls Tryd.prog 73 #[.int .u8 o] (box w o a b c n) fun ex w' => ex = .returned (.tuple #[.string S, .bool K]) ∧ Below (w.heap.size + 1) (box w o a b c n) w')
    (h97 : ∀ w0, Calls Tryd.prog 75 #[.string S, .int .u8 97] w0 fun ex w' => ex = .returned (.bool HA) ∧ w' = w0)
    (h98 : ∀ w0, Calls Tryd.prog 75 #[.string S, .int .u8 98] w0 fun ex w' => ex = .returned (.bool HB) ∧ w' = w0)
    (h99 : ∀ w0, Calls Tryd.prog 75 #[.string S, .int .u8 99] w0 fun ex w' => ex = .returned (.bool HC) ∧ w' = w0)
    (h110 : ∀ w0, Calls Tryd.prog 75 #[.string S, .int .u8 110] w0 fun ex w' => ex = .returned (.bool HN) ∧ w' = w0)
    (h112 : ∀ w0, Calls Tryd.prog 75 #[.string S, .int .u8 112] w0 fun ex w' => ex = .returned (.bool HP) ∧ w' = w0)
    (ra : ∀ w0, Calls Tryd.prog 74 #[.int .u8 a, .bool HA] w0 fun ex w' => ex = .returned (.bool RA) ∧ w' = w0)
    (rb : ∀ w0, Calls Tryd.prog 74 #[.int .u8 b, .bool HB] w0 fun ex w' => ex = .returned (.bool RB) ∧ w' = w0)
    (rc : ∀ w0, Calls Tryd.prog 74 #[.int .u8 c, .bool HC] w0 fun ex w' => ex = .returned (.bool RC) ∧ w' = w0)
    (hK : K = false) :
    Calls Tryd.prog 32 #[insV o a b c n] w fun ex w' => ex = .returned (.bool (false)) ∧ Below w.heap.size w w' := by
  have HBX : Hid (Below w.heap.size w (box w o a b c n)) := (Below.refl _ w).alloc (Nat.le_refl _) _
  have HCELL : Hid (∀ w0, Below (w.heap.size + 1) (box w o a b c n) w0 → w0.heap[w.heap.size]? = some (.cells #[.int .u8 o, .int .u8 a, .int .u8 b, .int .u8 c, .int .i32 n] 30)) := (fun w0 h => (h.block w.heap.size (by omega)).trans (heap_alloc_new w _))
  subst hK
  unfold insV at *
  go_enter Tryd.func32, Tryd.ntmps32
  go_upto_region 2 with (go_at_call 73; refine c11.mono ?_; rintro ex w1 ⟨rfl, b1⟩; obtain ⟨r0, r1, r2, r3, r4⟩ := cells5 (HCELL.out w1 b1))
  have HB1 : Hid (Below w.heap.size w w1) := HBX.out.trans (b1.mono (Nat.le_succ _))
  clear b1
  go_quiet ((first
        | (go_at_call_of 75 (Value.int IntKind.u8 97); exact Calls.quiet_of_same (h97 _))
        | (go_at_call_of 75 (Value.int IntKind.u8 98); exact Calls.quiet_of_same (h98 _))
        | (go_at_call_of 75 (Value.int IntKind.u8 99); exact Calls.quiet_of_same (h99 _))
        | (go_at_call_of 74 (Value.int IntKind.u8 a); exact Calls.quiet_of_same (ra _))
        | (go_at_call_of 74 (Value.int IntKind.u8 b); exact Calls.quiet_of_same (rb _))
        | (go_at_call_of 74 (Value.int IntKind.u8 c); exact Calls.quiet_of_same (rc _))))
  go_wp2
  all_goals
    go_ret
    exact ⟨rfl, below_drewN HB1.out _⟩


set_option maxHeartbeats 8000000 in
set_option maxRecDepth 100000 in
theorem rl_a (o a b c n : Int) (w : World) (S : ByteArray) (K HA HB HC HN HP RA RB RC : Bool)
    (c11 : Calls Tryd.prog 73 #[.int .u8 o] (box w o a b c n) fun ex w' => ex = .returned (.tuple #[.string S, .bool K]) ∧ Below (w.heap.size + 1) (box w o a b c n) w')
    (h97 : ∀ w0, Calls Tryd.prog 75 #[.string S, .int .u8 97] w0 fun ex w' => ex = .returned (.bool HA) ∧ w' = w0)
    (h98 : ∀ w0, Calls Tryd.prog 75 #[.string S, .int .u8 98] w0 fun ex w' => ex = .returned (.bool HB) ∧ w' = w0)
    (h99 : ∀ w0, Calls Tryd.prog 75 #[.string S, .int .u8 99] w0 fun ex w' => ex = .returned (.bool HC) ∧ w' = w0)
    (h110 : ∀ w0, Calls Tryd.prog 75 #[.string S, .int .u8 110] w0 fun ex w' => ex = .returned (.bool HN) ∧ w' = w0)
    (h112 : ∀ w0, Calls Tryd.prog 75 #[.string S, .int .u8 112] w0 fun ex w' => ex = .returned (.bool HP) ∧ w' = w0)
    (ra : ∀ w0, Calls Tryd.prog 74 #[.int .u8 a, .bool HA] w0 fun ex w' => ex = .returned (.bool RA) ∧ w' = w0)
    (rb : ∀ w0, Calls Tryd.prog 74 #[.int .u8 b, .bool HB] w0 fun ex w' => ex = .returned (.bool RB) ∧ w' = w0)
    (rc : ∀ w0, Calls Tryd.prog 74 #[.int .u8 c, .bool HC] w0 fun ex w' => ex = .returned (.bool RC) ∧ w' = w0)
    (hK : K = true) (hA : RA = false) :
    Calls Tryd.prog 32 #[insV o a b c n] w fun ex w' => ex = .returned (.bool (false)) ∧ Below w.heap.size w w' := by
  have HBX : Hid (Below w.heap.size w (box w o a b c n)) := (Below.refl _ w).alloc (Nat.le_refl _) _
  have HCELL : Hid (∀ w0, Below (w.heap.size + 1) (box w o a b c n) w0 → w0.heap[w.heap.size]? = some (.cells #[.int .u8 o, .int .u8 a, .int .u8 b, .int .u8 c, .int .i32 n] 30)) := (fun w0 h => (h.block w.heap.size (by omega)).trans (heap_alloc_new w _))
  subst hK hA
  unfold insV at *
  go_enter Tryd.func32, Tryd.ntmps32
  go_upto_region 2 with (go_at_call 73; refine c11.mono ?_; rintro ex w1 ⟨rfl, b1⟩; obtain ⟨r0, r1, r2, r3, r4⟩ := cells5 (HCELL.out w1 b1))
  have HB1 : Hid (Below w.heap.size w w1) := HBX.out.trans (b1.mono (Nat.le_succ _))
  clear b1
  go_quiet ((first
        | (go_at_call_of 75 (Value.int IntKind.u8 97); exact Calls.quiet_of_same (h97 _))
        | (go_at_call_of 75 (Value.int IntKind.u8 98); exact Calls.quiet_of_same (h98 _))
        | (go_at_call_of 75 (Value.int IntKind.u8 99); exact Calls.quiet_of_same (h99 _))
        | (go_at_call_of 74 (Value.int IntKind.u8 a); exact Calls.quiet_of_same (ra _))
        | (go_at_call_of 74 (Value.int IntKind.u8 b); exact Calls.quiet_of_same (rb _))
        | (go_at_call_of 74 (Value.int IntKind.u8 c); exact Calls.quiet_of_same (rc _))))
  go_wp2
  all_goals
    go_ret
    exact ⟨rfl, below_drewN HB1.out _⟩


set_option maxHeartbeats 8000000 in
set_option maxRecDepth 100000 in
theorem rl_b (o a b c n : Int) (w : World) (S : ByteArray) (K HA HB HC HN HP RA RB RC : Bool)
    (c11 : Calls Tryd.prog 73 #[.int .u8 o] (box w o a b c n) fun ex w' => ex = .returned (.tuple #[.string S, .bool K]) ∧ Below (w.heap.size + 1) (box w o a b c n) w')
    (h97 : ∀ w0, Calls Tryd.prog 75 #[.string S, .int .u8 97] w0 fun ex w' => ex = .returned (.bool HA) ∧ w' = w0)
    (h98 : ∀ w0, Calls Tryd.prog 75 #[.string S, .int .u8 98] w0 fun ex w' => ex = .returned (.bool HB) ∧ w' = w0)
    (h99 : ∀ w0, Calls Tryd.prog 75 #[.string S, .int .u8 99] w0 fun ex w' => ex = .returned (.bool HC) ∧ w' = w0)
    (h110 : ∀ w0, Calls Tryd.prog 75 #[.string S, .int .u8 110] w0 fun ex w' => ex = .returned (.bool HN) ∧ w' = w0)
    (h112 : ∀ w0, Calls Tryd.prog 75 #[.string S, .int .u8 112] w0 fun ex w' => ex = .returned (.bool HP) ∧ w' = w0)
    (ra : ∀ w0, Calls Tryd.prog 74 #[.int .u8 a, .bool HA] w0 fun ex w' => ex = .returned (.bool RA) ∧ w' = w0)
    (rb : ∀ w0, Calls Tryd.prog 74 #[.int .u8 b, .bool HB] w0 fun ex w' => ex = .returned (.bool RB) ∧ w' = w0)
    (rc : ∀ w0, Calls Tryd.prog 74 #[.int .u8 c, .bool HC] w0 fun ex w' => ex = .returned (.bool RC) ∧ w' = w0)
    (hK : K = true) (hA : RA = true) (hB : RB = false) :
    Calls Tryd.prog 32 #[insV o a b c n] w fun ex w' => ex = .returned (.bool (false)) ∧ Below w.heap.size w w' := by
  have HBX : Hid (Below w.heap.size w (box w o a b c n)) := (Below.refl _ w).alloc (Nat.le_refl _) _
  have HCELL : Hid (∀ w0, Below (w.heap.size + 1) (box w o a b c n) w0 → w0.heap[w.heap.size]? = some (.cells #[.int .u8 o, .int .u8 a, .int .u8 b, .int .u8 c, .int .i32 n] 30)) := (fun w0 h => (h.block w.heap.size (by omega)).trans (heap_alloc_new w _))
  subst hK hA hB
  unfold insV at *
  go_enter Tryd.func32, Tryd.ntmps32
  go_upto_region 2 with (go_at_call 73; refine c11.mono ?_; rintro ex w1 ⟨rfl, b1⟩; obtain ⟨r0, r1, r2, r3, r4⟩ := cells5 (HCELL.out w1 b1))
  have HB1 : Hid (Below w.heap.size w w1) := HBX.out.trans (b1.mono (Nat.le_succ _))
  clear b1
  go_quiet ((first
        | (go_at_call_of 75 (Value.int IntKind.u8 97); exact Calls.quiet_of_same (h97 _))
        | (go_at_call_of 75 (Value.int IntKind.u8 98); exact Calls.quiet_of_same (h98 _))
        | (go_at_call_of 75 (Value.int IntKind.u8 99); exact Calls.quiet_of_same (h99 _))
        | (go_at_call_of 74 (Value.int IntKind.u8 a); exact Calls.quiet_of_same (ra _))
        | (go_at_call_of 74 (Value.int IntKind.u8 b); exact Calls.quiet_of_same (rb _))
        | (go_at_call_of 74 (Value.int IntKind.u8 c); exact Calls.quiet_of_same (rc _))))
  go_wp2
  all_goals
    go_ret
    exact ⟨rfl, below_drewN HB1.out _⟩


set_option maxHeartbeats 8000000 in
set_option maxRecDepth 100000 in
theorem rl_c (o a b c n : Int) (w : World) (S : ByteArray) (K HA HB HC HN HP RA RB RC : Bool)
    (c11 : Calls Tryd.prog 73 #[.int .u8 o] (box w o a b c n) fun ex w' => ex = .returned (.tuple #[.string S, .bool K]) ∧ Below (w.heap.size + 1) (box w o a b c n) w')
    (h97 : ∀ w0, Calls Tryd.prog 75 #[.string S, .int .u8 97] w0 fun ex w' => ex = .returned (.bool HA) ∧ w' = w0)
    (h98 : ∀ w0, Calls Tryd.prog 75 #[.string S, .int .u8 98] w0 fun ex w' => ex = .returned (.bool HB) ∧ w' = w0)
    (h99 : ∀ w0, Calls Tryd.prog 75 #[.string S, .int .u8 99] w0 fun ex w' => ex = .returned (.bool HC) ∧ w' = w0)
    (h110 : ∀ w0, Calls Tryd.prog 75 #[.string S, .int .u8 110] w0 fun ex w' => ex = .returned (.bool HN) ∧ w' = w0)
    (h112 : ∀ w0, Calls Tryd.prog 75 #[.string S, .int .u8 112] w0 fun ex w' => ex = .returned (.bool HP) ∧ w' = w0)
    (ra : ∀ w0, Calls Tryd.prog 74 #[.int .u8 a, .bool HA] w0 fun ex w' => ex = .returned (.bool RA) ∧ w' = w0)
    (rb : ∀ w0, Calls Tryd.prog 74 #[.int .u8 b, .bool HB] w0 fun ex w' => ex = .returned (.bool RB) ∧ w' = w0)
    (rc : ∀ w0, Calls Tryd.prog 74 #[.int .u8 c, .bool HC] w0 fun ex w' => ex = .returned (.bool RC) ∧ w' = w0)
    (hK : K = true) (hA : RA = true) (hB : RB = true) (hC : RC = false) :
    Calls Tryd.prog 32 #[insV o a b c n] w fun ex w' => ex = .returned (.bool (false)) ∧ Below w.heap.size w w' := by
  have HBX : Hid (Below w.heap.size w (box w o a b c n)) := (Below.refl _ w).alloc (Nat.le_refl _) _
  have HCELL : Hid (∀ w0, Below (w.heap.size + 1) (box w o a b c n) w0 → w0.heap[w.heap.size]? = some (.cells #[.int .u8 o, .int .u8 a, .int .u8 b, .int .u8 c, .int .i32 n] 30)) := (fun w0 h => (h.block w.heap.size (by omega)).trans (heap_alloc_new w _))
  subst hK hA hB hC
  unfold insV at *
  go_enter Tryd.func32, Tryd.ntmps32
  go_upto_region 2 with (go_at_call 73; refine c11.mono ?_; rintro ex w1 ⟨rfl, b1⟩; obtain ⟨r0, r1, r2, r3, r4⟩ := cells5 (HCELL.out w1 b1))
  have HB1 : Hid (Below w.heap.size w w1) := HBX.out.trans (b1.mono (Nat.le_succ _))
  clear b1
  go_quiet ((first
        | (go_at_call_of 75 (Value.int IntKind.u8 97); exact Calls.quiet_of_same (h97 _))
        | (go_at_call_of 75 (Value.int IntKind.u8 98); exact Calls.quiet_of_same (h98 _))
        | (go_at_call_of 75 (Value.int IntKind.u8 99); exact Calls.quiet_of_same (h99 _))
        | (go_at_call_of 74 (Value.int IntKind.u8 a); exact Calls.quiet_of_same (ra _))
        | (go_at_call_of 74 (Value.int IntKind.u8 b); exact Calls.quiet_of_same (rb _))
        | (go_at_call_of 74 (Value.int IntKind.u8 c); exact Calls.quiet_of_same (rc _))))
  go_wp2
  all_goals
    go_ret
    exact ⟨rfl, below_drewN HB1.out _⟩


set_option maxHeartbeats 8000000 in
set_option maxRecDepth 100000 in
theorem rl_n (o a b c n : Int) (w : World) (S : ByteArray) (K HA HB HC HN HP RA RB RC : Bool)
    (c11 : Calls Tryd.prog 73 #[.int .u8 o] (box w o a b c n) fun ex w' => ex = .returned (.tuple #[.string S, .bool K]) ∧ Below (w.heap.size + 1) (box w o a b c n) w')
    (h97 : ∀ w0, Calls Tryd.prog 75 #[.string S, .int .u8 97] w0 fun ex w' => ex = .returned (.bool HA) ∧ w' = w0)
    (h98 : ∀ w0, Calls Tryd.prog 75 #[.string S, .int .u8 98] w0 fun ex w' => ex = .returned (.bool HB) ∧ w' = w0)
    (h99 : ∀ w0, Calls Tryd.prog 75 #[.string S, .int .u8 99] w0 fun ex w' => ex = .returned (.bool HC) ∧ w' = w0)
    (h110 : ∀ w0, Calls Tryd.prog 75 #[.string S, .int .u8 110] w0 fun ex w' => ex = .returned (.bool HN) ∧ w' = w0)
    (h112 : ∀ w0, Calls Tryd.prog 75 #[.string S, .int .u8 112] w0 fun ex w' => ex = .returned (.bool HP) ∧ w' = w0)
    (ra : ∀ w0, Calls Tryd.prog 74 #[.int .u8 a, .bool HA] w0 fun ex w' => ex = .returned (.bool RA) ∧ w' = w0)
    (rb : ∀ w0, Calls Tryd.prog 74 #[.int .u8 b, .bool HB] w0 fun ex w' => ex = .returned (.bool RB) ∧ w' = w0)
    (rc : ∀ w0, Calls Tryd.prog 74 #[.int .u8 c, .bool HC] w0 fun ex w' => ex = .returned (.bool RC) ∧ w' = w0)
    (hK : K = true) (hA : RA = true) (hB : RB = true) (hC : RC = true) :
    Calls Tryd.prog 32 #[insV o a b c n] w fun ex w' => ex = .returned (.bool (HN || HP || (n == 0))) ∧ Below w.heap.size w w' := by
  have HBX : Hid (Below w.heap.size w (box w o a b c n)) := (Below.refl _ w).alloc (Nat.le_refl _) _
  have HCELL : Hid (∀ w0, Below (w.heap.size + 1) (box w o a b c n) w0 → w0.heap[w.heap.size]? = some (.cells #[.int .u8 o, .int .u8 a, .int .u8 b, .int .u8 c, .int .i32 n] 30)) := (fun w0 h => (h.block w.heap.size (by omega)).trans (heap_alloc_new w _))
  subst hK hA hB hC
  unfold insV at *
  go_enter Tryd.func32, Tryd.ntmps32
  go_upto_region 2 with (go_at_call 73; refine c11.mono ?_; rintro ex w1 ⟨rfl, b1⟩; obtain ⟨r0, r1, r2, r3, r4⟩ := cells5 (HCELL.out w1 b1))
  have HB1 : Hid (Below w.heap.size w w1) := HBX.out.trans (b1.mono (Nat.le_succ _))
  clear b1
  go_quiet ((first
        | (go_at_call_of 75 (Value.int IntKind.u8 97); exact Calls.quiet_of_same (h97 _))
        | (go_at_call_of 75 (Value.int IntKind.u8 98); exact Calls.quiet_of_same (h98 _))
        | (go_at_call_of 75 (Value.int IntKind.u8 99); exact Calls.quiet_of_same (h99 _))
        | (go_at_call_of 74 (Value.int IntKind.u8 a); exact Calls.quiet_of_same (ra _))
        | (go_at_call_of 74 (Value.int IntKind.u8 b); exact Calls.quiet_of_same (rb _))
        | (go_at_call_of 74 (Value.int IntKind.u8 c); exact Calls.quiet_of_same (rc _))))
  go_wp2_with (first
    | (go_at_call_of 75 (Value.int IntKind.u8 110); refine (h110 _).mono ?_; rintro ex w2 ⟨rfl, hw⟩; obtain rfl := hw.symm)
    | (go_at_call_of 75 (Value.int IntKind.u8 112); refine (h112 _).mono ?_; rintro ex w2 ⟨rfl, hw⟩; obtain rfl := hw.symm))
  all_goals
    go_ret
    exact ⟨by first | rfl | (simp; done) | (simp [*]; done) | (simp_all; done), below_drewN HB1.out _⟩


theorem lgS_eq (s : List UInt8) (a b c n : Int) : lgS s a b c n = (decide (if decide ((97 : UInt8) ∈ s) = true then a < 16 else a = 0) && decide (if decide ((98 : UInt8) ∈ s) = true then b < 16 else b = 0) && decide (if decide ((99 : UInt8) ∈ s) = true then c < 16 else c = 0) && (decide ((110 : UInt8) ∈ s) || decide ((112 : UInt8) ∈ s) || (n == 0))) := by
  have e : (n == 0) = decide (n = 0) := by by_cases h : n = 0 <;> simp [h]
  rw [e, ← Bool.decide_or, ← Bool.decide_or, ← Bool.decide_and, ← Bool.decide_and, ← Bool.decide_and]
  unfold lgS
  congr 1
  simp [and_assoc, or_assoc]

theorem shV_size (o : Int) (ho : 0 ≤ o ∧ o < 256) : (shV o).size ≤ 3 := by
  by_cases hk : 1 ≤ o ∧ o ≤ 27
  · obtain ⟨k, rfl⟩ : ∃ k : Nat, o = (k : Int) + 1 := ⟨(o - 1).toNat, by omega⟩
    rw [sh_yes (by omega)]
    have n2 : ∀ k, k < 27 → (shs.getD (k + 1) []).length ≤ 3 := by decide
    have := n2 k (by omega)
    unfold shB
    simpa [ByteArray.size] using this
  · rw [sh_no hk]; decide

set_option maxHeartbeats 4000000 in
theorem refLegal_any (o a b c n : Int) (ho : 0 ≤ o ∧ o < 256) (ha : 0 ≤ a ∧ a < 256) (hb : 0 ≤ b ∧ b < 256) (hc : 0 ≤ c ∧ c < 256) (w : World) :
    Calls Tryd.prog 32 #[insV o a b c n] w fun ex w' => ex = .returned (.bool (lg o a b c n)) ∧ Below w.heap.size w w' := by
  have c11 := via (refShape_any o ho (box w o a b c n)) (Below.refl (w.heap.size + 1) (box w o a b c n)) (by simp)
  have hz := shV_size o ho
  have h97 := fun w0 => has_any (shV o) 97 (by omega) w0
  have h98 := fun w0 => has_any (shV o) 98 (by omega) w0
  have h99 := fun w0 => has_any (shV o) 99 (by omega) w0
  have h110 := fun w0 => has_any (shV o) 110 (by omega) w0
  have h112 := fun w0 => has_any (shV o) 112 (by omega) w0
  have ra := fun w0 => refReg_any a ha (decide ((97 : UInt8) ∈ (shV o).data.toList)) w0
  have rb := fun w0 => refReg_any b hb (decide ((98 : UInt8) ∈ (shV o).data.toList)) w0
  have rc := fun w0 => refReg_any c hc (decide ((99 : UInt8) ∈ (shV o).data.toList)) w0
  cases hk : kn o
  · have e : lg o a b c n = false := by unfold lg; rw [hk]; rfl
    rw [e]
    exact rl_no o a b c n w (shV o) (kn o) _ _ _ _ _ _ _ _ c11 h97 h98 h99 h110 h112 ra rb rc hk
  · have hS : (shV o).data.toList = shs.getD o.toNat [] := by unfold shV shB; rw [hk]; simp
    have e : lg o a b c n = lgS (shV o).data.toList a b c n := by unfold lg; rw [hk, hS]; rfl
    rw [e, lgS_eq]
    cases hA : decide (if decide ((97 : UInt8) ∈ (shV o).data.toList) = true then a < 16 else a = 0)
    · exact rl_a o a b c n w (shV o) (kn o) _ _ _ _ _ _ _ _ c11 h97 h98 h99 h110 h112 ra rb rc hk hA
    · cases hB : decide (if decide ((98 : UInt8) ∈ (shV o).data.toList) = true then b < 16 else b = 0)
      · exact rl_b o a b c n w (shV o) (kn o) _ _ _ _ _ _ _ _ c11 h97 h98 h99 h110 h112 ra rb rc hk hA hB
      · cases hC : decide (if decide ((99 : UInt8) ∈ (shV o).data.toList) = true then c < 16 else c = 0)
        · exact rl_c o a b c n w (shV o) (kn o) _ _ _ _ _ _ _ _ c11 h97 h98 h99 h110 h112 ra rb rc hk hA hB hC
        · exact rl_n o a b c n w (shV o) (kn o) _ _ _ _ _ _ _ _ c11 h97 h98 h99 h110 h112 ra rb rc hk hA hB hC

end Go.Proofs.YtijeaonldhccmaaDoor
