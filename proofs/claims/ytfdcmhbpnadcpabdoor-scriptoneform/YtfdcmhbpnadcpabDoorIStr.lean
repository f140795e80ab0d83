/-
  strings.Cut at one byte; readNumber of a digit.
-/
import Derived.Test.YtfdcmhbpnadcpabDoorIShelf
import Derived.Test.YtfdcmhbpnadcpabDoorISame
import Derived.Lib.Strings
import Derived.Lib.ItoaWalk
namespace Go.Proofs.YtfdcmhbpnadcpabDoor
open Go.RowKit
set_option linter.unusedVariables false
set_option linter.unusedSimpArgs false
set_option maxRecDepth 100000

section
variable {w : World} {a : Act} {o : Oper}
theorem er_slH (x y : Operand) (ho : o.op = .slice 9 x none (some y) none) (s : ByteArray) (i : Nat) (hx : a.eval x = .string s) (hy : a.eval y = .int .i64 (i : Int)) (hi : i ≤ s.size) : (execOp a.eval o).run Tryd.prog w = .ok (.value (.string (s.extract 0 i))) w := by
  simp only [execOp, ho, hx, hy, Option.map_some, Option.map_none]
  simp [go_sem, hi]
theorem er_slL (x y : Operand) (ho : o.op = .slice 9 x (some y) none none) (s : ByteArray) (i : Nat) (hx : a.eval x = .string s) (hy : a.eval y = .int .i64 (i : Int)) (hi : i ≤ s.size) : (execOp a.eval o).run Tryd.prog w = .ok (.value (.string (s.extract i s.size))) w := by
  simp only [execOp, ho, hx, hy, Option.map_some, Option.map_none]
  simp [go_sem, hi]
theorem er_lenS (x : Operand) (ho : o.op = .call { callee := .builtin .len, args := #[x], argTypes := #[9] }) (s : ByteArray) (hx : a.eval x = .string s) : (execOp a.eval o).run Tryd.prog w = .ok (.value (.int .i64 (s.size : Int))) w := by
  simp only [execOp, ho, resolve, invoke, builtin, Sem.run_bind, Sem.run_pure, Result.andThen_ok, List.map_toArray, List.map_cons, List.map_nil, hx, run_len_string _ _ _ _ Tryd.underlying9]
  rfl
theorem er_addS (x y : Operand) (ho : o.op = .binOp .add 3 x y 3) (i : Nat) (hx : a.eval x = .int .i64 (i : Int)) (hy : a.eval y = .int .i64 1) (hi : i ≤ 1000) : (execOp a.eval o).run Tryd.prog w = .ok (.value (.int .i64 ((i + 1 : Nat) : Int))) w := by
  have hw : IntKind.i64.wrap ((i : Int) + 1) = ((i + 1 : Nat) : Int) := by
    rw [IntWalk.i64_left]
    unfold wrap64
    omega
  simp only [execOp, ho, hx, hy]; simp [go_sem, hw]
end
set_option maxHeartbeats 4000000 in
theorem lcut_yes (s : ByteArray) (c : UInt8) (i : Nat) (w : World) (h : Lib.indexByte s.data.toList c = (i : Int)) (hi : i < s.size) (hs : s.size ≤ 1000) :
    Calls Tryd.prog 50 #[.string s, .string ⟨#[c]⟩] w fun e w' => e = .returned (.tuple #[.string (s.extract 0 i), .string (s.extract (i + 1) s.size), .bool true]) ∧ Kept No w w' := by
  have C := hid (ix_one s c w)
  rw [h] at C
  have h0 : (0 : Int) ≤ (i : Int) := by omega
  go_enter Tryd.func50, Tryd.ntmps50
  go_upto_region 2 with (go_at_call 61; refine C.out.mono ?_; rintro r w1 ⟨rfl, rfl⟩)
  go_upto_region 3 with fail
  refine wp_region_held_drew (S := fun W => Kept No w1 W) (by kernel_rfl) ((Kept.refl _ w1).drew) (fun hS => ?_)
  refine d_take 0 13 rfl rfl (by kernel_rfl) (by kernel_rfl) (by kernel_rfl) (fun _ _ _ h => h) rfl (fun w' hw' => er_mv _ rfl (.string s) rfl) hS ?_
  simp only [Act.put, List.setIfInBounds_toArray, List.set_cons_zero, List.set_cons_succ]
  refine d_take 1 14 rfl rfl (by kernel_rfl) (by kernel_rfl) (by kernel_rfl) (fun _ _ _ h => h) rfl (fun w' hw' => er_mv _ rfl (.int .i64 (i : Int)) rfl) hS ?_
  simp only [Act.put, List.setIfInBounds_toArray, List.set_cons_zero, List.set_cons_succ]
  refine d_take 2 15 rfl rfl (by kernel_rfl) (by kernel_rfl) (by kernel_rfl) (fun _ _ _ h => h) rfl (fun w' hw' => er_slH _ _ rfl s i rfl rfl (by omega)) hS ?_
  simp only [Act.put, List.setIfInBounds_toArray, List.set_cons_zero, List.set_cons_succ]
  refine d_take 3 16 rfl rfl (by kernel_rfl) (by kernel_rfl) (by kernel_rfl) (fun _ _ _ h => h) rfl (fun w' hw' => er_mv _ rfl (.string s) rfl) hS ?_
  simp only [Act.put, List.setIfInBounds_toArray, List.set_cons_zero, List.set_cons_succ]
  refine d_take 4 17 rfl rfl (by kernel_rfl) (by kernel_rfl) (by kernel_rfl) (fun _ _ _ h => h) rfl (fun w' hw' => er_mv _ rfl (.int .i64 (i : Int)) rfl) hS ?_
  simp only [Act.put, List.setIfInBounds_toArray, List.set_cons_zero, List.set_cons_succ]
  refine d_take 5 18 rfl rfl (by kernel_rfl) (by kernel_rfl) (by kernel_rfl) (fun _ _ _ h => h) rfl (fun w' hw' => er_mv _ rfl (.string ⟨#[c]⟩) rfl) hS ?_
  simp only [Act.put, List.setIfInBounds_toArray, List.set_cons_zero, List.set_cons_succ]
  refine d_take 6 19 rfl rfl (by kernel_rfl) (by kernel_rfl) (by kernel_rfl) (fun _ _ _ h => h) rfl (fun w' hw' => er_lenS _ rfl ⟨#[c]⟩ rfl) hS ?_
  simp only [Act.put, List.setIfInBounds_toArray, List.set_cons_zero, List.set_cons_succ]
  refine d_take 7 20 rfl rfl (by kernel_rfl) (by kernel_rfl) (by kernel_rfl) (fun _ _ _ h => h) rfl (fun w' hw' => er_addS _ _ rfl i rfl rfl (by omega)) hS ?_
  simp only [Act.put, List.setIfInBounds_toArray, List.set_cons_zero, List.set_cons_succ]
  refine d_take 8 21 rfl rfl (by kernel_rfl) (by kernel_rfl) (by kernel_rfl) (fun _ _ _ h => h) rfl (fun w' hw' => er_slL _ _ rfl s (i + 1) rfl rfl (by omega)) hS ?_
  simp only [Act.put, List.setIfInBounds_toArray, List.set_cons_zero, List.set_cons_succ]
  refine d_take 9 4 rfl rfl (by kernel_rfl) (by kernel_rfl) (by kernel_rfl) (fun _ _ _ h => h) rfl (fun w' hw' => er_as _ rfl (.string (s.extract 0 i)) rfl) hS ?_
  simp only [Act.put, List.setIfInBounds_toArray, List.set_cons_zero, List.set_cons_succ]
  refine d_take 10 5 rfl rfl (by kernel_rfl) (by kernel_rfl) (by kernel_rfl) (fun _ _ _ h => h) rfl (fun w' hw' => er_as _ rfl (.string (s.extract (i + 1) s.size)) rfl) hS ?_
  simp only [Act.put, List.setIfInBounds_toArray, List.set_cons_zero, List.set_cons_succ]
  refine d_take 11 6 rfl rfl (by kernel_rfl) (by kernel_rfl) (by kernel_rfl) (fun _ _ _ h => h) rfl (fun w' hw' => er_as _ rfl (.bool true) rfl) hS ?_
  simp only [Act.put, List.setIfInBounds_toArray, List.set_cons_zero, List.set_cons_succ]
  refine wpAnyH_done (by kernel_rfl) ?_ _
  have KD := hid hS
  clear hS
  go_wp2
  go_ret3
  exact ⟨rfl, KD.out⟩
theorem lcut_no (s : ByteArray) (c : UInt8) (w : World) (h : Lib.indexByte s.data.toList c = -1) :
    Calls Tryd.prog 50 #[.string s, .string ⟨#[c]⟩] w fun e w' => e = .returned (.tuple #[.string s, .string ⟨#[]⟩, .bool false]) ∧ Kept No w w' := by
  have C := hid (ix_one s c w)
  rw [h] at C
  go_enter Tryd.func50, Tryd.ntmps50
  go_wp2_with (go_at_call 61; refine C.out.mono ?_; rintro r w1 ⟨rfl, rfl⟩)
  go_ret3
  exact ⟨rfl, Kept.refl _ _⟩
theorem scut {s a b : ByteArray} {c : UInt8} {f : Bool} (w : World) (h : Calls Tryd.prog 50 #[.string s, .string ⟨#[c]⟩] w fun e w' => e = .returned (.tuple #[.string a, .string b, .bool f]) ∧ Kept No w w') :
    Calls Tryd.prog 32 #[.string s, .string ⟨#[c]⟩] w fun e w' => e = .returned (.tuple #[.string a, .string b, .bool f]) ∧ Kept No w w' := by
  have C := hid h
  clear h
  go_enter Tryd.func32, Tryd.ntmps32
  go_wp2_with (go_at_call 50; refine C.out.mono ?_; rintro r w1 ⟨rfl, k1⟩; have K1 := hid k1; clear k1)
  go_ret3
  exact ⟨rfl, K1.out⟩
theorem scut_yes {s : ByteArray} {c : UInt8} (i : Nat) (a b : ByteArray) (w : World) (h : Lib.indexByte s.data.toList c = (i : Int)) (hi : i < s.size) (hs : s.size ≤ 1000) (ha : s.extract 0 i = a) (hb : s.extract (i + 1) s.size = b) :
    Calls Tryd.prog 32 #[.string s, .string ⟨#[c]⟩] w fun e w' => e = .returned (.tuple #[.string a, .string b, .bool true]) ∧ Kept No w w' := by
  subst ha hb
  exact scut w (lcut_yes s c i w h hi hs)
theorem scut_no {s : ByteArray} {c : UInt8} (w : World) (h : Lib.indexByte s.data.toList c = -1) :
    Calls Tryd.prog 32 #[.string s, .string ⟨#[c]⟩] w fun e w' => e = .returned (.tuple #[.string s, .string ⟨#[]⟩, .bool false]) ∧ Kept No w w' := scut w (lcut_no s c w h)
theorem Kept.iter {F : Nat → Prop} {a w : World} (h : Kept F a w) (s : ByteArray) (p : Nat) : Kept F a (w.iter s p) := h.alloc _
theorem kept_below {w w' : World} (h : Below w.heap.size w w') : Kept No w w' := Kept.of_below h
set_option maxHeartbeats 4000000 in
theorem rn_7 (w : World) : Calls Tryd.prog 62 #[.string ⟨#[55]⟩] w fun e w' => e = .returned (.tuple #[.int .i64 (7), .bool true]) ∧ Kept No w w' := by
  have C : Hid (Calls Tryd.prog 72 #[.string ⟨#[55]⟩, .string ⟨#[45]⟩] w fun e w' => e = .returned (.tuple #[.string ⟨#[55]⟩, .bool false]) ∧ w' = w) := (cut_prefix ⟨#[55]⟩ ⟨#[45]⟩ w).mono (fun r w' h => ⟨h.1.trans (by kernel_rfl), h.2⟩)
  go_enter Tryd.func62, Tryd.ntmps62
  go_upto_region 5 with (go_at_call 72; refine C.out.mono ?_; rintro r w1 ⟨rfl, rfl⟩)
  clear C
  have hsz : Hid ((⟨#[55]⟩ : ByteArray).size = 1) := rfl
  have hs0 : Hid (∀ h : 0 < (⟨#[55]⟩ : ByteArray).size, ((⟨#[55]⟩ : ByteArray)[0]'h).toNat = 55) := fun h => rfl
  have hk0 := World.iter_heap w1 (⟨#[55]⟩ : ByteArray) 0
  have hb0 : Hid (Kept No w1 (w1.iter (⟨#[55]⟩ : ByteArray) 0)) := (Kept.refl No w1).iter (⟨#[55]⟩ : ByteArray) 0
  have HK := hid hk0
  clear hk0
  go_wp2
  go_loopw [6] (fun u6 wr => ∃ (pos : Nat) (n : Int), (pos = 0 ∧ n = 0 ∨ pos = 1 ∧ n = -7) ∧ u6 = .int .i64 n ∧ wr.heap[w1.heap.size]? = some (.stringIter (⟨#[55]⟩ : ByteArray) pos) ∧ Kept No w1 wr) (fun _ wr => 1 - wr.iterPos w1.heap.size)
  case atStart => exact ⟨0, 0, .inl ⟨rfl, rfl⟩, rfl, HK.out, hb0.out⟩
  case round =>
    obtain ⟨pos, n, hpn, rfl, hk, kr⟩ := hrel
    rcases hpn with ⟨rfl, rfl⟩ | ⟨rfl, rfl⟩
    · have hp : 0 < (⟨#[55]⟩ : ByteArray).size := by rw [hsz.out]; decide
      have h128 : ((⟨#[55]⟩ : ByteArray)[0]'hp).toNat < 128 := by rw [hs0.out hp]; decide
      have hnext : ∀ ty, (Instr.next (.pointer (some ⟨w1.heap.size, 0, none⟩)) true ty).run Tryd.prog wr = _ := fun ty => Lib.run_next_ascii_at wr w1.heap.size (⟨#[55]⟩ : ByteArray) 0 ty hk hp h128
      rw [hs0.out hp] at hnext
      have hk1 := Lib.iterAt_heap wr w1.heap.size (⟨#[55]⟩ : ByteArray) 0 (0 + 1) hk
      have hb1 : Below w1.heap.size w1 (wr.iterAt w1.heap.size (⟨#[55]⟩ : ByteArray) (0 + 1)) := Lib.below_iterAt kr.below0 (Nat.le_refl _) (⟨#[55]⟩ : ByteArray) (0 + 1)
      have hmu : wr.iterPos w1.heap.size = 0 := by simp [World.iterPos, hk]
      generalize wr.iterAt w1.heap.size (⟨#[55]⟩ : ByteArray) (0 + 1) = W1 at hnext hk1 hb1
      have H1 := hid (And.intro hk1 (And.intro hb1 hmu))
      clear hk kr h128 hp hk1 hb1 hmu
      go_wp2
      refine ⟨⟨1, -7, .inr ⟨rfl, rfl⟩, rfl, H1.out.1, kept_below H1.out.2.1⟩, ?_⟩
      have : W1.iterPos w1.heap.size = 1 := by simp [World.iterPos, H1.out.1]
      rw [this, H1.out.2.2]
      decide
    · have hp : ¬ 1 < (⟨#[55]⟩ : ByteArray).size := by rw [hsz.out]; decide
      have hnext : ∀ ty, (Instr.next (.pointer (some ⟨w1.heap.size, 0, none⟩)) true ty).run Tryd.prog wr = _ := fun ty => Lib.run_next_end_at wr w1.heap.size (⟨#[55]⟩ : ByteArray) 1 ty hk hp
      have KR := hid kr
      clear hk kr
      go_wp2
      go_ret2
      exact ⟨rfl, KR.out⟩
set_option maxHeartbeats 4000000 in
theorem rn_m1 (w : World) : Calls Tryd.prog 62 #[.string ⟨#[45, 49]⟩] w fun e w' => e = .returned (.tuple #[.int .i64 (-1), .bool true]) ∧ Kept No w w' := by
  have C : Hid (Calls Tryd.prog 72 #[.string ⟨#[45, 49]⟩, .string ⟨#[45]⟩] w fun e w' => e = .returned (.tuple #[.string ⟨#[49]⟩, .bool true]) ∧ w' = w) := (cut_prefix ⟨#[45, 49]⟩ ⟨#[45]⟩ w).mono (fun r w' h => ⟨h.1.trans (by kernel_rfl), h.2⟩)
  go_enter Tryd.func62, Tryd.ntmps62
  go_upto_region 5 with (go_at_call 72; refine C.out.mono ?_; rintro r w1 ⟨rfl, rfl⟩)
  clear C
  have hsz : Hid ((⟨#[49]⟩ : ByteArray).size = 1) := rfl
  have hs0 : Hid (∀ h : 0 < (⟨#[49]⟩ : ByteArray).size, ((⟨#[49]⟩ : ByteArray)[0]'h).toNat = 49) := fun h => rfl
  have hk0 := World.iter_heap w1 (⟨#[49]⟩ : ByteArray) 0
  have hb0 : Hid (Kept No w1 (w1.iter (⟨#[49]⟩ : ByteArray) 0)) := (Kept.refl No w1).iter (⟨#[49]⟩ : ByteArray) 0
  have HK := hid hk0
  clear hk0
  go_wp2
  go_loopw [6] (fun u6 wr => ∃ (pos : Nat) (n : Int), (pos = 0 ∧ n = 0 ∨ pos = 1 ∧ n = -1) ∧ u6 = .int .i64 n ∧ wr.heap[w1.heap.size]? = some (.stringIter (⟨#[49]⟩ : ByteArray) pos) ∧ Kept No w1 wr) (fun _ wr => 1 - wr.iterPos w1.heap.size)
  case atStart => exact ⟨0, 0, .inl ⟨rfl, rfl⟩, rfl, HK.out, hb0.out⟩
  case round =>
    obtain ⟨pos, n, hpn, rfl, hk, kr⟩ := hrel
    rcases hpn with ⟨rfl, rfl⟩ | ⟨rfl, rfl⟩
    · have hp : 0 < (⟨#[49]⟩ : ByteArray).size := by rw [hsz.out]; decide
      have h128 : ((⟨#[49]⟩ : ByteArray)[0]'hp).toNat < 128 := by rw [hs0.out hp]; decide
      have hnext : ∀ ty, (Instr.next (.pointer (some ⟨w1.heap.size, 0, none⟩)) true ty).run Tryd.prog wr = _ := fun ty => Lib.run_next_ascii_at wr w1.heap.size (⟨#[49]⟩ : ByteArray) 0 ty hk hp h128
      rw [hs0.out hp] at hnext
      have hk1 := Lib.iterAt_heap wr w1.heap.size (⟨#[49]⟩ : ByteArray) 0 (0 + 1) hk
      have hb1 : Below w1.heap.size w1 (wr.iterAt w1.heap.size (⟨#[49]⟩ : ByteArray) (0 + 1)) := Lib.below_iterAt kr.below0 (Nat.le_refl _) (⟨#[49]⟩ : ByteArray) (0 + 1)
      have hmu : wr.iterPos w1.heap.size = 0 := by simp [World.iterPos, hk]
      generalize wr.iterAt w1.heap.size (⟨#[49]⟩ : ByteArray) (0 + 1) = W1 at hnext hk1 hb1
      have H1 := hid (And.intro hk1 (And.intro hb1 hmu))
      clear hk kr h128 hp hk1 hb1 hmu
      go_wp2
      refine ⟨⟨1, -1, .inr ⟨rfl, rfl⟩, rfl, H1.out.1, kept_below H1.out.2.1⟩, ?_⟩
      have : W1.iterPos w1.heap.size = 1 := by simp [World.iterPos, H1.out.1]
      rw [this, H1.out.2.2]
      decide
    · have hp : ¬ 1 < (⟨#[49]⟩ : ByteArray).size := by rw [hsz.out]; decide
      have hnext : ∀ ty, (Instr.next (.pointer (some ⟨w1.heap.size, 0, none⟩)) true ty).run Tryd.prog wr = _ := fun ty => Lib.run_next_end_at wr w1.heap.size (⟨#[49]⟩ : ByteArray) 1 ty hk hp
      have KR := hid kr
      clear hk kr
      go_wp2
      go_ret2
      exact ⟨rfl, KR.out⟩
set_option maxHeartbeats 4000000 in
theorem rn_2 (w : World) : Calls Tryd.prog 62 #[.string ⟨#[50]⟩] w fun e w' => e = .returned (.tuple #[.int .i64 (2), .bool true]) ∧ Kept No w w' := by
  have C : Hid (Calls Tryd.prog 72 #[.string ⟨#[50]⟩, .string ⟨#[45]⟩] w fun e w' => e = .returned (.tuple #[.string ⟨#[50]⟩, .bool false]) ∧ w' = w) := (cut_prefix ⟨#[50]⟩ ⟨#[45]⟩ w).mono (fun r w' h => ⟨h.1.trans (by kernel_rfl), h.2⟩)
  go_enter Tryd.func62, Tryd.ntmps62
  go_upto_region 5 with (go_at_call 72; refine C.out.mono ?_; rintro r w1 ⟨rfl, rfl⟩)
  clear C
  have hsz : Hid ((⟨#[50]⟩ : ByteArray).size = 1) := rfl
  have hs0 : Hid (∀ h : 0 < (⟨#[50]⟩ : ByteArray).size, ((⟨#[50]⟩ : ByteArray)[0]'h).toNat = 50) := fun h => rfl
  have hk0 := World.iter_heap w1 (⟨#[50]⟩ : ByteArray) 0
  have hb0 : Hid (Kept No w1 (w1.iter (⟨#[50]⟩ : ByteArray) 0)) := (Kept.refl No w1).iter (⟨#[50]⟩ : ByteArray) 0
  have HK := hid hk0
  clear hk0
  go_wp2
  go_loopw [6] (fun u6 wr => ∃ (pos : Nat) (n : Int), (pos = 0 ∧ n = 0 ∨ pos = 1 ∧ n = -2) ∧ u6 = .int .i64 n ∧ wr.heap[w1.heap.size]? = some (.stringIter (⟨#[50]⟩ : ByteArray) pos) ∧ Kept No w1 wr) (fun _ wr => 1 - wr.iterPos w1.heap.size)
  case atStart => exact ⟨0, 0, .inl ⟨rfl, rfl⟩, rfl, HK.out, hb0.out⟩
  case round =>
    obtain ⟨pos, n, hpn, rfl, hk, kr⟩ := hrel
    rcases hpn with ⟨rfl, rfl⟩ | ⟨rfl, rfl⟩
    · have hp : 0 < (⟨#[50]⟩ : ByteArray).size := by rw [hsz.out]; decide
      have h128 : ((⟨#[50]⟩ : ByteArray)[0]'hp).toNat < 128 := by rw [hs0.out hp]; decide
      have hnext : ∀ ty, (Instr.next (.pointer (some ⟨w1.heap.size, 0, none⟩)) true ty).run Tryd.prog wr = _ := fun ty => Lib.run_next_ascii_at wr w1.heap.size (⟨#[50]⟩ : ByteArray) 0 ty hk hp h128
      rw [hs0.out hp] at hnext
      have hk1 := Lib.iterAt_heap wr w1.heap.size (⟨#[50]⟩ : ByteArray) 0 (0 + 1) hk
      have hb1 : Below w1.heap.size w1 (wr.iterAt w1.heap.size (⟨#[50]⟩ : ByteArray) (0 + 1)) := Lib.below_iterAt kr.below0 (Nat.le_refl _) (⟨#[50]⟩ : ByteArray) (0 + 1)
      have hmu : wr.iterPos w1.heap.size = 0 := by simp [World.iterPos, hk]
      generalize wr.iterAt w1.heap.size (⟨#[50]⟩ : ByteArray) (0 + 1) = W1 at hnext hk1 hb1
      have H1 := hid (And.intro hk1 (And.intro hb1 hmu))
      clear hk kr h128 hp hk1 hb1 hmu
      go_wp2
      refine ⟨⟨1, -2, .inr ⟨rfl, rfl⟩, rfl, H1.out.1, kept_below H1.out.2.1⟩, ?_⟩
      have : W1.iterPos w1.heap.size = 1 := by simp [World.iterPos, H1.out.1]
      rw [this, H1.out.2.2]
      decide
    · have hp : ¬ 1 < (⟨#[50]⟩ : ByteArray).size := by rw [hsz.out]; decide
      have hnext : ∀ ty, (Instr.next (.pointer (some ⟨w1.heap.size, 0, none⟩)) true ty).run Tryd.prog wr = _ := fun ty => Lib.run_next_end_at wr w1.heap.size (⟨#[50]⟩ : ByteArray) 1 ty hk hp
      have KR := hid kr
      clear hk kr
      go_wp2
      go_ret2
      exact ⟨rfl, KR.out⟩
set_option maxHeartbeats 4000000 in
theorem rn_5 (w : World) : Calls Tryd.prog 62 #[.string ⟨#[53]⟩] w fun e w' => e = .returned (.tuple #[.int .i64 (5), .bool true]) ∧ Kept No w w' := by
  have C : Hid (Calls Tryd.prog 72 #[.string ⟨#[53]⟩, .string ⟨#[45]⟩] w fun e w' => e = .returned (.tuple #[.string ⟨#[53]⟩, .bool false]) ∧ w' = w) := (cut_prefix ⟨#[53]⟩ ⟨#[45]⟩ w).mono (fun r w' h => ⟨h.1.trans (by kernel_rfl), h.2⟩)
  go_enter Tryd.func62, Tryd.ntmps62
  go_upto_region 5 with (go_at_call 72; refine C.out.mono ?_; rintro r w1 ⟨rfl, rfl⟩)
  clear C
  have hsz : Hid ((⟨#[53]⟩ : ByteArray).size = 1) := rfl
  have hs0 : Hid (∀ h : 0 < (⟨#[53]⟩ : ByteArray).size, ((⟨#[53]⟩ : ByteArray)[0]'h).toNat = 53) := fun h => rfl
  have hk0 := World.iter_heap w1 (⟨#[53]⟩ : ByteArray) 0
  have hb0 : Hid (Kept No w1 (w1.iter (⟨#[53]⟩ : ByteArray) 0)) := (Kept.refl No w1).iter (⟨#[53]⟩ : ByteArray) 0
  have HK := hid hk0
  clear hk0
  go_wp2
  go_loopw [6] (fun u6 wr => ∃ (pos : Nat) (n : Int), (pos = 0 ∧ n = 0 ∨ pos = 1 ∧ n = -5) ∧ u6 = .int .i64 n ∧ wr.heap[w1.heap.size]? = some (.stringIter (⟨#[53]⟩ : ByteArray) pos) ∧ Kept No w1 wr) (fun _ wr => 1 - wr.iterPos w1.heap.size)
  case atStart => exact ⟨0, 0, .inl ⟨rfl, rfl⟩, rfl, HK.out, hb0.out⟩
  case round =>
    obtain ⟨pos, n, hpn, rfl, hk, kr⟩ := hrel
    rcases hpn with ⟨rfl, rfl⟩ | ⟨rfl, rfl⟩
    · have hp : 0 < (⟨#[53]⟩ : ByteArray).size := by rw [hsz.out]; decide
      have h128 : ((⟨#[53]⟩ : ByteArray)[0]'hp).toNat < 128 := by rw [hs0.out hp]; decide
      have hnext : ∀ ty, (Instr.next (.pointer (some ⟨w1.heap.size, 0, none⟩)) true ty).run Tryd.prog wr = _ := fun ty => Lib.run_next_ascii_at wr w1.heap.size (⟨#[53]⟩ : ByteArray) 0 ty hk hp h128
      rw [hs0.out hp] at hnext
      have hk1 := Lib.iterAt_heap wr w1.heap.size (⟨#[53]⟩ : ByteArray) 0 (0 + 1) hk
      have hb1 : Below w1.heap.size w1 (wr.iterAt w1.heap.size (⟨#[53]⟩ : ByteArray) (0 + 1)) := Lib.below_iterAt kr.below0 (Nat.le_refl _) (⟨#[53]⟩ : ByteArray) (0 + 1)
      have hmu : wr.iterPos w1.heap.size = 0 := by simp [World.iterPos, hk]
      generalize wr.iterAt w1.heap.size (⟨#[53]⟩ : ByteArray) (0 + 1) = W1 at hnext hk1 hb1
      have H1 := hid (And.intro hk1 (And.intro hb1 hmu))
      clear hk kr h128 hp hk1 hb1 hmu
      go_wp2
      refine ⟨⟨1, -5, .inr ⟨rfl, rfl⟩, rfl, H1.out.1, kept_below H1.out.2.1⟩, ?_⟩
      have : W1.iterPos w1.heap.size = 1 := by simp [World.iterPos, H1.out.1]
      rw [this, H1.out.2.2]
      decide
    · have hp : ¬ 1 < (⟨#[53]⟩ : ByteArray).size := by rw [hsz.out]; decide
      have hnext : ∀ ty, (Instr.next (.pointer (some ⟨w1.heap.size, 0, none⟩)) true ty).run Tryd.prog wr = _ := fun ty => Lib.run_next_end_at wr w1.heap.size (⟨#[53]⟩ : ByteArray) 1 ty hk hp
      have KR := hid kr
      clear hk kr
      go_wp2
      go_ret2
      exact ⟨rfl, KR.out⟩
end Go.Proofs.YtfdcmhbpnadcpabDoor
