/-
  The law IsaLegal, by cases.
-/
import Derived.Test.YtkmhpbjegkhabaaDoorJumps
import Derived.Deep.DeepCutAuto
namespace Go.Proofs.YtkmhpbjegkhabaaDoor
open Go.RowKit
set_option linter.unusedVariables false

theorem mem_step (S : ByteArray) (k : Nat) (hlt : k < S.size) : decide ((112 : UInt8) ∈ S.data.toList.take (k + 1)) = (decide ((112 : UInt8) ∈ S.data.toList.take k) || (((S[k]'hlt).toNat : Int) == 112)) := by
  have hkl : k < S.data.toList.length := by simpa using hlt
  have hch : S.data.toList[k]'hkl = S[k]'hlt := by simp; rfl
  rw [List.take_add_one, List.getElem?_eq_getElem hkl, hch]
  have e : ((((S[k]'hlt).toNat : Int) == 112)) = decide ((112 : UInt8) = S[k]'hlt) := by
    by_cases h : S[k]'hlt = 112
    · rw [h]; rfl
    · have : (S[k]'hlt).toNat ≠ 112 := fun e => h (UInt8.toNat_inj.1 e)
      have h2 : ¬ (112 : UInt8) = S[k]'hlt := fun e => h e.symm
      simp [h2]
      omega
  rw [e]
  simp

set_option maxHeartbeats 8000000 in
set_option maxRecDepth 100000 in
theorem ll_jmr (o a b c n a0 b0 c0 n0 AT : Int) (ha : 0 ≤ a ∧ a < 256) (hb : 0 ≤ b ∧ b < 256) (hc : 0 ≤ c ∧ c < 256) (hn : -2147483648 ≤ n ∧ n ≤ 2147483647) (w : World) (NM S : ByteArray) (K LG P JB : Bool) (hS : S.size ≤ 3) (hP : P = decide ((112 : UInt8) ∈ S.data.toList))
    (c10 : ∀ w0, Below (w.heap.size + 1) (box w o a b c n) w0 → Calls Tryd.prog 10 #[.int .u8 o] w0 fun ex w' => ex = .returned (.tuple #[.string S, .bool K]) ∧ w' = w0)
    (c8 : ∀ w0, Below (w.heap.size + 1) (box w o a b c n) w0 → Calls Tryd.prog 8 #[.int .u8 o] w0 fun ex w' => ex = .returned (.tuple #[.string NM, .bool K]) ∧ w' = w0)
    (c18 : ∀ w0, Below (w.heap.size + 1) (box w o a b c n) w0 → Calls Tryd.prog 18 #[insV o a b c n, .string S] w0 fun ex w' => ex = .returned (insV o a0 b0 c0 n0) ∧ Below (w.heap.size + 1) (box w o a b c n) w')
    (c19 : ∀ w0, Below (w.heap.size + 1) (box w o a b c n) w0 → Calls Tryd.prog 19 #[insV o a b c n] w0 fun ex w' => ex = .returned (.tuple #[.int .i64 AT, .bool JB]) ∧ Below (w.heap.size + 1) (box w o a b c n) w')
    (c20 : ∀ w0, Below (w.heap.size + 1) (box w o a b c n) w0 → Calls Tryd.prog 20 #[insV o a b c n] w0 fun ex w' => ex = .returned (.bool LG) ∧ Below (w.heap.size + 1) (box w o a b c n) w')
    (c14 : ∀ w0, Below (w.heap.size + 1) (box w o a b c n) w0 → Calls Tryd.prog 14 #[] w0 fun ex w' => ex = .returned (.bool true) ∧ Below (w.heap.size + 1) (box w o a b c n) w')
    (hK : K = true) (hLG : LG = true) (hPf : P = false) (hNM : NM = ⟨#[106, 109, 114]⟩) (hJB : JB = true) (hAT : AT = -1) (h1 : a < 16) (h2 : b < 16) (h3 : c < 16) (z1 : a0 = 0) (z2 : b0 = 0) (z3 : c0 = 0) (z4 : n0 = 0) :
    Calls Tryd.prog 6 #[insV o a b c n] w fun ex w' => ex = .returned (.bool true) ∧ Below w.heap.size w w' := by
  subst hK hLG hNM hJB hAT z1 z2 z3 z4
  have HBX : Hid (Below w.heap.size w (box w o a b c n)) := (Below.refl _ w).alloc (Nat.le_refl _) _
  have HCELL : Hid (∀ w0, Below (w.heap.size + 1) (box w o a b c n) w0 → w0.heap[w.heap.size]? = some (.cells #[.int .u8 o, .int .u8 a, .int .u8 b, .int .u8 c, .int .i32 n] 26)) := (fun w0 h => (h.block w.heap.size (by omega)).trans (heap_alloc_new w _))
  have HP : Hid (P = decide ((112 : UInt8) ∈ S.data.toList)) := hP
  have hb0 : Below (w.heap.size + 1) (box w o a b c n) (box w o a b c n) := Below.refl _ _
  obtain ⟨r0, r1, r2, r3, r4⟩ := cells5 (HCELL.out _ hb0)
  unfold insV at *
  clear hP
  go_enter Tryd.func6, Tryd.ntmps6
  go_upto_region 7 with (first
    | (go_at_call 10; refine (c10 _ (by assumption)).mono ?_; rintro ex w2 ⟨rfl, hw⟩; obtain rfl := hw.symm)
    | (go_at_call 8; refine (c8 _ (by assumption)).mono ?_; rintro ex w2 ⟨rfl, hw⟩; obtain rfl := hw.symm)
    | (go_at_call 18; refine (c18 _ (by assumption)).mono ?_; rintro ex w1 ⟨rfl, b1⟩; have hsz1 := b1.size; have HA := (fun ob : Obj => cells5 (HCELL.out (w1.alloc ob) (Below.alloc b1 (by simpa using hsz1) ob))); have s0 := fun ob => (HA ob).1; have s1 := fun ob => (HA ob).2.1; have s2 := fun ob => (HA ob).2.2.1; have s3 := fun ob => (HA ob).2.2.2.1; have s4 := fun ob => (HA ob).2.2.2.2; clear HA)
    | (go_at_call 19; refine (c19 _ (Below.alloc b1 (by simpa using hsz1) _)).mono ?_; rintro ex w3 ⟨rfl, b3⟩; obtain ⟨t0, t1, t2, t3, t4⟩ := cells5 (HCELL.out w3 b3)))
  all_goals
    go_wp2
    go_loopw [12, 13] (fun pl i wr => ∃ k : Nat, k ≤ S.size ∧ i = .int .i64 k ∧ pl = .bool (decide ((112 : UInt8) ∈ S.data.toList.take k)) ∧ wr = w3) (fun _ i _ => S.size - (intOf i).toNat)
    case atStart => exact ⟨0, by omega, rfl, by simp, rfl⟩
    case round =>
      obtain ⟨k, hk, rfl, rfl, rfl⟩ := hrel
      by_cases hlt : k < S.size
      · have hkl : k < S.data.toList.length := by simpa using hlt
        have hch : S.data.toList[k]'hkl = S[k]'hlt := by simp; rfl
        have hst : decide ((112 : UInt8) ∈ S.data.toList.take (k + 1)) = (decide ((112 : UInt8) ∈ S.data.toList.take k) || (((S[k]'hlt).toNat : Int) == 112)) := mem_step S k hlt
        obtain ⟨Z, hZ⟩ : ∃ Z, Z = decide ((112 : UInt8) ∈ S.data.toList.take k) := ⟨_, rfl⟩
        rw [← hZ] at hst ⊢
        have HST : Hid (decide ((112 : UInt8) ∈ S.data.toList.take (k + 1)) = (Z || (((S[k]'hlt).toNat : Int) == 112))) := hst
        clear hst hZ hch
        cases Z
        · go_wp2
          go_roundw
          case rel => exact ⟨k + 1, by omega, by go_num, by rw [HST.out]; simp, trivial⟩
          case measure => simp [intOf]; omega
        · go_wp2
          go_roundw
          case rel => exact ⟨k + 1, by omega, by go_num, by rw [HST.out]; simp, trivial⟩
          case measure => simp [intOf]; omega
      · have hkS : k = S.size := by omega
        subst hkS
        have hfull : S.data.toList.take S.size = S.data.toList := List.take_of_length_le (by simp)
        rw [hfull, ← HP.out]
        clear hfull
        go_wp2_with (first
          | (go_at_call 14; refine (c14 _ (by assumption)).mono ?_; rintro ex w5 ⟨rfl, b5⟩; obtain ⟨x0, x1, x2, x3, x4⟩ := cells5 (HCELL.out w5 b5))
          | (go_at_call 20; refine (c20 _ (by assumption)).mono ?_; rintro ex w6 ⟨rfl, b6⟩; obtain ⟨y0, y1, y2, y3, y4⟩ := cells5 (HCELL.out w6 b6)))
        all_goals
          go_ret
          refine ⟨?_, HBX.out.trans ((by assumption : Below (w.heap.size + 1) (box w o a b c n) _).mono (Nat.le_succ _))⟩
          first | rfl | (simp; done)

set_option maxHeartbeats 8000000 in
set_option maxRecDepth 100000 in
theorem ll_place (o a b c n a0 b0 c0 n0 AT : Int) (ha : 0 ≤ a ∧ a < 256) (hb : 0 ≤ b ∧ b < 256) (hc : 0 ≤ c ∧ c < 256) (hn : -2147483648 ≤ n ∧ n ≤ 2147483647) (w : World) (NM S : ByteArray) (K LG P JB : Bool) (hS : S.size ≤ 3) (hP : P = decide ((112 : UInt8) ∈ S.data.toList))
    (c10 : ∀ w0, Below (w.heap.size + 1) (box w o a b c n) w0 → Calls Tryd.prog 10 #[.int .u8 o] w0 fun ex w' => ex = .returned (.tuple #[.string S, .bool K]) ∧ w' = w0)
    (c8 : ∀ w0, Below (w.heap.size + 1) (box w o a b c n) w0 → Calls Tryd.prog 8 #[.int .u8 o] w0 fun ex w' => ex = .returned (.tuple #[.string NM, .bool K]) ∧ w' = w0)
    (c18 : ∀ w0, Below (w.heap.size + 1) (box w o a b c n) w0 → Calls Tryd.prog 18 #[insV o a b c n, .string S] w0 fun ex w' => ex = .returned (insV o a0 b0 c0 n0) ∧ Below (w.heap.size + 1) (box w o a b c n) w')
    (c19 : ∀ w0, Below (w.heap.size + 1) (box w o a b c n) w0 → Calls Tryd.prog 19 #[insV o a b c n] w0 fun ex w' => ex = .returned (.tuple #[.int .i64 AT, .bool JB]) ∧ Below (w.heap.size + 1) (box w o a b c n) w')
    (c20 : ∀ w0, Below (w.heap.size + 1) (box w o a b c n) w0 → Calls Tryd.prog 20 #[insV o a b c n] w0 fun ex w' => ex = .returned (.bool LG) ∧ Below (w.heap.size + 1) (box w o a b c n) w')
    (c14 : ∀ w0, Below (w.heap.size + 1) (box w o a b c n) w0 → Calls Tryd.prog 14 #[] w0 fun ex w' => ex = .returned (.bool true) ∧ Below (w.heap.size + 1) (box w o a b c n) w')
    (hK : K = true) (hLG : LG = true) (hPf : P = true) (hNM : ¬ NM.toList = [106, 109, 114]) (hJB : JB = true) (hAT : n = AT) (h1 : a < 16) (h2 : b < 16) (h3 : c < 16) (z1 : a0 = 0) (z2 : b0 = 0) (z3 : c0 = 0) (z4 : n0 = 0) :
    Calls Tryd.prog 6 #[insV o a b c n] w fun ex w' => ex = .returned (.bool true) ∧ Below w.heap.size w w' := by
  have hNM2 : (NM.toList == [106, 109, 114]) = false := by simpa using hNM
  subst hK hLG hJB hAT z1 z2 z3 z4
  have HBX : Hid (Below w.heap.size w (box w o a b c n)) := (Below.refl _ w).alloc (Nat.le_refl _) _
  have HCELL : Hid (∀ w0, Below (w.heap.size + 1) (box w o a b c n) w0 → w0.heap[w.heap.size]? = some (.cells #[.int .u8 o, .int .u8 a, .int .u8 b, .int .u8 c, .int .i32 n] 26)) := (fun w0 h => (h.block w.heap.size (by omega)).trans (heap_alloc_new w _))
  have HP : Hid (P = decide ((112 : UInt8) ∈ S.data.toList)) := hP
  have hb0 : Below (w.heap.size + 1) (box w o a b c n) (box w o a b c n) := Below.refl _ _
  obtain ⟨r0, r1, r2, r3, r4⟩ := cells5 (HCELL.out _ hb0)
  unfold insV at *
  clear hP
  go_enter Tryd.func6, Tryd.ntmps6
  go_upto_region 7 with (first
    | (go_at_call 10; refine (c10 _ (by assumption)).mono ?_; rintro ex w2 ⟨rfl, hw⟩; obtain rfl := hw.symm)
    | (go_at_call 8; refine (c8 _ (by assumption)).mono ?_; rintro ex w2 ⟨rfl, hw⟩; obtain rfl := hw.symm)
    | (go_at_call 18; refine (c18 _ (by assumption)).mono ?_; rintro ex w1 ⟨rfl, b1⟩; have hsz1 := b1.size; have HA := (fun ob : Obj => cells5 (HCELL.out (w1.alloc ob) (Below.alloc b1 (by simpa using hsz1) ob))); have s0 := fun ob => (HA ob).1; have s1 := fun ob => (HA ob).2.1; have s2 := fun ob => (HA ob).2.2.1; have s3 := fun ob => (HA ob).2.2.2.1; have s4 := fun ob => (HA ob).2.2.2.2; clear HA)
    | (go_at_call 19; refine (c19 _ (Below.alloc b1 (by simpa using hsz1) _)).mono ?_; rintro ex w3 ⟨rfl, b3⟩; obtain ⟨t0, t1, t2, t3, t4⟩ := cells5 (HCELL.out w3 b3)))
  all_goals
    go_wp2
    go_loopw [12, 13] (fun pl i wr => ∃ k : Nat, k ≤ S.size ∧ i = .int .i64 k ∧ pl = .bool (decide ((112 : UInt8) ∈ S.data.toList.take k)) ∧ wr = w3) (fun _ i _ => S.size - (intOf i).toNat)
    case atStart => exact ⟨0, by omega, rfl, by simp, rfl⟩
    case round =>
      obtain ⟨k, hk, rfl, rfl, rfl⟩ := hrel
      by_cases hlt : k < S.size
      · have hkl : k < S.data.toList.length := by simpa using hlt
        have hch : S.data.toList[k]'hkl = S[k]'hlt := by simp; rfl
        have hst : decide ((112 : UInt8) ∈ S.data.toList.take (k + 1)) = (decide ((112 : UInt8) ∈ S.data.toList.take k) || (((S[k]'hlt).toNat : Int) == 112)) := mem_step S k hlt
        obtain ⟨Z, hZ⟩ : ∃ Z, Z = decide ((112 : UInt8) ∈ S.data.toList.take k) := ⟨_, rfl⟩
        rw [← hZ] at hst ⊢
        have HST : Hid (decide ((112 : UInt8) ∈ S.data.toList.take (k + 1)) = (Z || (((S[k]'hlt).toNat : Int) == 112))) := hst
        clear hst hZ hch
        cases Z
        · go_wp2
          go_roundw
          case rel => exact ⟨k + 1, by omega, by go_num, by rw [HST.out]; simp, trivial⟩
          case measure => simp [intOf]; omega
        · go_wp2
          go_roundw
          case rel => exact ⟨k + 1, by omega, by go_num, by rw [HST.out]; simp, trivial⟩
          case measure => simp [intOf]; omega
      · have hkS : k = S.size := by omega
        subst hkS
        have hfull : S.data.toList.take S.size = S.data.toList := List.take_of_length_le (by simp)
        rw [hfull, ← HP.out]
        clear hfull
        go_wp2_with (first
          | (go_at_call 14; refine (c14 _ (by assumption)).mono ?_; rintro ex w5 ⟨rfl, b5⟩; obtain ⟨x0, x1, x2, x3, x4⟩ := cells5 (HCELL.out w5 b5))
          | (go_at_call 20; refine (c20 _ (by assumption)).mono ?_; rintro ex w6 ⟨rfl, b6⟩; obtain ⟨y0, y1, y2, y3, y4⟩ := cells5 (HCELL.out w6 b6)))
        all_goals
          go_ret
          refine ⟨?_, HBX.out.trans ((by assumption : Below (w.heap.size + 1) (box w o a b c n) _).mono (Nat.le_succ _))⟩
          first | rfl | (simp; done)

set_option maxHeartbeats 8000000 in
set_option maxRecDepth 100000 in
theorem ll_stay (o a b c n a0 b0 c0 n0 AT : Int) (ha : 0 ≤ a ∧ a < 256) (hb : 0 ≤ b ∧ b < 256) (hc : 0 ≤ c ∧ c < 256) (hn : -2147483648 ≤ n ∧ n ≤ 2147483647) (w : World) (NM S : ByteArray) (K LG P JB : Bool) (hS : S.size ≤ 3) (hP : P = decide ((112 : UInt8) ∈ S.data.toList))
    (c10 : ∀ w0, Below (w.heap.size + 1) (box w o a b c n) w0 → Calls Tryd.prog 10 #[.int .u8 o] w0 fun ex w' => ex = .returned (.tuple #[.string S, .bool K]) ∧ w' = w0)
    (c8 : ∀ w0, Below (w.heap.size + 1) (box w o a b c n) w0 → Calls Tryd.prog 8 #[.int .u8 o] w0 fun ex w' => ex = .returned (.tuple #[.string NM, .bool K]) ∧ w' = w0)
    (c18 : ∀ w0, Below (w.heap.size + 1) (box w o a b c n) w0 → Calls Tryd.prog 18 #[insV o a b c n, .string S] w0 fun ex w' => ex = .returned (insV o a0 b0 c0 n0) ∧ Below (w.heap.size + 1) (box w o a b c n) w')
    (c19 : ∀ w0, Below (w.heap.size + 1) (box w o a b c n) w0 → Calls Tryd.prog 19 #[insV o a b c n] w0 fun ex w' => ex = .returned (.tuple #[.int .i64 AT, .bool JB]) ∧ Below (w.heap.size + 1) (box w o a b c n) w')
    (c20 : ∀ w0, Below (w.heap.size + 1) (box w o a b c n) w0 → Calls Tryd.prog 20 #[insV o a b c n] w0 fun ex w' => ex = .returned (.bool LG) ∧ Below (w.heap.size + 1) (box w o a b c n) w')
    (c14 : ∀ w0, Below (w.heap.size + 1) (box w o a b c n) w0 → Calls Tryd.prog 14 #[] w0 fun ex w' => ex = .returned (.bool true) ∧ Below (w.heap.size + 1) (box w o a b c n) w')
    (hK : K = true) (hLG : LG = true) (hPf : P = false) (hNM : ¬ NM.toList = [106, 109, 114]) (hJB : JB = false) (hAT : AT = 0) (h1 : a < 16) (h2 : b < 16) (h3 : c < 16) (z1 : a0 = 0) (z2 : b0 = 0) (z3 : c0 = 0) (z4 : n0 = 0) :
    Calls Tryd.prog 6 #[insV o a b c n] w fun ex w' => ex = .returned (.bool true) ∧ Below w.heap.size w w' := by
  have hNM2 : (NM.toList == [106, 109, 114]) = false := by simpa using hNM
  subst hK hLG hJB hAT z1 z2 z3 z4
  have HBX : Hid (Below w.heap.size w (box w o a b c n)) := (Below.refl _ w).alloc (Nat.le_refl _) _
  have HCELL : Hid (∀ w0, Below (w.heap.size + 1) (box w o a b c n) w0 → w0.heap[w.heap.size]? = some (.cells #[.int .u8 o, .int .u8 a, .int .u8 b, .int .u8 c, .int .i32 n] 26)) := (fun w0 h => (h.block w.heap.size (by omega)).trans (heap_alloc_new w _))
  have HP : Hid (P = decide ((112 : UInt8) ∈ S.data.toList)) := hP
  have hb0 : Below (w.heap.size + 1) (box w o a b c n) (box w o a b c n) := Below.refl _ _
  obtain ⟨r0, r1, r2, r3, r4⟩ := cells5 (HCELL.out _ hb0)
  unfold insV at *
  clear hP
  go_enter Tryd.func6, Tryd.ntmps6
  go_upto_region 7 with (first
    | (go_at_call 10; refine (c10 _ (by assumption)).mono ?_; rintro ex w2 ⟨rfl, hw⟩; obtain rfl := hw.symm)
    | (go_at_call 8; refine (c8 _ (by assumption)).mono ?_; rintro ex w2 ⟨rfl, hw⟩; obtain rfl := hw.symm)
    | (go_at_call 18; refine (c18 _ (by assumption)).mono ?_; rintro ex w1 ⟨rfl, b1⟩; have hsz1 := b1.size; have HA := (fun ob : Obj => cells5 (HCELL.out (w1.alloc ob) (Below.alloc b1 (by simpa using hsz1) ob))); have s0 := fun ob => (HA ob).1; have s1 := fun ob => (HA ob).2.1; have s2 := fun ob => (HA ob).2.2.1; have s3 := fun ob => (HA ob).2.2.2.1; have s4 := fun ob => (HA ob).2.2.2.2; clear HA)
    | (go_at_call 19; refine (c19 _ (Below.alloc b1 (by simpa using hsz1) _)).mono ?_; rintro ex w3 ⟨rfl, b3⟩; obtain ⟨t0, t1, t2, t3, t4⟩ := cells5 (HCELL.out w3 b3)))
  all_goals
    go_wp2
    go_loopw [12, 13] (fun pl i wr => ∃ k : Nat, k ≤ S.size ∧ i = .int .i64 k ∧ pl = .bool (decide ((112 : UInt8) ∈ S.data.toList.take k)) ∧ wr = w3) (fun _ i _ => S.size - (intOf i).toNat)
    case atStart => exact ⟨0, by omega, rfl, by simp, rfl⟩
    case round =>
      obtain ⟨k, hk, rfl, rfl, rfl⟩ := hrel
      by_cases hlt : k < S.size
      · have hkl : k < S.data.toList.length := by simpa using hlt
        have hch : S.data.toList[k]'hkl = S[k]'hlt := by simp; rfl
        have hst : decide ((112 : UInt8) ∈ S.data.toList.take (k + 1)) = (decide ((112 : UInt8) ∈ S.data.toList.take k) || (((S[k]'hlt).toNat : Int) == 112)) := mem_step S k hlt
        obtain ⟨Z, hZ⟩ : ∃ Z, Z = decide ((112 : UInt8) ∈ S.data.toList.take k) := ⟨_, rfl⟩
        rw [← hZ] at hst ⊢
        have HST : Hid (decide ((112 : UInt8) ∈ S.data.toList.take (k + 1)) = (Z || (((S[k]'hlt).toNat : Int) == 112))) := hst
        clear hst hZ hch
        cases Z
        · go_wp2
          go_roundw
          case rel => exact ⟨k + 1, by omega, by go_num, by rw [HST.out]; simp, trivial⟩
          case measure => simp [intOf]; omega
        · go_wp2
          go_roundw
          case rel => exact ⟨k + 1, by omega, by go_num, by rw [HST.out]; simp, trivial⟩
          case measure => simp [intOf]; omega
      · have hkS : k = S.size := by omega
        subst hkS
        have hfull : S.data.toList.take S.size = S.data.toList := List.take_of_length_le (by simp)
        rw [hfull, ← HP.out]
        clear hfull
        go_wp2_with (first
          | (go_at_call 14; refine (c14 _ (by assumption)).mono ?_; rintro ex w5 ⟨rfl, b5⟩; obtain ⟨x0, x1, x2, x3, x4⟩ := cells5 (HCELL.out w5 b5))
          | (go_at_call 20; refine (c20 _ (by assumption)).mono ?_; rintro ex w6 ⟨rfl, b6⟩; obtain ⟨y0, y1, y2, y3, y4⟩ := cells5 (HCELL.out w6 b6)))
        all_goals
          go_ret
          refine ⟨?_, HBX.out.trans ((by assumption : Below (w.heap.size + 1) (box w o a b c n) _).mono (Nat.le_succ _))⟩
          first | rfl | (simp; done)

set_option maxHeartbeats 8000000 in
set_option maxRecDepth 100000 in
theorem ll_unknown (o a b c n a0 b0 c0 n0 AT : Int) (ha : 0 ≤ a ∧ a < 256) (hb : 0 ≤ b ∧ b < 256) (hc : 0 ≤ c ∧ c < 256) (hn : -2147483648 ≤ n ∧ n ≤ 2147483647) (w : World) (NM S : ByteArray) (K LG P JB : Bool) (hS : S.size ≤ 3) (hP : P = decide ((112 : UInt8) ∈ S.data.toList))
    (c10 : ∀ w0, Below (w.heap.size + 1) (box w o a b c n) w0 → Calls Tryd.prog 10 #[.int .u8 o] w0 fun ex w' => ex = .returned (.tuple #[.string S, .bool K]) ∧ w' = w0)
    (c8 : ∀ w0, Below (w.heap.size + 1) (box w o a b c n) w0 → Calls Tryd.prog 8 #[.int .u8 o] w0 fun ex w' => ex = .returned (.tuple #[.string NM, .bool K]) ∧ w' = w0)
    (c18 : ∀ w0, Below (w.heap.size + 1) (box w o a b c n) w0 → Calls Tryd.prog 18 #[insV o a b c n, .string S] w0 fun ex w' => ex = .returned (insV o a0 b0 c0 n0) ∧ Below (w.heap.size + 1) (box w o a b c n) w')
    (c19 : ∀ w0, Below (w.heap.size + 1) (box w o a b c n) w0 → Calls Tryd.prog 19 #[insV o a b c n] w0 fun ex w' => ex = .returned (.tuple #[.int .i64 AT, .bool JB]) ∧ Below (w.heap.size + 1) (box w o a b c n) w')
    (c20 : ∀ w0, Below (w.heap.size + 1) (box w o a b c n) w0 → Calls Tryd.prog 20 #[insV o a b c n] w0 fun ex w' => ex = .returned (.bool LG) ∧ Below (w.heap.size + 1) (box w o a b c n) w')
    (c14 : ∀ w0, Below (w.heap.size + 1) (box w o a b c n) w0 → Calls Tryd.prog 14 #[] w0 fun ex w' => ex = .returned (.bool true) ∧ Below (w.heap.size + 1) (box w o a b c n) w')
    (hK : K = false) (hLG : LG = false) (hJB : JB = false) (hAT : AT = 0) :
    Calls Tryd.prog 6 #[insV o a b c n] w fun ex w' => ex = .returned (.bool true) ∧ Below w.heap.size w w' := by
  subst hK hLG hJB hAT
  have HBX : Hid (Below w.heap.size w (box w o a b c n)) := (Below.refl _ w).alloc (Nat.le_refl _) _
  have HCELL : Hid (∀ w0, Below (w.heap.size + 1) (box w o a b c n) w0 → w0.heap[w.heap.size]? = some (.cells #[.int .u8 o, .int .u8 a, .int .u8 b, .int .u8 c, .int .i32 n] 26)) := (fun w0 h => (h.block w.heap.size (by omega)).trans (heap_alloc_new w _))
  have HP : Hid (P = decide ((112 : UInt8) ∈ S.data.toList)) := hP
  have hb0 : Below (w.heap.size + 1) (box w o a b c n) (box w o a b c n) := Below.refl _ _
  obtain ⟨r0, r1, r2, r3, r4⟩ := cells5 (HCELL.out _ hb0)
  unfold insV at *
  clear hP
  go_enter Tryd.func6, Tryd.ntmps6
  go_upto_region 7 with (first
    | (go_at_call 10; refine (c10 _ (by assumption)).mono ?_; rintro ex w2 ⟨rfl, hw⟩; obtain rfl := hw.symm)
    | (go_at_call 8; refine (c8 _ (by assumption)).mono ?_; rintro ex w2 ⟨rfl, hw⟩; obtain rfl := hw.symm)
    | (go_at_call 18; refine (c18 _ (by assumption)).mono ?_; rintro ex w1 ⟨rfl, b1⟩; have hsz1 := b1.size; have HA := (fun ob : Obj => cells5 (HCELL.out (w1.alloc ob) (Below.alloc b1 (by simpa using hsz1) ob))); have s0 := fun ob => (HA ob).1; have s1 := fun ob => (HA ob).2.1; have s2 := fun ob => (HA ob).2.2.1; have s3 := fun ob => (HA ob).2.2.2.1; have s4 := fun ob => (HA ob).2.2.2.2; clear HA)
    | (go_at_call 19; refine (c19 _ (Below.alloc b1 (by simpa using hsz1) _)).mono ?_; rintro ex w3 ⟨rfl, b3⟩; obtain ⟨t0, t1, t2, t3, t4⟩ := cells5 (HCELL.out w3 b3)))
  all_goals
    go_wp2
    go_loopw [12, 13] (fun pl i wr => ∃ k : Nat, k ≤ S.size ∧ i = .int .i64 k ∧ pl = .bool (decide ((112 : UInt8) ∈ S.data.toList.take k)) ∧ wr = w3) (fun _ i _ => S.size - (intOf i).toNat)
    case atStart => exact ⟨0, by omega, rfl, by simp, rfl⟩
    case round =>
      obtain ⟨k, hk, rfl, rfl, rfl⟩ := hrel
      by_cases hlt : k < S.size
      · have hkl : k < S.data.toList.length := by simpa using hlt
        have hch : S.data.toList[k]'hkl = S[k]'hlt := by simp; rfl
        have hst : decide ((112 : UInt8) ∈ S.data.toList.take (k + 1)) = (decide ((112 : UInt8) ∈ S.data.toList.take k) || (((S[k]'hlt).toNat : Int) == 112)) := mem_step S k hlt
        obtain ⟨Z, hZ⟩ : ∃ Z, Z = decide ((112 : UInt8) ∈ S.data.toList.take k) := ⟨_, rfl⟩
        rw [← hZ] at hst ⊢
        have HST : Hid (decide ((112 : UInt8) ∈ S.data.toList.take (k + 1)) = (Z || (((S[k]'hlt).toNat : Int) == 112))) := hst
        clear hst hZ hch
        cases Z
        · go_wp2
          go_roundw
          case rel => exact ⟨k + 1, by omega, by go_num, by rw [HST.out]; simp, trivial⟩
          case measure => simp [intOf]; omega
        · go_wp2
          go_roundw
          case rel => exact ⟨k + 1, by omega, by go_num, by rw [HST.out]; simp, trivial⟩
          case measure => simp [intOf]; omega
      · have hkS : k = S.size := by omega
        subst hkS
        have hfull : S.data.toList.take S.size = S.data.toList := List.take_of_length_le (by simp)
        rw [hfull, ← HP.out]
        clear hfull
        go_wp2_with (first
          | (go_at_call 14; refine (c14 _ (by assumption)).mono ?_; rintro ex w5 ⟨rfl, b5⟩; obtain ⟨x0, x1, x2, x3, x4⟩ := cells5 (HCELL.out w5 b5))
          | (go_at_call 20; refine (c20 _ (by assumption)).mono ?_; rintro ex w6 ⟨rfl, b6⟩; obtain ⟨y0, y1, y2, y3, y4⟩ := cells5 (HCELL.out w6 b6)))
        all_goals
          go_ret
          refine ⟨?_, HBX.out.trans ((by assumption : Below (w.heap.size + 1) (box w o a b c n) _).mono (Nat.le_succ _))⟩
          first | rfl | (simp; done)

set_option maxHeartbeats 8000000 in
set_option maxRecDepth 100000 in
theorem ll_na (o a b c n a0 b0 c0 n0 AT : Int) (ha : 0 ≤ a ∧ a < 256) (hb : 0 ≤ b ∧ b < 256) (hc : 0 ≤ c ∧ c < 256) (hn : -2147483648 ≤ n ∧ n ≤ 2147483647) (w : World) (NM S : ByteArray) (K LG P JB : Bool) (hS : S.size ≤ 3) (hP : P = decide ((112 : UInt8) ∈ S.data.toList))
    (c10 : ∀ w0, Below (w.heap.size + 1) (box w o a b c n) w0 → Calls Tryd.prog 10 #[.int .u8 o] w0 fun ex w' => ex = .returned (.tuple #[.string S, .bool K]) ∧ w' = w0)
    (c8 : ∀ w0, Below (w.heap.size + 1) (box w o a b c n) w0 → Calls Tryd.prog 8 #[.int .u8 o] w0 fun ex w' => ex = .returned (.tuple #[.string NM, .bool K]) ∧ w' = w0)
    (c18 : ∀ w0, Below (w.heap.size + 1) (box w o a b c n) w0 → Calls Tryd.prog 18 #[insV o a b c n, .string S] w0 fun ex w' => ex = .returned (insV o a0 b0 c0 n0) ∧ Below (w.heap.size + 1) (box w o a b c n) w')
    (c19 : ∀ w0, Below (w.heap.size + 1) (box w o a b c n) w0 → Calls Tryd.prog 19 #[insV o a b c n] w0 fun ex w' => ex = .returned (.tuple #[.int .i64 AT, .bool JB]) ∧ Below (w.heap.size + 1) (box w o a b c n) w')
    (c20 : ∀ w0, Below (w.heap.size + 1) (box w o a b c n) w0 → Calls Tryd.prog 20 #[insV o a b c n] w0 fun ex w' => ex = .returned (.bool LG) ∧ Below (w.heap.size + 1) (box w o a b c n) w')
    (c14 : ∀ w0, Below (w.heap.size + 1) (box w o a b c n) w0 → Calls Tryd.prog 14 #[] w0 fun ex w' => ex = .returned (.bool true) ∧ Below (w.heap.size + 1) (box w o a b c n) w')
    (hK : K = true) (hLG : LG = false) (hJB : JB = false) (hAT : AT = 0) (z1 : (a0 == 0) = false) :
    Calls Tryd.prog 6 #[insV o a b c n] w fun ex w' => ex = .returned (.bool true) ∧ Below w.heap.size w w' := by
  subst hK hLG hJB hAT
  have HBX : Hid (Below w.heap.size w (box w o a b c n)) := (Below.refl _ w).alloc (Nat.le_refl _) _
  have HCELL : Hid (∀ w0, Below (w.heap.size + 1) (box w o a b c n) w0 → w0.heap[w.heap.size]? = some (.cells #[.int .u8 o, .int .u8 a, .int .u8 b, .int .u8 c, .int .i32 n] 26)) := (fun w0 h => (h.block w.heap.size (by omega)).trans (heap_alloc_new w _))
  have HP : Hid (P = decide ((112 : UInt8) ∈ S.data.toList)) := hP
  have hb0 : Below (w.heap.size + 1) (box w o a b c n) (box w o a b c n) := Below.refl _ _
  obtain ⟨r0, r1, r2, r3, r4⟩ := cells5 (HCELL.out _ hb0)
  unfold insV at *
  clear hP
  go_enter Tryd.func6, Tryd.ntmps6
  go_upto_region 7 with (first
    | (go_at_call 10; refine (c10 _ (by assumption)).mono ?_; rintro ex w2 ⟨rfl, hw⟩; obtain rfl := hw.symm)
    | (go_at_call 8; refine (c8 _ (by assumption)).mono ?_; rintro ex w2 ⟨rfl, hw⟩; obtain rfl := hw.symm)
    | (go_at_call 18; refine (c18 _ (by assumption)).mono ?_; rintro ex w1 ⟨rfl, b1⟩; have hsz1 := b1.size; have HA := (fun ob : Obj => cells5 (HCELL.out (w1.alloc ob) (Below.alloc b1 (by simpa using hsz1) ob))); have s0 := fun ob => (HA ob).1; have s1 := fun ob => (HA ob).2.1; have s2 := fun ob => (HA ob).2.2.1; have s3 := fun ob => (HA ob).2.2.2.1; have s4 := fun ob => (HA ob).2.2.2.2; clear HA)
    | (go_at_call 19; refine (c19 _ (Below.alloc b1 (by simpa using hsz1) _)).mono ?_; rintro ex w3 ⟨rfl, b3⟩; obtain ⟨t0, t1, t2, t3, t4⟩ := cells5 (HCELL.out w3 b3)))
  all_goals
    go_wp2
    go_loopw [12, 13] (fun pl i wr => ∃ k : Nat, k ≤ S.size ∧ i = .int .i64 k ∧ pl = .bool (decide ((112 : UInt8) ∈ S.data.toList.take k)) ∧ wr = w3) (fun _ i _ => S.size - (intOf i).toNat)
    case atStart => exact ⟨0, by omega, rfl, by simp, rfl⟩
    case round =>
      obtain ⟨k, hk, rfl, rfl, rfl⟩ := hrel
      by_cases hlt : k < S.size
      · have hkl : k < S.data.toList.length := by simpa using hlt
        have hch : S.data.toList[k]'hkl = S[k]'hlt := by simp; rfl
        have hst : decide ((112 : UInt8) ∈ S.data.toList.take (k + 1)) = (decide ((112 : UInt8) ∈ S.data.toList.take k) || (((S[k]'hlt).toNat : Int) == 112)) := mem_step S k hlt
        obtain ⟨Z, hZ⟩ : ∃ Z, Z = decide ((112 : UInt8) ∈ S.data.toList.take k) := ⟨_, rfl⟩
        rw [← hZ] at hst ⊢
        have HST : Hid (decide ((112 : UInt8) ∈ S.data.toList.take (k + 1)) = (Z || (((S[k]'hlt).toNat : Int) == 112))) := hst
        clear hst hZ hch
        cases Z
        · go_wp2
          go_roundw
          case rel => exact ⟨k + 1, by omega, by go_num, by rw [HST.out]; simp, trivial⟩
          case measure => simp [intOf]; omega
        · go_wp2
          go_roundw
          case rel => exact ⟨k + 1, by omega, by go_num, by rw [HST.out]; simp, trivial⟩
          case measure => simp [intOf]; omega
      · have hkS : k = S.size := by omega
        subst hkS
        have hfull : S.data.toList.take S.size = S.data.toList := List.take_of_length_le (by simp)
        rw [hfull, ← HP.out]
        clear hfull
        go_wp2_with (first
          | (go_at_call 14; refine (c14 _ (by assumption)).mono ?_; rintro ex w5 ⟨rfl, b5⟩; obtain ⟨x0, x1, x2, x3, x4⟩ := cells5 (HCELL.out w5 b5))
          | (go_at_call 20; refine (c20 _ (by assumption)).mono ?_; rintro ex w6 ⟨rfl, b6⟩; obtain ⟨y0, y1, y2, y3, y4⟩ := cells5 (HCELL.out w6 b6)))
        all_goals
          go_ret
          refine ⟨?_, HBX.out.trans ((by assumption : Below (w.heap.size + 1) (box w o a b c n) _).mono (Nat.le_succ _))⟩
          first | rfl | (simp; done)

set_option maxHeartbeats 8000000 in
set_option maxRecDepth 100000 in
theorem ll_nb (o a b c n a0 b0 c0 n0 AT : Int) (ha : 0 ≤ a ∧ a < 256) (hb : 0 ≤ b ∧ b < 256) (hc : 0 ≤ c ∧ c < 256) (hn : -2147483648 ≤ n ∧ n ≤ 2147483647) (w : World) (NM S : ByteArray) (K LG P JB : Bool) (hS : S.size ≤ 3) (hP : P = decide ((112 : UInt8) ∈ S.data.toList))
    (c10 : ∀ w0, Below (w.heap.size + 1) (box w o a b c n) w0 → Calls Tryd.prog 10 #[.int .u8 o] w0 fun ex w' => ex = .returned (.tuple #[.string S, .bool K]) ∧ w' = w0)
    (c8 : ∀ w0, Below (w.heap.size + 1) (box w o a b c n) w0 → Calls Tryd.prog 8 #[.int .u8 o] w0 fun ex w' => ex = .returned (.tuple #[.string NM, .bool K]) ∧ w' = w0)
    (c18 : ∀ w0, Below (w.heap.size + 1) (box w o a b c n) w0 → Calls Tryd.prog 18 #[insV o a b c n, .string S] w0 fun ex w' => ex = .returned (insV o a0 b0 c0 n0) ∧ Below (w.heap.size + 1) (box w o a b c n) w')
    (c19 : ∀ w0, Below (w.heap.size + 1) (box w o a b c n) w0 → Calls Tryd.prog 19 #[insV o a b c n] w0 fun ex w' => ex = .returned (.tuple #[.int .i64 AT, .bool JB]) ∧ Below (w.heap.size + 1) (box w o a b c n) w')
    (c20 : ∀ w0, Below (w.heap.size + 1) (box w o a b c n) w0 → Calls Tryd.prog 20 #[insV o a b c n] w0 fun ex w' => ex = .returned (.bool LG) ∧ Below (w.heap.size + 1) (box w o a b c n) w')
    (c14 : ∀ w0, Below (w.heap.size + 1) (box w o a b c n) w0 → Calls Tryd.prog 14 #[] w0 fun ex w' => ex = .returned (.bool true) ∧ Below (w.heap.size + 1) (box w o a b c n) w')
    (hK : K = true) (hLG : LG = false) (hJB : JB = false) (hAT : AT = 0) (z1 : a0 = 0) (z2 : (b0 == 0) = false) :
    Calls Tryd.prog 6 #[insV o a b c n] w fun ex w' => ex = .returned (.bool true) ∧ Below w.heap.size w w' := by
  subst hK hLG hJB hAT z1
  have HBX : Hid (Below w.heap.size w (box w o a b c n)) := (Below.refl _ w).alloc (Nat.le_refl _) _
  have HCELL : Hid (∀ w0, Below (w.heap.size + 1) (box w o a b c n) w0 → w0.heap[w.heap.size]? = some (.cells #[.int .u8 o, .int .u8 a, .int .u8 b, .int .u8 c, .int .i32 n] 26)) := (fun w0 h => (h.block w.heap.size (by omega)).trans (heap_alloc_new w _))
  have HP : Hid (P = decide ((112 : UInt8) ∈ S.data.toList)) := hP
  have hb0 : Below (w.heap.size + 1) (box w o a b c n) (box w o a b c n) := Below.refl _ _
  obtain ⟨r0, r1, r2, r3, r4⟩ := cells5 (HCELL.out _ hb0)
  unfold insV at *
  clear hP
  go_enter Tryd.func6, Tryd.ntmps6
  go_upto_region 7 with (first
    | (go_at_call 10; refine (c10 _ (by assumption)).mono ?_; rintro ex w2 ⟨rfl, hw⟩; obtain rfl := hw.symm)
    | (go_at_call 8; refine (c8 _ (by assumption)).mono ?_; rintro ex w2 ⟨rfl, hw⟩; obtain rfl := hw.symm)
    | (go_at_call 18; refine (c18 _ (by assumption)).mono ?_; rintro ex w1 ⟨rfl, b1⟩; have hsz1 := b1.size; have HA := (fun ob : Obj => cells5 (HCELL.out (w1.alloc ob) (Below.alloc b1 (by simpa using hsz1) ob))); have s0 := fun ob => (HA ob).1; have s1 := fun ob => (HA ob).2.1; have s2 := fun ob => (HA ob).2.2.1; have s3 := fun ob => (HA ob).2.2.2.1; have s4 := fun ob => (HA ob).2.2.2.2; clear HA)
    | (go_at_call 19; refine (c19 _ (Below.alloc b1 (by simpa using hsz1) _)).mono ?_; rintro ex w3 ⟨rfl, b3⟩; obtain ⟨t0, t1, t2, t3, t4⟩ := cells5 (HCELL.out w3 b3)))
  all_goals
    go_wp2
    go_loopw [12, 13] (fun pl i wr => ∃ k : Nat, k ≤ S.size ∧ i = .int .i64 k ∧ pl = .bool (decide ((112 : UInt8) ∈ S.data.toList.take k)) ∧ wr = w3) (fun _ i _ => S.size - (intOf i).toNat)
    case atStart => exact ⟨0, by omega, rfl, by simp, rfl⟩
    case round =>
      obtain ⟨k, hk, rfl, rfl, rfl⟩ := hrel
      by_cases hlt : k < S.size
      · have hkl : k < S.data.toList.length := by simpa using hlt
        have hch : S.data.toList[k]'hkl = S[k]'hlt := by simp; rfl
        have hst : decide ((112 : UInt8) ∈ S.data.toList.take (k + 1)) = (decide ((112 : UInt8) ∈ S.data.toList.take k) || (((S[k]'hlt).toNat : Int) == 112)) := mem_step S k hlt
        obtain ⟨Z, hZ⟩ : ∃ Z, Z = decide ((112 : UInt8) ∈ S.data.toList.take k) := ⟨_, rfl⟩
        rw [← hZ] at hst ⊢
        have HST : Hid (decide ((112 : UInt8) ∈ S.data.toList.take (k + 1)) = (Z || (((S[k]'hlt).toNat : Int) == 112))) := hst
        clear hst hZ hch
        cases Z
        · go_wp2
          go_roundw
          case rel => exact ⟨k + 1, by omega, by go_num, by rw [HST.out]; simp, trivial⟩
          case measure => simp [intOf]; omega
        · go_wp2
          go_roundw
          case rel => exact ⟨k + 1, by omega, by go_num, by rw [HST.out]; simp, trivial⟩
          case measure => simp [intOf]; omega
      · have hkS : k = S.size := by omega
        subst hkS
        have hfull : S.data.toList.take S.size = S.data.toList := List.take_of_length_le (by simp)
        rw [hfull, ← HP.out]
        clear hfull
        go_wp2_with (first
          | (go_at_call 14; refine (c14 _ (by assumption)).mono ?_; rintro ex w5 ⟨rfl, b5⟩; obtain ⟨x0, x1, x2, x3, x4⟩ := cells5 (HCELL.out w5 b5))
          | (go_at_call 20; refine (c20 _ (by assumption)).mono ?_; rintro ex w6 ⟨rfl, b6⟩; obtain ⟨y0, y1, y2, y3, y4⟩ := cells5 (HCELL.out w6 b6)))
        all_goals
          go_ret
          refine ⟨?_, HBX.out.trans ((by assumption : Below (w.heap.size + 1) (box w o a b c n) _).mono (Nat.le_succ _))⟩
          first | rfl | (simp; done)

set_option maxHeartbeats 8000000 in
set_option maxRecDepth 100000 in
theorem ll_nc (o a b c n a0 b0 c0 n0 AT : Int) (ha : 0 ≤ a ∧ a < 256) (hb : 0 ≤ b ∧ b < 256) (hc : 0 ≤ c ∧ c < 256) (hn : -2147483648 ≤ n ∧ n ≤ 2147483647) (w : World) (NM S : ByteArray) (K LG P JB : Bool) (hS : S.size ≤ 3) (hP : P = decide ((112 : UInt8) ∈ S.data.toList))
    (c10 : ∀ w0, Below (w.heap.size + 1) (box w o a b c n) w0 → Calls Tryd.prog 10 #[.int .u8 o] w0 fun ex w' => ex = .returned (.tuple #[.string S, .bool K]) ∧ w' = w0)
    (c8 : ∀ w0, Below (w.heap.size + 1) (box w o a b c n) w0 → Calls Tryd.prog 8 #[.int .u8 o] w0 fun ex w' => ex = .returned (.tuple #[.string NM, .bool K]) ∧ w' = w0)
    (c18 : ∀ w0, Below (w.heap.size + 1) (box w o a b c n) w0 → Calls Tryd.prog 18 #[insV o a b c n, .string S] w0 fun ex w' => ex = .returned (insV o a0 b0 c0 n0) ∧ Below (w.heap.size + 1) (box w o a b c n) w')
    (c19 : ∀ w0, Below (w.heap.size + 1) (box w o a b c n) w0 → Calls Tryd.prog 19 #[insV o a b c n] w0 fun ex w' => ex = .returned (.tuple #[.int .i64 AT, .bool JB]) ∧ Below (w.heap.size + 1) (box w o a b c n) w')
    (c20 : ∀ w0, Below (w.heap.size + 1) (box w o a b c n) w0 → Calls Tryd.prog 20 #[insV o a b c n] w0 fun ex w' => ex = .returned (.bool LG) ∧ Below (w.heap.size + 1) (box w o a b c n) w')
    (c14 : ∀ w0, Below (w.heap.size + 1) (box w o a b c n) w0 → Calls Tryd.prog 14 #[] w0 fun ex w' => ex = .returned (.bool true) ∧ Below (w.heap.size + 1) (box w o a b c n) w')
    (hK : K = true) (hLG : LG = false) (hJB : JB = false) (hAT : AT = 0) (z1 : a0 = 0) (z2 : b0 = 0) (z3 : (c0 == 0) = false) :
    Calls Tryd.prog 6 #[insV o a b c n] w fun ex w' => ex = .returned (.bool true) ∧ Below w.heap.size w w' := by
  subst hK hLG hJB hAT z1 z2
  have HBX : Hid (Below w.heap.size w (box w o a b c n)) := (Below.refl _ w).alloc (Nat.le_refl _) _
  have HCELL : Hid (∀ w0, Below (w.heap.size + 1) (box w o a b c n) w0 → w0.heap[w.heap.size]? = some (.cells #[.int .u8 o, .int .u8 a, .int .u8 b, .int .u8 c, .int .i32 n] 26)) := (fun w0 h => (h.block w.heap.size (by omega)).trans (heap_alloc_new w _))
  have HP : Hid (P = decide ((112 : UInt8) ∈ S.data.toList)) := hP
  have hb0 : Below (w.heap.size + 1) (box w o a b c n) (box w o a b c n) := Below.refl _ _
  obtain ⟨r0, r1, r2, r3, r4⟩ := cells5 (HCELL.out _ hb0)
  unfold insV at *
  clear hP
  go_enter Tryd.func6, Tryd.ntmps6
  go_upto_region 7 with (first
    | (go_at_call 10; refine (c10 _ (by assumption)).mono ?_; rintro ex w2 ⟨rfl, hw⟩; obtain rfl := hw.symm)
    | (go_at_call 8; refine (c8 _ (by assumption)).mono ?_; rintro ex w2 ⟨rfl, hw⟩; obtain rfl := hw.symm)
    | (go_at_call 18; refine (c18 _ (by assumption)).mono ?_; rintro ex w1 ⟨rfl, b1⟩; have hsz1 := b1.size; have HA := (fun ob : Obj => cells5 (HCELL.out (w1.alloc ob) (Below.alloc b1 (by simpa using hsz1) ob))); have s0 := fun ob => (HA ob).1; have s1 := fun ob => (HA ob).2.1; have s2 := fun ob => (HA ob).2.2.1; have s3 := fun ob => (HA ob).2.2.2.1; have s4 := fun ob => (HA ob).2.2.2.2; clear HA)
    | (go_at_call 19; refine (c19 _ (Below.alloc b1 (by simpa using hsz1) _)).mono ?_; rintro ex w3 ⟨rfl, b3⟩; obtain ⟨t0, t1, t2, t3, t4⟩ := cells5 (HCELL.out w3 b3)))
  all_goals
    go_wp2
    go_loopw [12, 13] (fun pl i wr => ∃ k : Nat, k ≤ S.size ∧ i = .int .i64 k ∧ pl = .bool (decide ((112 : UInt8) ∈ S.data.toList.take k)) ∧ wr = w3) (fun _ i _ => S.size - (intOf i).toNat)
    case atStart => exact ⟨0, by omega, rfl, by simp, rfl⟩
    case round =>
      obtain ⟨k, hk, rfl, rfl, rfl⟩ := hrel
      by_cases hlt : k < S.size
      · have hkl : k < S.data.toList.length := by simpa using hlt
        have hch : S.data.toList[k]'hkl = S[k]'hlt := by simp; rfl
        have hst : decide ((112 : UInt8) ∈ S.data.toList.take (k + 1)) = (decide ((112 : UInt8) ∈ S.data.toList.take k) || (((S[k]'hlt).toNat : Int) == 112)) := mem_step S k hlt
        obtain ⟨Z, hZ⟩ : ∃ Z, Z = decide ((112 : UInt8) ∈ S.data.toList.take k) := ⟨_, rfl⟩
        rw [← hZ] at hst ⊢
        have HST : Hid (decide ((112 : UInt8) ∈ S.data.toList.take (k + 1)) = (Z || (((S[k]'hlt).toNat : Int) == 112))) := hst
        clear hst hZ hch
        cases Z
        · go_wp2
          go_roundw
          case rel => exact ⟨k + 1, by omega, by go_num, by rw [HST.out]; simp, trivial⟩
          case measure => simp [intOf]; omega
        · go_wp2
          go_roundw
          case rel => exact ⟨k + 1, by omega, by go_num, by rw [HST.out]; simp, trivial⟩
          case measure => simp [intOf]; omega
      · have hkS : k = S.size := by omega
        subst hkS
        have hfull : S.data.toList.take S.size = S.data.toList := List.take_of_length_le (by simp)
        rw [hfull, ← HP.out]
        clear hfull
        go_wp2_with (first
          | (go_at_call 14; refine (c14 _ (by assumption)).mono ?_; rintro ex w5 ⟨rfl, b5⟩; obtain ⟨x0, x1, x2, x3, x4⟩ := cells5 (HCELL.out w5 b5))
          | (go_at_call 20; refine (c20 _ (by assumption)).mono ?_; rintro ex w6 ⟨rfl, b6⟩; obtain ⟨y0, y1, y2, y3, y4⟩ := cells5 (HCELL.out w6 b6)))
        all_goals
          go_ret
          refine ⟨?_, HBX.out.trans ((by assumption : Below (w.heap.size + 1) (box w o a b c n) _).mono (Nat.le_succ _))⟩
          first | rfl | (simp; done)

set_option maxHeartbeats 8000000 in
set_option maxRecDepth 100000 in
theorem ll_nn (o a b c n a0 b0 c0 n0 AT : Int) (ha : 0 ≤ a ∧ a < 256) (hb : 0 ≤ b ∧ b < 256) (hc : 0 ≤ c ∧ c < 256) (hn : -2147483648 ≤ n ∧ n ≤ 2147483647) (w : World) (NM S : ByteArray) (K LG P JB : Bool) (hS : S.size ≤ 3) (hP : P = decide ((112 : UInt8) ∈ S.data.toList))
    (c10 : ∀ w0, Below (w.heap.size + 1) (box w o a b c n) w0 → Calls Tryd.prog 10 #[.int .u8 o] w0 fun ex w' => ex = .returned (.tuple #[.string S, .bool K]) ∧ w' = w0)
    (c8 : ∀ w0, Below (w.heap.size + 1) (box w o a b c n) w0 → Calls Tryd.prog 8 #[.int .u8 o] w0 fun ex w' => ex = .returned (.tuple #[.string NM, .bool K]) ∧ w' = w0)
    (c18 : ∀ w0, Below (w.heap.size + 1) (box w o a b c n) w0 → Calls Tryd.prog 18 #[insV o a b c n, .string S] w0 fun ex w' => ex = .returned (insV o a0 b0 c0 n0) ∧ Below (w.heap.size + 1) (box w o a b c n) w')
    (c19 : ∀ w0, Below (w.heap.size + 1) (box w o a b c n) w0 → Calls Tryd.prog 19 #[insV o a b c n] w0 fun ex w' => ex = .returned (.tuple #[.int .i64 AT, .bool JB]) ∧ Below (w.heap.size + 1) (box w o a b c n) w')
    (c20 : ∀ w0, Below (w.heap.size + 1) (box w o a b c n) w0 → Calls Tryd.prog 20 #[insV o a b c n] w0 fun ex w' => ex = .returned (.bool LG) ∧ Below (w.heap.size + 1) (box w o a b c n) w')
    (c14 : ∀ w0, Below (w.heap.size + 1) (box w o a b c n) w0 → Calls Tryd.prog 14 #[] w0 fun ex w' => ex = .returned (.bool true) ∧ Below (w.heap.size + 1) (box w o a b c n) w')
    (hK : K = true) (hLG : LG = false) (hJB : JB = false) (hAT : AT = 0) (z1 : a0 = 0) (z2 : b0 = 0) (z3 : c0 = 0) (z4 : (n0 == 0) = false) :
    Calls Tryd.prog 6 #[insV o a b c n] w fun ex w' => ex = .returned (.bool true) ∧ Below w.heap.size w w' := by
  subst hK hLG hJB hAT z1 z2 z3
  have HBX : Hid (Below w.heap.size w (box w o a b c n)) := (Below.refl _ w).alloc (Nat.le_refl _) _
  have HCELL : Hid (∀ w0, Below (w.heap.size + 1) (box w o a b c n) w0 → w0.heap[w.heap.size]? = some (.cells #[.int .u8 o, .int .u8 a, .int .u8 b, .int .u8 c, .int .i32 n] 26)) := (fun w0 h => (h.block w.heap.size (by omega)).trans (heap_alloc_new w _))
  have HP : Hid (P = decide ((112 : UInt8) ∈ S.data.toList)) := hP
  have hb0 : Below (w.heap.size + 1) (box w o a b c n) (box w o a b c n) := Below.refl _ _
  obtain ⟨r0, r1, r2, r3, r4⟩ := cells5 (HCELL.out _ hb0)
  unfold insV at *
  clear hP
  go_enter Tryd.func6, Tryd.ntmps6
  go_upto_region 7 with (first
    | (go_at_call 10; refine (c10 _ (by assumption)).mono ?_; rintro ex w2 ⟨rfl, hw⟩; obtain rfl := hw.symm)
    | (go_at_call 8; refine (c8 _ (by assumption)).mono ?_; rintro ex w2 ⟨rfl, hw⟩; obtain rfl := hw.symm)
    | (go_at_call 18; refine (c18 _ (by assumption)).mono ?_; rintro ex w1 ⟨rfl, b1⟩; have hsz1 := b1.size; have HA := (fun ob : Obj => cells5 (HCELL.out (w1.alloc ob) (Below.alloc b1 (by simpa using hsz1) ob))); have s0 := fun ob => (HA ob).1; have s1 := fun ob => (HA ob).2.1; have s2 := fun ob => (HA ob).2.2.1; have s3 := fun ob => (HA ob).2.2.2.1; have s4 := fun ob => (HA ob).2.2.2.2; clear HA)
    | (go_at_call 19; refine (c19 _ (Below.alloc b1 (by simpa using hsz1) _)).mono ?_; rintro ex w3 ⟨rfl, b3⟩; obtain ⟨t0, t1, t2, t3, t4⟩ := cells5 (HCELL.out w3 b3)))
  all_goals
    go_wp2
    go_loopw [12, 13] (fun pl i wr => ∃ k : Nat, k ≤ S.size ∧ i = .int .i64 k ∧ pl = .bool (decide ((112 : UInt8) ∈ S.data.toList.take k)) ∧ wr = w3) (fun _ i _ => S.size - (intOf i).toNat)
    case atStart => exact ⟨0, by omega, rfl, by simp, rfl⟩
    case round =>
      obtain ⟨k, hk, rfl, rfl, rfl⟩ := hrel
      by_cases hlt : k < S.size
      · have hkl : k < S.data.toList.length := by simpa using hlt
        have hch : S.data.toList[k]'hkl = S[k]'hlt := by simp; rfl
        have hst : decide ((112 : UInt8) ∈ S.data.toList.take (k + 1)) = (decide ((112 : UInt8) ∈ S.data.toList.take k) || (((S[k]'hlt).toNat : Int) == 112)) := mem_step S k hlt
        obtain ⟨Z, hZ⟩ : ∃ Z, Z = decide ((112 : UInt8) ∈ S.data.toList.take k) := ⟨_, rfl⟩
        rw [← hZ] at hst ⊢
        have HST : Hid (decide ((112 : UInt8) ∈ S.data.toList.take (k + 1)) = (Z || (((S[k]'hlt).toNat : Int) == 112))) := hst
        clear hst hZ hch
        cases Z
        · go_wp2
          go_roundw
          case rel => exact ⟨k + 1, by omega, by go_num, by rw [HST.out]; simp, trivial⟩
          case measure => simp [intOf]; omega
        · go_wp2
          go_roundw
          case rel => exact ⟨k + 1, by omega, by go_num, by rw [HST.out]; simp, trivial⟩
          case measure => simp [intOf]; omega
      · have hkS : k = S.size := by omega
        subst hkS
        have hfull : S.data.toList.take S.size = S.data.toList := List.take_of_length_le (by simp)
        rw [hfull, ← HP.out]
        clear hfull
        go_wp2_with (first
          | (go_at_call 14; refine (c14 _ (by assumption)).mono ?_; rintro ex w5 ⟨rfl, b5⟩; obtain ⟨x0, x1, x2, x3, x4⟩ := cells5 (HCELL.out w5 b5))
          | (go_at_call 20; refine (c20 _ (by assumption)).mono ?_; rintro ex w6 ⟨rfl, b6⟩; obtain ⟨y0, y1, y2, y3, y4⟩ := cells5 (HCELL.out w6 b6)))
        all_goals
          go_ret
          refine ⟨?_, HBX.out.trans ((by assumption : Below (w.heap.size + 1) (box w o a b c n) _).mono (Nat.le_succ _))⟩
          first | rfl | (simp; done)

set_option maxHeartbeats 8000000 in
set_option maxRecDepth 100000 in
theorem ll_a16 (o a b c n a0 b0 c0 n0 AT : Int) (ha : 0 ≤ a ∧ a < 256) (hb : 0 ≤ b ∧ b < 256) (hc : 0 ≤ c ∧ c < 256) (hn : -2147483648 ≤ n ∧ n ≤ 2147483647) (w : World) (NM S : ByteArray) (K LG P JB : Bool) (hS : S.size ≤ 3) (hP : P = decide ((112 : UInt8) ∈ S.data.toList))
    (c10 : ∀ w0, Below (w.heap.size + 1) (box w o a b c n) w0 → Calls Tryd.prog 10 #[.int .u8 o] w0 fun ex w' => ex = .returned (.tuple #[.string S, .bool K]) ∧ w' = w0)
    (c8 : ∀ w0, Below (w.heap.size + 1) (box w o a b c n) w0 → Calls Tryd.prog 8 #[.int .u8 o] w0 fun ex w' => ex = .returned (.tuple #[.string NM, .bool K]) ∧ w' = w0)
    (c18 : ∀ w0, Below (w.heap.size + 1) (box w o a b c n) w0 → Calls Tryd.prog 18 #[insV o a b c n, .string S] w0 fun ex w' => ex = .returned (insV o a0 b0 c0 n0) ∧ Below (w.heap.size + 1) (box w o a b c n) w')
    (c19 : ∀ w0, Below (w.heap.size + 1) (box w o a b c n) w0 → Calls Tryd.prog 19 #[insV o a b c n] w0 fun ex w' => ex = .returned (.tuple #[.int .i64 AT, .bool JB]) ∧ Below (w.heap.size + 1) (box w o a b c n) w')
    (c20 : ∀ w0, Below (w.heap.size + 1) (box w o a b c n) w0 → Calls Tryd.prog 20 #[insV o a b c n] w0 fun ex w' => ex = .returned (.bool LG) ∧ Below (w.heap.size + 1) (box w o a b c n) w')
    (c14 : ∀ w0, Below (w.heap.size + 1) (box w o a b c n) w0 → Calls Tryd.prog 14 #[] w0 fun ex w' => ex = .returned (.bool true) ∧ Below (w.heap.size + 1) (box w o a b c n) w')
    (hK : K = true) (hLG : LG = false) (hJB : JB = false) (hAT : AT = 0) (z1 : a0 = 0) (z2 : b0 = 0) (z3 : c0 = 0) (z4 : n0 = 0) (h1 : 16 ≤ a) :
    Calls Tryd.prog 6 #[insV o a b c n] w fun ex w' => ex = .returned (.bool true) ∧ Below w.heap.size w w' := by
  subst hK hLG hJB hAT z1 z2 z3 z4
  have HBX : Hid (Below w.heap.size w (box w o a b c n)) := (Below.refl _ w).alloc (Nat.le_refl _) _
  have HCELL : Hid (∀ w0, Below (w.heap.size + 1) (box w o a b c n) w0 → w0.heap[w.heap.size]? = some (.cells #[.int .u8 o, .int .u8 a, .int .u8 b, .int .u8 c, .int .i32 n] 26)) := (fun w0 h => (h.block w.heap.size (by omega)).trans (heap_alloc_new w _))
  have HP : Hid (P = decide ((112 : UInt8) ∈ S.data.toList)) := hP
  have hb0 : Below (w.heap.size + 1) (box w o a b c n) (box w o a b c n) := Below.refl _ _
  obtain ⟨r0, r1, r2, r3, r4⟩ := cells5 (HCELL.out _ hb0)
  unfold insV at *
  clear hP
  go_enter Tryd.func6, Tryd.ntmps6
  go_upto_region 7 with (first
    | (go_at_call 10; refine (c10 _ (by assumption)).mono ?_; rintro ex w2 ⟨rfl, hw⟩; obtain rfl := hw.symm)
    | (go_at_call 8; refine (c8 _ (by assumption)).mono ?_; rintro ex w2 ⟨rfl, hw⟩; obtain rfl := hw.symm)
    | (go_at_call 18; refine (c18 _ (by assumption)).mono ?_; rintro ex w1 ⟨rfl, b1⟩; have hsz1 := b1.size; have HA := (fun ob : Obj => cells5 (HCELL.out (w1.alloc ob) (Below.alloc b1 (by simpa using hsz1) ob))); have s0 := fun ob => (HA ob).1; have s1 := fun ob => (HA ob).2.1; have s2 := fun ob => (HA ob).2.2.1; have s3 := fun ob => (HA ob).2.2.2.1; have s4 := fun ob => (HA ob).2.2.2.2; clear HA)
    | (go_at_call 19; refine (c19 _ (Below.alloc b1 (by simpa using hsz1) _)).mono ?_; rintro ex w3 ⟨rfl, b3⟩; obtain ⟨t0, t1, t2, t3, t4⟩ := cells5 (HCELL.out w3 b3)))
  all_goals
    go_wp2
    go_loopw [12, 13] (fun pl i wr => ∃ k : Nat, k ≤ S.size ∧ i = .int .i64 k ∧ pl = .bool (decide ((112 : UInt8) ∈ S.data.toList.take k)) ∧ wr = w3) (fun _ i _ => S.size - (intOf i).toNat)
    case atStart => exact ⟨0, by omega, rfl, by simp, rfl⟩
    case round =>
      obtain ⟨k, hk, rfl, rfl, rfl⟩ := hrel
      by_cases hlt : k < S.size
      · have hkl : k < S.data.toList.length := by simpa using hlt
        have hch : S.data.toList[k]'hkl = S[k]'hlt := by simp; rfl
        have hst : decide ((112 : UInt8) ∈ S.data.toList.take (k + 1)) = (decide ((112 : UInt8) ∈ S.data.toList.take k) || (((S[k]'hlt).toNat : Int) == 112)) := mem_step S k hlt
        obtain ⟨Z, hZ⟩ : ∃ Z, Z = decide ((112 : UInt8) ∈ S.data.toList.take k) := ⟨_, rfl⟩
        rw [← hZ] at hst ⊢
        have HST : Hid (decide ((112 : UInt8) ∈ S.data.toList.take (k + 1)) = (Z || (((S[k]'hlt).toNat : Int) == 112))) := hst
        clear hst hZ hch
        cases Z
        · go_wp2
          go_roundw
          case rel => exact ⟨k + 1, by omega, by go_num, by rw [HST.out]; simp, trivial⟩
          case measure => simp [intOf]; omega
        · go_wp2
          go_roundw
          case rel => exact ⟨k + 1, by omega, by go_num, by rw [HST.out]; simp, trivial⟩
          case measure => simp [intOf]; omega
      · have hkS : k = S.size := by omega
        subst hkS
        have hfull : S.data.toList.take S.size = S.data.toList := List.take_of_length_le (by simp)
        rw [hfull, ← HP.out]
        clear hfull
        go_wp2_with (first
          | (go_at_call 14; refine (c14 _ (by assumption)).mono ?_; rintro ex w5 ⟨rfl, b5⟩; obtain ⟨x0, x1, x2, x3, x4⟩ := cells5 (HCELL.out w5 b5))
          | (go_at_call 20; refine (c20 _ (by assumption)).mono ?_; rintro ex w6 ⟨rfl, b6⟩; obtain ⟨y0, y1, y2, y3, y4⟩ := cells5 (HCELL.out w6 b6)))
        all_goals
          go_ret
          refine ⟨?_, HBX.out.trans ((by assumption : Below (w.heap.size + 1) (box w o a b c n) _).mono (Nat.le_succ _))⟩
          first | rfl | (simp; done)

set_option maxHeartbeats 8000000 in
set_option maxRecDepth 100000 in
theorem ll_b16 (o a b c n a0 b0 c0 n0 AT : Int) (ha : 0 ≤ a ∧ a < 256) (hb : 0 ≤ b ∧ b < 256) (hc : 0 ≤ c ∧ c < 256) (hn : -2147483648 ≤ n ∧ n ≤ 2147483647) (w : World) (NM S : ByteArray) (K LG P JB : Bool) (hS : S.size ≤ 3) (hP : P = decide ((112 : UInt8) ∈ S.data.toList))
    (c10 : ∀ w0, Below (w.heap.size + 1) (box w o a b c n) w0 → Calls Tryd.prog 10 #[.int .u8 o] w0 fun ex w' => ex = .returned (.tuple #[.string S, .bool K]) ∧ w' = w0)
    (c8 : ∀ w0, Below (w.heap.size + 1) (box w o a b c n) w0 → Calls Tryd.prog 8 #[.int .u8 o] w0 fun ex w' => ex = .returned (.tuple #[.string NM, .bool K]) ∧ w' = w0)
    (c18 : ∀ w0, Below (w.heap.size + 1) (box w o a b c n) w0 → Calls Tryd.prog 18 #[insV o a b c n, .string S] w0 fun ex w' => ex = .returned (insV o a0 b0 c0 n0) ∧ Below (w.heap.size + 1) (box w o a b c n) w')
    (c19 : ∀ w0, Below (w.heap.size + 1) (box w o a b c n) w0 → Calls Tryd.prog 19 #[insV o a b c n] w0 fun ex w' => ex = .returned (.tuple #[.int .i64 AT, .bool JB]) ∧ Below (w.heap.size + 1) (box w o a b c n) w')
    (c20 : ∀ w0, Below (w.heap.size + 1) (box w o a b c n) w0 → Calls Tryd.prog 20 #[insV o a b c n] w0 fun ex w' => ex = .returned (.bool LG) ∧ Below (w.heap.size + 1) (box w o a b c n) w')
    (c14 : ∀ w0, Below (w.heap.size + 1) (box w o a b c n) w0 → Calls Tryd.prog 14 #[] w0 fun ex w' => ex = .returned (.bool true) ∧ Below (w.heap.size + 1) (box w o a b c n) w')
    (hK : K = true) (hLG : LG = false) (hJB : JB = false) (hAT : AT = 0) (z1 : a0 = 0) (z2 : b0 = 0) (z3 : c0 = 0) (z4 : n0 = 0) (h1 : a < 16) (h2 : 16 ≤ b) :
    Calls Tryd.prog 6 #[insV o a b c n] w fun ex w' => ex = .returned (.bool true) ∧ Below w.heap.size w w' := by
  subst hK hLG hJB hAT z1 z2 z3 z4
  have HBX : Hid (Below w.heap.size w (box w o a b c n)) := (Below.refl _ w).alloc (Nat.le_refl _) _
  have HCELL : Hid (∀ w0, Below (w.heap.size + 1) (box w o a b c n) w0 → w0.heap[w.heap.size]? = some (.cells #[.int .u8 o, .int .u8 a, .int .u8 b, .int .u8 c, .int .i32 n] 26)) := (fun w0 h => (h.block w.heap.size (by omega)).trans (heap_alloc_new w _))
  have HP : Hid (P = decide ((112 : UInt8) ∈ S.data.toList)) := hP
  have hb0 : Below (w.heap.size + 1) (box w o a b c n) (box w o a b c n) := Below.refl _ _
  obtain ⟨r0, r1, r2, r3, r4⟩ := cells5 (HCELL.out _ hb0)
  unfold insV at *
  clear hP
  go_enter Tryd.func6, Tryd.ntmps6
  go_upto_region 7 with (first
    | (go_at_call 10; refine (c10 _ (by assumption)).mono ?_; rintro ex w2 ⟨rfl, hw⟩; obtain rfl := hw.symm)
    | (go_at_call 8; refine (c8 _ (by assumption)).mono ?_; rintro ex w2 ⟨rfl, hw⟩; obtain rfl := hw.symm)
    | (go_at_call 18; refine (c18 _ (by assumption)).mono ?_; rintro ex w1 ⟨rfl, b1⟩; have hsz1 := b1.size; have HA := (fun ob : Obj => cells5 (HCELL.out (w1.alloc ob) (Below.alloc b1 (by simpa using hsz1) ob))); have s0 := fun ob => (HA ob).1; have s1 := fun ob => (HA ob).2.1; have s2 := fun ob => (HA ob).2.2.1; have s3 := fun ob => (HA ob).2.2.2.1; have s4 := fun ob => (HA ob).2.2.2.2; clear HA)
    | (go_at_call 19; refine (c19 _ (Below.alloc b1 (by simpa using hsz1) _)).mono ?_; rintro ex w3 ⟨rfl, b3⟩; obtain ⟨t0, t1, t2, t3, t4⟩ := cells5 (HCELL.out w3 b3)))
  all_goals
    go_wp2
    go_loopw [12, 13] (fun pl i wr => ∃ k : Nat, k ≤ S.size ∧ i = .int .i64 k ∧ pl = .bool (decide ((112 : UInt8) ∈ S.data.toList.take k)) ∧ wr = w3) (fun _ i _ => S.size - (intOf i).toNat)
    case atStart => exact ⟨0, by omega, rfl, by simp, rfl⟩
    case round =>
      obtain ⟨k, hk, rfl, rfl, rfl⟩ := hrel
      by_cases hlt : k < S.size
      · have hkl : k < S.data.toList.length := by simpa using hlt
        have hch : S.data.toList[k]'hkl = S[k]'hlt := by simp; rfl
        have hst : decide ((112 : UInt8) ∈ S.data.toList.take (k + 1)) = (decide ((112 : UInt8) ∈ S.data.toList.take k) || (((S[k]'hlt).toNat : Int) == 112)) := mem_step S k hlt
        obtain ⟨Z, hZ⟩ : ∃ Z, Z = decide ((112 : UInt8) ∈ S.data.toList.take k) := ⟨_, rfl⟩
        rw [← hZ] at hst ⊢
        have HST : Hid (decide ((112 : UInt8) ∈ S.data.toList.take (k + 1)) = (Z || (((S[k]'hlt).toNat : Int) == 112))) := hst
        clear hst hZ hch
        cases Z
        · go_wp2
          go_roundw
          case rel => exact ⟨k + 1, by omega, by go_num, by rw [HST.out]; simp, trivial⟩
          case measure => simp [intOf]; omega
        · go_wp2
          go_roundw
          case rel => exact ⟨k + 1, by omega, by go_num, by rw [HST.out]; simp, trivial⟩
          case measure => simp [intOf]; omega
      · have hkS : k = S.size := by omega
        subst hkS
        have hfull : S.data.toList.take S.size = S.data.toList := List.take_of_length_le (by simp)
        rw [hfull, ← HP.out]
        clear hfull
        go_wp2_with (first
          | (go_at_call 14; refine (c14 _ (by assumption)).mono ?_; rintro ex w5 ⟨rfl, b5⟩; obtain ⟨x0, x1, x2, x3, x4⟩ := cells5 (HCELL.out w5 b5))
          | (go_at_call 20; refine (c20 _ (by assumption)).mono ?_; rintro ex w6 ⟨rfl, b6⟩; obtain ⟨y0, y1, y2, y3, y4⟩ := cells5 (HCELL.out w6 b6)))
        all_goals
          go_ret
          refine ⟨?_, HBX.out.trans ((by assumption : Below (w.heap.size + 1) (box w o a b c n) _).mono (Nat.le_succ _))⟩
          first | rfl | (simp; done)

set_option maxHeartbeats 8000000 in
set_option maxRecDepth 100000 in
theorem ll_c16 (o a b c n a0 b0 c0 n0 AT : Int) (ha : 0 ≤ a ∧ a < 256) (hb : 0 ≤ b ∧ b < 256) (hc : 0 ≤ c ∧ c < 256) (hn : -2147483648 ≤ n ∧ n ≤ 2147483647) (w : World) (NM S : ByteArray) (K LG P JB : Bool) (hS : S.size ≤ 3) (hP : P = decide ((112 : UInt8) ∈ S.data.toList))
    (c10 : ∀ w0, Below (w.heap.size + 1) (box w o a b c n) w0 → Calls Tryd.prog 10 #[.int .u8 o] w0 fun ex w' => ex = .returned (.tuple #[.string S, .bool K]) ∧ w' = w0)
    (c8 : ∀ w0, Below (w.heap.size + 1) (box w o a b c n) w0 → Calls Tryd.prog 8 #[.int .u8 o] w0 fun ex w' => ex = .returned (.tuple #[.string NM, .bool K]) ∧ w' = w0)
    (c18 : ∀ w0, Below (w.heap.size + 1) (box w o a b c n) w0 → Calls Tryd.prog 18 #[insV o a b c n, .string S] w0 fun ex w' => ex = .returned (insV o a0 b0 c0 n0) ∧ Below (w.heap.size + 1) (box w o a b c n) w')
    (c19 : ∀ w0, Below (w.heap.size + 1) (box w o a b c n) w0 → Calls Tryd.prog 19 #[insV o a b c n] w0 fun ex w' => ex = .returned (.tuple #[.int .i64 AT, .bool JB]) ∧ Below (w.heap.size + 1) (box w o a b c n) w')
    (c20 : ∀ w0, Below (w.heap.size + 1) (box w o a b c n) w0 → Calls Tryd.prog 20 #[insV o a b c n] w0 fun ex w' => ex = .returned (.bool LG) ∧ Below (w.heap.size + 1) (box w o a b c n) w')
    (c14 : ∀ w0, Below (w.heap.size + 1) (box w o a b c n) w0 → Calls Tryd.prog 14 #[] w0 fun ex w' => ex = .returned (.bool true) ∧ Below (w.heap.size + 1) (box w o a b c n) w')
    (hK : K = true) (hLG : LG = false) (hJB : JB = false) (hAT : AT = 0) (z1 : a0 = 0) (z2 : b0 = 0) (z3 : c0 = 0) (z4 : n0 = 0) (h1 : a < 16) (h2 : b < 16) (h3 : 16 ≤ c) :
    Calls Tryd.prog 6 #[insV o a b c n] w fun ex w' => ex = .returned (.bool true) ∧ Below w.heap.size w w' := by
  subst hK hLG hJB hAT z1 z2 z3 z4
  have HBX : Hid (Below w.heap.size w (box w o a b c n)) := (Below.refl _ w).alloc (Nat.le_refl _) _
  have HCELL : Hid (∀ w0, Below (w.heap.size + 1) (box w o a b c n) w0 → w0.heap[w.heap.size]? = some (.cells #[.int .u8 o, .int .u8 a, .int .u8 b, .int .u8 c, .int .i32 n] 26)) := (fun w0 h => (h.block w.heap.size (by omega)).trans (heap_alloc_new w _))
  have HP : Hid (P = decide ((112 : UInt8) ∈ S.data.toList)) := hP
  have hb0 : Below (w.heap.size + 1) (box w o a b c n) (box w o a b c n) := Below.refl _ _
  obtain ⟨r0, r1, r2, r3, r4⟩ := cells5 (HCELL.out _ hb0)
  unfold insV at *
  clear hP
  go_enter Tryd.func6, Tryd.ntmps6
  go_upto_region 7 with (first
    | (go_at_call 10; refine (c10 _ (by assumption)).mono ?_; rintro ex w2 ⟨rfl, hw⟩; obtain rfl := hw.symm)
    | (go_at_call 8; refine (c8 _ (by assumption)).mono ?_; rintro ex w2 ⟨rfl, hw⟩; obtain rfl := hw.symm)
    | (go_at_call 18; refine (c18 _ (by assumption)).mono ?_; rintro ex w1 ⟨rfl, b1⟩; have hsz1 := b1.size; have HA := (fun ob : Obj => cells5 (HCELL.out (w1.alloc ob) (Below.alloc b1 (by simpa using hsz1) ob))); have s0 := fun ob => (HA ob).1; have s1 := fun ob => (HA ob).2.1; have s2 := fun ob => (HA ob).2.2.1; have s3 := fun ob => (HA ob).2.2.2.1; have s4 := fun ob => (HA ob).2.2.2.2; clear HA)
    | (go_at_call 19; refine (c19 _ (Below.alloc b1 (by simpa using hsz1) _)).mono ?_; rintro ex w3 ⟨rfl, b3⟩; obtain ⟨t0, t1, t2, t3, t4⟩ := cells5 (HCELL.out w3 b3)))
  all_goals
    go_wp2
    go_loopw [12, 13] (fun pl i wr => ∃ k : Nat, k ≤ S.size ∧ i = .int .i64 k ∧ pl = .bool (decide ((112 : UInt8) ∈ S.data.toList.take k)) ∧ wr = w3) (fun _ i _ => S.size - (intOf i).toNat)
    case atStart => exact ⟨0, by omega, rfl, by simp, rfl⟩
    case round =>
      obtain ⟨k, hk, rfl, rfl, rfl⟩ := hrel
      by_cases hlt : k < S.size
      · have hkl : k < S.data.toList.length := by simpa using hlt
        have hch : S.data.toList[k]'hkl = S[k]'hlt := by simp; rfl
        have hst : decide ((112 : UInt8) ∈ S.data.toList.take (k + 1)) = (decide ((112 : UInt8) ∈ S.data.toList.take k) || (((S[k]'hlt).toNat : Int) == 112)) := mem_step S k hlt
        obtain ⟨Z, hZ⟩ : ∃ Z, Z = decide ((112 : UInt8) ∈ S.data.toList.take k) := ⟨_, rfl⟩
        rw [← hZ] at hst ⊢
        have HST : Hid (decide ((112 : UInt8) ∈ S.data.toList.take (k + 1)) = (Z || (((S[k]'hlt).toNat : Int) == 112))) := hst
        clear hst hZ hch
        cases Z
        · go_wp2
          go_roundw
          case rel => exact ⟨k + 1, by omega, by go_num, by rw [HST.out]; simp, trivial⟩
          case measure => simp [intOf]; omega
        · go_wp2
          go_roundw
          case rel => exact ⟨k + 1, by omega, by go_num, by rw [HST.out]; simp, trivial⟩
          case measure => simp [intOf]; omega
      · have hkS : k = S.size := by omega
        subst hkS
        have hfull : S.data.toList.take S.size = S.data.toList := List.take_of_length_le (by simp)
        rw [hfull, ← HP.out]
        clear hfull
        go_wp2_with (first
          | (go_at_call 14; refine (c14 _ (by assumption)).mono ?_; rintro ex w5 ⟨rfl, b5⟩; obtain ⟨x0, x1, x2, x3, x4⟩ := cells5 (HCELL.out w5 b5))
          | (go_at_call 20; refine (c20 _ (by assumption)).mono ?_; rintro ex w6 ⟨rfl, b6⟩; obtain ⟨y0, y1, y2, y3, y4⟩ := cells5 (HCELL.out w6 b6)))
        all_goals
          go_ret
          refine ⟨?_, HBX.out.trans ((by assumption : Below (w.heap.size + 1) (box w o a b c n) _).mono (Nat.le_succ _))⟩
          first | rfl | (simp; done)


end Go.Proofs.YtkmhpbjegkhabaaDoor
