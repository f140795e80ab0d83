/-
  The document's: has, register, Decimal, operand.
-/
import Derived.Test.YtkmhpbjegkhabaaDoorShow
import Derived.Laws.IdiomStrings
namespace Go.Proofs.YtkmhpbjegkhabaaDoor
open Go.RowKit
set_option linter.unusedVariables false

theorem mem_step2 (S : ByteArray) (x : UInt8) (k : Nat) (hlt : k < S.size) : decide (x ∈ S.data.toList.take (k + 1)) = (decide (x ∈ S.data.toList.take k) || decide ((S[k]'hlt).toNat = x.toNat)) := by
  have hkl : k < S.data.toList.length := by simpa using hlt
  have hch : S.data.toList[k]'hkl = S[k]'hlt := by simp; rfl
  rw [List.take_add_one, List.getElem?_eq_getElem hkl, hch]
  have e : decide ((S[k]'hlt).toNat = x.toNat) = decide (x = S[k]'hlt) := by
    by_cases h : x = S[k]'hlt
    · simp [h]
    · have : ¬ (S[k]'hlt).toNat = x.toNat := fun e => h (UInt8.toNat_inj.1 e).symm
      simp [h, this]
  rw [e]
  simp

set_option maxHeartbeats 4000000 in
theorem has_any (S : ByteArray) (x : UInt8) (hm : S.size < 1000) (w : World) :
    Calls Tryd.prog 31 #[.string S, .int .u8 (x.toNat : Int)] w fun ex w' => ex = .returned (.bool (decide (x ∈ S.data.toList))) ∧ w' = w := by
  go_enter Tryd.func31, Tryd.ntmps31
  go_wp2
  go_loopw [5] (fun i wr => ∃ k : Nat, k ≤ S.size ∧ i = .int .i64 k ∧ decide (x ∈ S.data.toList.take k) = false ∧ wr = w) (fun i _ => S.size - (intOf i).toNat)
  case atStart => exact ⟨0, by omega, rfl, by simp, rfl⟩
  case round =>
    obtain ⟨k, hk, rfl, hno, rfl⟩ := hrel
    by_cases hlt : k < S.size
    · have hst := mem_step2 S x k hlt
      rw [hno, Bool.false_or] at hst
      have HST : Hid (decide (x ∈ S.data.toList.take (k + 1)) = decide ((S[k]'hlt).toNat = x.toNat)) := hst
      clear hno hst
      by_cases he : (S[k]'hlt).toNat = x.toNat
      · have hin : decide (x ∈ S.data.toList) = true := by
          have := HST.out
          rw [decide_eq_true he] at this
          exact decide_eq_true (List.mem_of_mem_take (of_decide_eq_true this))
        have HIN : Hid (decide (x ∈ S.data.toList) = true) := hin
        clear hin
        have h1 : ((((S[k]'hlt).toNat : Int)) == (x.toNat : Int)) = true := by simp; omega
        go_wp2
        go_ret
        exact ⟨by rw [HIN.out]; rfl, rfl⟩
      · have h1 : ((((S[k]'hlt).toNat : Int)) == (x.toNat : Int)) = false := by simp; omega
        have HE : Hid (¬ (S[k]'hlt).toNat = x.toNat) := he
        clear he
        go_wp2
        go_roundw
        case rel => exact ⟨k + 1, by omega, by go_num, by rw [HST.out]; exact decide_eq_false HE.out, trivial⟩
        case measure => simp [intOf]; omega
    · have hkS : k = S.size := by omega
      subst hkS
      have hfull : S.data.toList.take S.size = S.data.toList := List.take_of_length_le (by simp)
      rw [hfull] at hno
      have HNO : Hid (decide (x ∈ S.data.toList) = false) := hno
      clear hno hfull
      go_wp2
      go_ret
      exact ⟨by rw [HNO.out]; rfl, rfl⟩

theorem refReg_any (r : Int) (hr : 0 ≤ r ∧ r < 256) (N : Bool) (w : World) :
    Calls Tryd.prog 32 #[.int .u8 r, .bool N] w fun ex w' => ex = .returned (.bool (decide (if N = true then r < 16 else r = 0))) ∧ w' = w := by
  obtain ⟨h1, h2⟩ := hr
  cases N
  · go_enter Tryd.func32, Tryd.ntmps32
    go_wp2
    go_ret
    refine ⟨?_, rfl⟩
    by_cases h : r = 0 <;> simp [h]
  · go_enter Tryd.func32, Tryd.ntmps32
    go_wp2
    go_ret
    refine ⟨?_, rfl⟩
    simp
    omega

set_option maxHeartbeats 4000000 in
theorem decimal_nat : ∀ (u : Nat) (hu : u < 9223372036854775808) (w : World), Calls Tryd.prog 35 #[.int .i64 (u : Int)] w fun ex w' => ex = .returned (.string ⟨(Lib.decDigits u).toArray⟩) ∧ Below w.heap.size w w' := by
  intro u
  induction u using Nat.strongRecOn with
  | _ u ih =>
    intro hu w
    have d0 : 48 + u % 10 < 256 := by omega
    have hcv : (convert 49 9 (.slice (some ⟨w.heap.size, 0, none⟩) 1 1)).run Tryd.prog (w.alloc (.cells #[.int .u8 (48 + (u : Int) % 10)] 5)) = .ok (.string ⟨#[UInt8.ofNat (48 + u % 10)]⟩) (w.alloc (.cells #[.int .u8 (48 + (u : Int) % 10)] 5)) := by
      have := run_convert_bytes_back (P := Tryd.prog) (w.alloc (.cells #[.int .u8 (48 + (u : Int) % 10)] 5)) 49 9 5 ⟨w.heap.size, 0, none⟩ 1 [UInt8.ofNat (48 + u % 10)] Tryd.underlying49 Tryd.underlying5 Tryd.underlying9 (fun j hj => by
        have hj0 : j = 0 := by simp at hj; omega
        subst hj0
        rw [show ((⟨w.heap.size, 0, none⟩ : Addr).add 0) = ⟨w.heap.size, 0, none⟩ from rfl, World.cell?_alloc_mark]
        simp [UInt8.toNat_ofNat]
        omega)
      simpa using this
    have bw : Below w.heap.size w (w.alloc (.cells #[.int .u8 (48 + (u : Int) % 10)] 5)) := (Below.refl _ w).alloc (Nat.le_refl _) _
    obtain ⟨D, hD⟩ : ∃ D : ByteArray, D = ⟨#[UInt8.ofNat (48 + u % 10)]⟩ := ⟨_, rfl⟩
    rw [← hD] at hcv
    have HD : Hid (D = ⟨#[UInt8.ofNat (48 + u % 10)]⟩) := hD
    have hDs : D.size = 1 := by rw [hD]; rfl
    clear hD
    by_cases h : u < 10
    · have HE : Hid ((⟨(Lib.decDigits u).toArray⟩ : ByteArray) = D) := (show (⟨(Lib.decDigits u).toArray⟩ : ByteArray) = D by rw [Lib.decDigits_one h, HD.out, show u % 10 = u by omega])
      clear ih
      go_enter Tryd.func35, Tryd.ntmps35
      go_wp2
      go_ret
      refine ⟨?_, bw⟩
      rw [HE.out]
      rfl
    · have c := ih (u / 10) (by omega) (by omega) (w.alloc (.cells #[.int .u8 (48 + (u : Int) % 10)] 5))
      rw [Int.natCast_ediv] at c
      obtain ⟨E, hE⟩ : ∃ E : ByteArray, E = ⟨(Lib.decDigits (u / 10)).toArray⟩ := ⟨_, rfl⟩
      rw [← hE] at c
      have hlen : (Lib.decDigits (u / 10)).length ≤ 20 := by
        rw [Lib.decDigits_length]
        have := Lib.numDigits_eq (u / 10) (by omega) (by omega)
        split at this <;> omega
      have hEs : E.size ≤ 20 := by rw [hE]; exact hlen
      have HE : Hid (E = ⟨(Lib.decDigits (u / 10)).toArray⟩) := hE
      have HB : Hid (Below w.heap.size w (w.alloc (.cells #[.int .u8 (48 + (u : Int) % 10)] 5))) := bw
      have HU : Hid (Lib.decDigits u = Lib.decDigits (u / 10) ++ [UInt8.ofNat (48 + u % 10)]) := (show Lib.decDigits u = Lib.decDigits (u / 10) ++ [UInt8.ofNat (48 + u % 10)] by rw [Lib.decDigits, dif_neg h])
      clear ih hE hlen bw
      go_enter Tryd.func35, Tryd.ntmps35
      go_wp2_with (go_at_call 35; refine c.mono ?_; rintro ex w2 ⟨rfl, b2⟩)
      go_ret
      refine ⟨?_, HB.out.trans (b2.mono (by simp))⟩
      have e : (⟨(Lib.decDigits u).toArray⟩ : ByteArray) = E ++ D := by
        apply ByteArray.ext
        rw [ByteArray.data_append, HU.out, HE.out, HD.out]
        simp
      rw [e]
      rfl

theorem itoa_len (n : Int) (hn : -9223372036854775808 < n ∧ n ≤ 9223372036854775807) : (Lib.itoa n).length ≤ 21 := Lib.itoa_length_le n (by omega) (by omega)

set_option maxHeartbeats 4000000 in
theorem decimal_any (n : Int) (hn : -9223372036854775808 < n ∧ n ≤ 9223372036854775807) (w : World) : Calls Tryd.prog 35 #[.int .i64 n] w fun ex w' => ex = .returned (.string ⟨(Lib.itoa n).toArray⟩) ∧ Below w.heap.size w w' := by
  by_cases h : n < 0
  · obtain ⟨u, rfl⟩ : ∃ u : Nat, n = -(u : Int) := ⟨n.natAbs, by omega⟩
    have hu1 : 1 ≤ u := by omega
    have c := decimal_nat u (by omega) w
    have hil := itoa_len (-(u : Int)) hn
    rw [Lib.itoa_neg u hu1] at hil
    obtain ⟨E, hE⟩ : ∃ E : ByteArray, E = ⟨(Lib.decDigits u).toArray⟩ := ⟨_, rfl⟩
    rw [← hE] at c
    have hEs : E.size ≤ 20 := by rw [hE]; simp at hil; simpa [ByteArray.size] using hil
    have HE : Hid (E = ⟨(Lib.decDigits u).toArray⟩) := hE
    have HI : Hid (Lib.itoa (-(u : Int)) = 45 :: Lib.decDigits u) := Lib.itoa_neg u hu1
    have hw : wrap64 (-(-(u : Int))) = (u : Int) := by unfold wrap64; omega
    have hw2 : - -(u : Int) = (u : Int) := by omega
    clear hE hil
    go_enter Tryd.func35, Tryd.ntmps35
    go_wp2_with (go_at_call 35; refine c.mono ?_; rintro ex w2 ⟨rfl, b2⟩)
    go_ret
    refine ⟨?_, b2⟩
    have e : (⟨(Lib.itoa (-(u : Int))).toArray⟩ : ByteArray) = (⟨#[45]⟩ : ByteArray) ++ E := by
      apply ByteArray.ext
      rw [ByteArray.data_append, HI.out, HE.out]
      simp
    rw [e]
    rfl
  · obtain ⟨u, rfl⟩ : ∃ u : Nat, n = (u : Int) := ⟨n.toNat, by omega⟩
    rw [Lib.itoa_nonneg]
    exact decimal_nat u (by omega) w

set_option maxHeartbeats 4000000 in
theorem operand_any (o a b c n : Int) (ch : UInt8) (ha : 0 ≤ a ∧ a < 256) (hb : 0 ≤ b ∧ b < 256) (hc : 0 ≤ c ∧ c < 256) (hn : -2147483648 ≤ n ∧ n ≤ 2147483647) (w : World) :
    Calls Tryd.prog 30 #[insV o a b c n, .int .u8 (ch.toNat : Int)] w fun ex w' => ex = .returned (.string ⟨(opd a b c n ch).toArray⟩) ∧ Below w.heap.size w w' := by
  have hbx : Below w.heap.size w (box w o a b c n) := (Below.refl _ w).alloc (Nat.le_refl _) _
  have c35 := fun (x : Int) (hx : -2147483648 ≤ x ∧ x ≤ 2147483647) => via (decimal_any x (by omega) (box w o a b c n)) hbx (Nat.le_refl _)
  have add : ∀ E : ByteArray, ∀ l : List UInt8, E = ⟨l.toArray⟩ → (⟨(114 :: l).toArray⟩ : ByteArray) = (⟨#[114]⟩ : ByteArray) ++ E := fun E l h => by
    apply ByteArray.ext
    rw [ByteArray.data_append, h]
    simp
  have ne : ∀ m : UInt8, ch ≠ m → ch.toNat ≠ m.toNat := fun m h e => h (UInt8.toNat_inj.1 e)
  unfold insV at *
  by_cases h1 : ch = 97
  · subst h1
    have cc := c35 a (by omega)
    have hl := itoa_len a (by omega)
    obtain ⟨E, hE⟩ : ∃ E : ByteArray, E = ⟨(Lib.itoa a).toArray⟩ := ⟨_, rfl⟩
    rw [← hE] at cc
    have hEs : E.size ≤ 21 := by rw [hE]; exact hl
    have HA : Hid ((⟨(opd a b c n 97).toArray⟩ : ByteArray) = (⟨#[114]⟩ : ByteArray) ++ E) := add E _ hE
    have hch : ((97 : UInt8).toNat : Int) = 97 := rfl
    rw [hch]
    clear add ne hE hl c35 hch
    go_enter Tryd.func30, Tryd.ntmps30
    go_wp2_with (go_at_call 35; refine cc.mono ?_; rintro ex w2 ⟨rfl, b2⟩)
    go_ret
    exact ⟨by rw [HA.out]; rfl, b2⟩
  by_cases h2 : ch = 98
  · subst h2
    have cc := c35 b (by omega)
    have hl := itoa_len b (by omega)
    obtain ⟨E, hE⟩ : ∃ E : ByteArray, E = ⟨(Lib.itoa b).toArray⟩ := ⟨_, rfl⟩
    rw [← hE] at cc
    have hEs : E.size ≤ 21 := by rw [hE]; exact hl
    have HA : Hid ((⟨(opd a b c n 98).toArray⟩ : ByteArray) = (⟨#[114]⟩ : ByteArray) ++ E) := add E _ hE
    have hch : ((98 : UInt8).toNat : Int) = 98 := rfl
    rw [hch]
    clear add ne hE hl c35 hch h1
    go_enter Tryd.func30, Tryd.ntmps30
    go_wp2_with (go_at_call 35; refine cc.mono ?_; rintro ex w2 ⟨rfl, b2⟩)
    go_ret
    exact ⟨by rw [HA.out]; rfl, b2⟩
  by_cases h3 : ch = 99
  · subst h3
    have cc := c35 c (by omega)
    have hl := itoa_len c (by omega)
    obtain ⟨E, hE⟩ : ∃ E : ByteArray, E = ⟨(Lib.itoa c).toArray⟩ := ⟨_, rfl⟩
    rw [← hE] at cc
    have hEs : E.size ≤ 21 := by rw [hE]; exact hl
    have HA : Hid ((⟨(opd a b c n 99).toArray⟩ : ByteArray) = (⟨#[114]⟩ : ByteArray) ++ E) := add E _ hE
    have hch : ((99 : UInt8).toNat : Int) = 99 := rfl
    rw [hch]
    clear add ne hE hl c35 hch h1 h2
    go_enter Tryd.func30, Tryd.ntmps30
    go_wp2_with (go_at_call 35; refine cc.mono ?_; rintro ex w2 ⟨rfl, b2⟩)
    go_ret
    exact ⟨by rw [HA.out]; rfl, b2⟩
  · have cc := c35 n hn
    have ho : opd a b c n ch = Lib.itoa n := by unfold opd; rw [if_neg h1, if_neg h2, if_neg h3]
    have g1 : ch.toNat ≠ 97 := ne 97 h1
    have g2 : ch.toNat ≠ 98 := ne 98 h2
    have g3 : ch.toNat ≠ 99 := ne 99 h3
    have i1 : ((ch.toNat : Int) == 97) = false := by simp; omega
    have i2 : ((ch.toNat : Int) == 98) = false := by simp; omega
    have i3 : ((ch.toNat : Int) == 99) = false := by simp; omega
    rw [ho]
    clear add ne c35 h1 h2 h3 g1 g2 g3 ho
    go_enter Tryd.func30, Tryd.ntmps30
    go_wp2_with (go_at_call 35; refine cc.mono ?_; rintro ex w2 ⟨rfl, b2⟩)
    go_ret
    exact ⟨rfl, b2⟩

end Go.Proofs.YtkmhpbjegkhabaaDoor
