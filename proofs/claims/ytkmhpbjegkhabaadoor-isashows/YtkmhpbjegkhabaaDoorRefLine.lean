/-
  Show: the document's.
-/
import Derived.Test.YtkmhpbjegkhabaaDoorRefShow
import Derived.Test.YtkmhpbjegkhabaaDoorKnown
import Derived.Deep.RegionWith
namespace Go.Proofs.YtkmhpbjegkhabaaDoor
open Go.RowKit
set_option linter.unusedVariables false

def upto (NM S : ByteArray) (a b c n : Int) (k : Nat) : ByteArray := ⟨(NM.data.toList ++ tail a b c n (S.data.toList.take k)).toArray⟩
theorem upto_step (NM S : ByteArray) (a b c n : Int) (k : Nat) (hk : k < S.size) (E : ByteArray) (hE : E = ⟨(opd a b c n (S[k]'hk)).toArray⟩) : upto NM S a b c n (k + 1) = upto NM S a b c n k ++ ⟨#[32]⟩ ++ E := by
  have hkl : k < S.data.toList.length := by simpa using hk
  have hch : S.data.toList[k]'hkl = S[k]'hk := by simp; rfl
  unfold upto
  rw [tail_step a b c n S.data.toList k hkl, hch, hE]
  apply ByteArray.ext
  rw [ByteArray.data_append, ByteArray.data_append]
  simp

set_option maxHeartbeats 8000000 in
set_option maxRecDepth 100000 in
theorem refShow_yes (o a b c n : Int) (k0 : Nat) (hok : o = (k0 : Int) + 1) (hk0 : k0 < 27) (ha : 0 ≤ a ∧ a < 256) (hb : 0 ≤ b ∧ b < 256) (hc : 0 ≤ c ∧ c < 256) (hn : -2147483648 ≤ n ∧ n ≤ 2147483647) (w : World) (NM S : ByteArray) (hNM : NM = nmB (k0 + 1)) (hS : S = shB (k0 + 1))
    (c24 : Calls Tryd.prog 24 #[insV o a b c n] (box w o a b c n) fun ex w' => ex = .returned (.bool true) ∧ Below (w.heap.size + 1) (box w o a b c n) w') :
    Calls Tryd.prog 22 #[insV o a b c n] w fun ex w' => ex = .returned (.tuple #[.string (upto NM S a b c n S.size), .bool true]) ∧ Below w.heap.size w w' := by
  have HCELL : Hid (∀ w0, Below (w.heap.size + 1) (box w o a b c n) w0 → w0.heap[w.heap.size]? = some (.cells #[.int .u8 o, .int .u8 a, .int .u8 b, .int .u8 c, .int .i32 n] 26)) := (fun w0 h => (h.block w.heap.size (by omega)).trans (heap_alloc_new w _))
  have HBX : Hid (Below w.heap.size w (box w o a b c n)) := (Below.refl _ w).alloc (Nat.le_refl _) _
  have c25 := fun (w0 : World) => table_drew names_any w0 (k0 + 1) (by omega) NM hNM
  have c26 := fun (w0 : World) => table_drew shapes_any w0 (k0 + 1) (by omega) S hS
  have hNs : NM.size ≤ 4 := by rw [hNM]; exact nmB_size k0 hk0
  have hSs : S.size ≤ 3 := by rw [hS]; exact shB_size k0 hk0
  have HLEN : Hid (∀ ch, (opd a b c n ch).length ≤ 22) := opd_len a b c n ha hb hc hn
  have c30 := fun (ch : UInt8) (w0 : World) (h : Below (w.heap.size + 1) (box w o a b c n) w0) => via (operand_any o a b c n ch ha hb hc hn w0) h (by simp)
  have HN0 : Hid (upto NM S a b c n 0 = NM) := (show upto NM S a b c n 0 = NM by unfold upto tail; simp)
  have hwk : IntKind.i64.wrap o = o := by rw [IntKind.wrap_i64]; omega
  have ho1 : 1 ≤ o := by omega
  have ho2 : o ≤ 27 := by omega
  have hto : o.toNat = k0 + 1 := by omega
  have HOK : Hid (o = (k0 : Int) + 1) := hok
  unfold insV at *
  clear hNM hS ha hb hc hn hok
  go_enter Tryd.func22, Tryd.ntmps22
  go_upto_region 3 with (go_at_call 24; refine c24.mono ?_; rintro ex w1 ⟨rfl, b1⟩; obtain ⟨r0, r1, r2, r3, r4⟩ := cells5 (HCELL.out w1 b1))
  have HB1 : Hid (Below (w.heap.size + 1) (box w o a b c n) w1) := b1
  have hsz1 : w.heap.size + 1 ≤ w1.heap.size := by have := b1.size; simpa using this
  clear b1 c24
  go_region_with (go_at_call 25; refine (c25 w1).mono ?_; rintro ex w3 ⟨rfl, b3, hc3⟩; have b13 := HB1.out.trans (b3.mono hsz1); obtain ⟨s0, s1, s2, s3, s4⟩ := cells5 (HCELL.out w3 b13); have HB3 : Hid (Below (w.heap.size + 1) (box w o a b c n) w3) := b13; have hsz3 := b3.size; clear b3 b13)
  all_goals
    go_wp2
    go_region_with (go_at_call 26; refine (c26 w3).mono ?_; rintro ex w5 ⟨rfl, b5, hc5⟩; have b15 := HB3.out.trans (b5.mono (Nat.le_trans hsz1 hsz3)); obtain ⟨t0, t1, t2, t3, t4⟩ := cells5 (HCELL.out w5 b15); have HB5 : Hid (Below (w.heap.size + 1) (box w o a b c n) w5) := b15; clear b5 b15)
    all_goals
      go_wp2
      go_loopw [4, 6] (fun l i wr => ∃ k : Nat, k ≤ S.size ∧ i = .int .i64 k ∧ l = .string (upto NM S a b c n k) ∧ (upto NM S a b c n k).size ≤ 4 + 23 * k ∧ Below (w.heap.size + 1) (box w o a b c n) wr) (fun _ i _ => S.size - (intOf i).toNat)
      case atStart => exact ⟨0, by omega, rfl, by rw [HN0.out], by rw [HN0.out]; omega, HB5.out⟩
      case round =>
        obtain ⟨k, hk, rfl, rfl, hlen, hbel⟩ := hrel
        obtain ⟨x0, x1, x2, x3, x4⟩ := cells5 (HCELL.out wr hbel)
        by_cases hlt : k < S.size
        · obtain ⟨E, hE⟩ : ∃ E : ByteArray, E = ⟨(opd a b c n (S[k]'hlt)).toArray⟩ := ⟨_, rfl⟩
          have hst := upto_step NM S a b c n k hlt E hE
          have cc := c30 (S[k]'hlt) wr.drew hbel.drew
          rw [← hE] at cc
          have hEs : E.size ≤ 22 := by rw [hE]; exact HLEN.out _
          obtain ⟨L, hL⟩ : ∃ L, L = upto NM S a b c n k := ⟨_, rfl⟩
          rw [← hL] at hst hlen ⊢
          have HST : Hid (upto NM S a b c n (k + 1) = L ++ ⟨#[32]⟩ ++ E) := hst
          clear hE hst hL hbel
          go_wp2
          go_region_with (go_at_call 30; refine cc.mono ?_; rintro ex w6 ⟨rfl, b6⟩)
          all_goals
            go_wp2
            go_roundw
            case rel =>
              refine ⟨k + 1, by omega, by go_num, by rw [HST.out], ?_, b6⟩
              rw [HST.out, ByteArray.size_append, ByteArray.size_append]
              have : (⟨#[32]⟩ : ByteArray).size = 1 := rfl
              omega
            case measure => simp [intOf]; omega
        · have hkS : k = S.size := by omega
          subst hkS
          have HBW : Hid (Below w.heap.size w wr) := HBX.out.trans (hbel.mono (Nat.le_succ _))
          clear hbel
          go_wp2
          go_ret2
          exact ⟨rfl, HBW.out⟩

end Go.Proofs.YtkmhpbjegkhabaaDoor
