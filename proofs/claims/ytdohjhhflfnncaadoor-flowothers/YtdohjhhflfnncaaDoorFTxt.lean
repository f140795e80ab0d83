/-
  Text.
-/
import Derived.Test.YtdohjhhflfnncaaDoorFBld
import Derived.Test.YtdohjhhflfnncaaDoorFRd
import Derived.Test.YtdohjhhflfnncaaDoorFOnw
namespace Go.Proofs.YtdohjhhflfnncaaDoor
open Go.RowKit
set_option linter.unusedVariables false
set_option maxRecDepth 100000

def let1 (z : Int) : UInt8 := LT.getD z.toNat 0
def lineT (W : List (List Nat)) (i : Nat) : List UInt8 := Lib.itoa ((i : Int) + 1) ++ [32] ++ (relL W i).map let1 ++ [10]
def txt (W : List (List Nat)) (j : Nat) : List UInt8 := (List.range j).flatMap (lineT W)
theorem txt_succ (W : List (List Nat)) (j : Nat) : txt W (j + 1) = txt W j ++ lineT W j := by
  unfold txt
  rw [List.range_succ, List.flatMap_append]; simp
theorem rl3_in {z : List Int} {xs : List Nat} (h : ∀ x ∈ z, 0 ≤ x ∧ x ≤ 3) : ∀ x ∈ rl3 z xs, 0 ≤ x ∧ x ≤ 3 := by
  induction xs generalizing z with
  | nil => exact h
  | cons y xs ih =>
    refine ih (z := z.set y 3) (fun x hx => ?_)
    rcases List.mem_or_eq_of_mem_set hx with h1 | h1
    · exact h x h1
    · omega
theorem relL_in (W : List (List Nat)) (i : Nat) : ∀ x ∈ relL W i, 0 ≤ x ∧ x ≤ 3 := by
  refine rl3_in (fun x hx => ?_)
  rcases List.mem_or_eq_of_mem_set hx with h1 | h1
  · unfold rl1 at h1
    obtain ⟨k, _, rfl⟩ := List.mem_map.1 h1
    split <;> omega
  · omega
theorem lineT_len (W : List (List Nat)) (i : Nat) (hi : (i : Int) + 1 ≤ 9223372036854775807) : (lineT W i).length ≤ W.length + 23 := by
  unfold lineT
  have := Lib.itoa_length_le ((i : Int) + 1) (by omega) hi
  simp [relL_len]
  omega
theorem txt_len (W : List (List Nat)) : ∀ j, j ≤ 1000000 → (txt W j).length ≤ j * (W.length + 23)
  | 0, _ => by simp [txt]
  | j + 1, h => by
    rw [txt_succ, List.length_append, Nat.succ_mul]
    have := txt_len W j (by omega)
    have := lineT_len W j (by omega)
    omega
theorem Bw.zr {B b : Nat} {w w' : World} {g : Nat} {zs : List Int} (h : Bw B b w w') (hz : Zr w g zs) (hg : g ≠ b) : Zr w' g zs :=
  h.2 g _ hz (fun e => hg (by injection e)) (fun c fz e => by injection e with _ e _; cases e)
theorem Bw.kept {B b : Nat} {w w' : World} (h : Bw B b w w') : Kept (fun k => B ≤ k) w w' := Kept.of_belowN h.1 (fun k h _ => h)

set_option maxHeartbeats 8000000 in
theorem text_any {F : Nat → Prop} {a0 a1 a2 : Option Addr} {n0 c0 n1 c1 n c : Nat} {ps : List Po} {L : List Ch} (w : World) (h : Rd w F a1 n1 c1 a2 n c n0 ps L) (en : En w) :
    Calls Tryd.prog 10 #[.agg #[.slice a0 n0 c0, .slice a1 n1 c1, .slice a2 n c]] w fun e w' => e = .returned (.string ⟨(txt (onw (edg n0 ps L) n0) n0).toArray⟩) ∧ Kept No w w' := by
  have k1 : Kept No w (w.alloc (.cells #[.slice a0 n0 c0, .slice a1 n1 c1, .slice a2 n c] 26)) := (Kept.refl No w).alloc _
  have hn0 := h.nn
  have h1 := h.kept k1 (fun _ _ h => h)
  have cO := onwards_any (a0 := a0) (n0 := n0) (c0 := c0) _ h1.qs h1.cs h1.ds h1.nn h1.ed
  obtain ⟨x0, x1, x2⟩ := three (alloc_new w (.cells #[.slice a0 n0 c0, .slice a1 n1 c1, .slice a2 n c] 26))
  have hE := edg_ok n0 ps L
  obtain ⟨W, hWe⟩ : ∃ W, W = onw (edg n0 ps L) n0 := ⟨_, rfl⟩
  rw [← hWe] at cO ⊢
  have HH : Hid (Wok W ∧ W.length = n0 ∧ Kept No w (w.alloc (.cells #[.slice a0 n0 c0, .slice a1 n1 c1, .slice a2 n c] 26)) ∧ En w) := ⟨by rw [hWe]; exact onw_ok hE, by rw [hWe]; exact onw_len _ _, k1, en⟩
  clear h h1 k1 hE hWe en
  obtain ⟨TX, hTX⟩ : ∃ TX, TX = txt W n0 := ⟨_, rfl⟩
  rw [← hTX]
  have HTX := hid hTX
  clear hTX
  go_enter Tryd.func10, Tryd.ntmps10
  go_upto_region 2 with (go_at_call 16; refine cO.mono ?_; rintro e w1 ⟨gw, G, rfl, hls, hG, k1⟩; have HW : Hid (Ls 1 elW w1 G (some ⟨gw, 0, none⟩) n0 n0 W ∧ Kept No w w1) := ⟨hls, HH.out.2.2.1.trans k1 (fun _ h => .inl h)⟩; clear hls hG k1 cO)
  clear x0 x1 x2
  have hbn := Bd.new w1
  have k2 : Kept No w1 (w1.alloc (.cells #[.pointer none, .slice none 0 0] 65)) := (Kept.refl No w1).alloc _
  have hs2 : (w1.alloc (.cells #[.pointer none, .slice none 0 0] 65)).heap.size = w1.heap.size + 1 := by simp
  obtain ⟨b, hb⟩ : ∃ b, w1.heap.size = b := ⟨_, rfl⟩
  have HB : Hid (Bd (w1.alloc (.cells #[.pointer none, .slice none 0 0] 65)) b b [] ∧ Kept No w1 (w1.alloc (.cells #[.pointer none, .slice none 0 0] 65)) ∧ w1.heap.size = b ∧ b < (w1.alloc (.cells #[.pointer none, .slice none 0 0] 65)).heap.size) := ⟨by rw [← hb]; exact hbn, k2, hb, by omega⟩
  clear hbn k2 hs2
  go_wp2
  clear hb
  generalize w1.alloc (.cells #[.pointer none, .slice none 0 0] 65) = w2 at *
  go_loopw [12] (fun y wr => ∃ j : Nat, y = .int .i64 j ∧ j ≤ n0 ∧ Bd wr b b (txt W j) ∧ Kept No w1 wr ∧ b < wr.heap.size) (fun y _ => n0 - (intOf y).toNat)
  case atStart => exact ⟨0, rfl, Nat.zero_le _, HB.out.1, HB.out.2.1, HB.out.2.2.2⟩
  case round =>
    obtain ⟨j, rfl, hj, hbd, hk, hbl⟩ := hrel
    by_cases hlt : j < n0
    · have hjz : (j : Int) < (n0 : Int) := by omega
      have hwr : wrap64 ((j : Int) + 1) = (j : Int) + 1 := by unfold wrap64; omega
      have hlen := txt_len W j (by omega)
      have hmul : j * (W.length + 23) ≤ 1000000 * 1000023 := Nat.mul_le_mul (by omega) (by have := HH.out.2.1; omega)
      have hit := Lib.itoa_length_le ((j : Int) + 1) (by omega) (by omega)
      have cI := itoa_any ((j : Int) + 1) (by omega) (by omega) wr (HH.out.2.2.2.keep (HW.out.2.trans hk (fun _ h => .inl h))).tab
      have HJ : Hid (Bd wr b b (txt W j) ∧ Kept No w1 wr ∧ b < wr.heap.size ∧ (txt W j).length ≤ 1000000 * 1000023 ∧ (Lib.itoa ((j : Int) + 1)).length ≤ 21) := ⟨hbd, hk, hbl, by omega, hit⟩
      clear hbd hk hbl hlen hmul hit
      obtain ⟨IT, hIT⟩ : ∃ IT, IT = Lib.itoa ((j : Int) + 1) := ⟨_, rfl⟩
      obtain ⟨TJ, hTJ⟩ : ∃ TJ, TJ = txt W j := ⟨_, rfl⟩
      rw [← hIT, ← hTJ] at HJ
      rw [← hIT] at cI
      have HN : Hid (IT = Lib.itoa ((j : Int) + 1) ∧ TJ = txt W j) := ⟨hIT, hTJ⟩
      clear hIT hTJ
      go_upto_region 8 with (first
        | (go_at_call 18; refine cI.mono ?_; rintro e w3 ⟨rfl, kk, os, hw3⟩; have k3 : Kept No wr w3 := by { rw [hw3]; exact grow_kept wr kk os }; have H3 : Hid (Bd w3 b b TJ ∧ Kept No w1 w3 ∧ b < w3.heap.size) := ⟨HJ.out.1.kept k3, HJ.out.2.1.trans k3 (fun _ h => .inl h), (by have := k3.size; have := HJ.out.2.2.1; omega)⟩; have cS := wstr_any IT H3.out.1 (by have := HJ.out.2.2.2; omega) (by have := H3.out.2.2; omega); clear hw3 k3 cI)
        | (go_at_call 17; refine cS.mono ?_; rintro e w4 ⟨⟨v4, rfl⟩, hb4, bw4⟩; have H4 : Hid (Bd w4 b b (TJ ++ IT) ∧ Kept No w1 w4 ∧ b < w4.heap.size) := ⟨hb4, H3.out.2.1.trans bw4.kept (fun k e => .inr (by have := HB.out.2.2.1; omega)), (by have := bw4.kept.size; have := H3.out.2.2; omega)⟩; have cB := wbyte_any 32 H4.out.1 (by have := HJ.out.2.2.2; simp; omega) (by have := H4.out.2.2; omega); rw [show ((32 : UInt8).toNat : Int) = 32 from rfl] at cB; clear hb4 bw4 cS)
        | (go_at_call 19; refine cB.mono ?_; rintro e w5 ⟨rfl, hb5, bw5⟩; have H5 : Hid (Bd w5 b b (TJ ++ IT ++ [32]) ∧ Kept No w1 w5 ∧ b < w5.heap.size) := ⟨hb5, H4.out.2.1.trans bw5.kept (fun k e => .inr (by have := HB.out.2.2.1; omega)), (by have := bw5.kept.size; have := H4.out.2.2; omega)⟩; clear hb5 bw5 cB))
      have cR := relations_any (i := j) w5 (HW.out.1.kept H5.out.2.1 (fun _ _ h => h) (elW_kept H5.out.2.1 (fun _ _ h => h))) HH.out.1 hn0 hlt
      obtain ⟨RL, hRL⟩ : ∃ RL, RL = relL W j := ⟨_, rfl⟩
      rw [← hRL] at cR
      have HRL : Hid (RL = relL W j ∧ RL.length = n0 ∧ (∀ x ∈ RL, 0 ≤ x ∧ x ≤ 3)) := ⟨hRL, by rw [hRL, relL_len]; exact HH.out.2.1, by rw [hRL]; exact relL_in _ _⟩
      clear hRL
      go_wp2_with (go_at_call 20; refine cR.mono ?_; rintro e w6 ⟨g, rfl, hg1, hg2, k6⟩; have H6 : Hid (Bd w6 b b (TJ ++ IT ++ [32] ++ (RL.take 0).map let1) ∧ Kept No w1 w6 ∧ b < w6.heap.size ∧ Zr w6 g RL ∧ g ≠ b) := ⟨by { rw [List.take_zero, List.map_nil, List.append_nil]; exact H5.out.1.kept k6 }, H5.out.2.1.trans k6 (fun _ h => .inl h), (by have := k6.size; have := H5.out.2.2; omega), hg2, (by have := H5.out.2.2; omega)⟩; clear hg1 hg2 k6 cR)
      go_loopw [24] (fun y wr => ∃ k : Nat, y = .int .i64 k ∧ k ≤ n0 ∧ Bd wr b b (TJ ++ IT ++ [32] ++ (RL.take k).map let1) ∧ Kept No w1 wr ∧ b < wr.heap.size ∧ Zr wr g RL) (fun y _ => n0 - (intOf y).toNat)
      case atStart => exact ⟨0, rfl, Nat.zero_le _, H6.out.1, H6.out.2.1, H6.out.2.2.1, H6.out.2.2.2.1⟩
      case round =>
        obtain ⟨k, rfl, hkn, hbd, hk, hbl, hz⟩ := hrel
        by_cases hkl : k < n0
        · have hkz : (k : Int) < (n0 : Int) := by omega
          have hzk := hz.cell (j := k) (by rw [HRL.out.2.1]; exact hkl)
          have hgk : RL[k]? = some (RL.getD k 0) := by simp [List.getD, show k < RL.length by rw [HRL.out.2.1]; exact hkl]
          have hin := HRL.out.2.2 _ (List.mem_of_getElem? hgk)
          obtain ⟨m, hm⟩ : ∃ m : Nat, RL.getD k 0 = (m : Int) := ⟨(RL.getD k 0).toNat, by omega⟩
          rw [hm] at hzk hgk hin
          have hm4 : m < 4 := by omega
          have hx : LT[m]? = some (let1 (m : Int)) := by unfold let1 LT; simp; match m, hm4 with | 0, _ => rfl | 1, _ => rfl | 2, _ => rfl | 3, _ => rfl
          have hlc := (HH.out.2.2.2.keep (HW.out.2.trans hk (fun _ h => .inl h))).kn m _ hx
          have hlen : (TJ ++ IT ++ [32] ++ (RL.take k).map let1).length + 1 ≤ 140737488355328 := by
            have := HJ.out.2.2.2
            simp
            omega
          have cB := wbyte_any (let1 (m : Int)) hbd hlen (by omega)
          have htk : (RL.take (k + 1)).map let1 = (RL.take k).map let1 ++ [let1 (m : Int)] := by rw [take_succ_get' hgk, List.map_append]; rfl
          have HK : Hid (Kept No w1 wr ∧ b < wr.heap.size ∧ Zr wr g RL ∧ (RL.take (k + 1)).map let1 = (RL.take k).map let1 ++ [let1 (m : Int)]) := ⟨hk, hbl, hz, htk⟩
          have hm4z : (m : Int) < 4 := by omega
          clear hk hbl hz htk hm hgk hin hx hbd hlen
          generalize let1 (m : Int) = XL at *
          go_wp2_with (go_at_call 19; refine cB.mono ?_; rintro e w7 ⟨rfl, hb7, bw7⟩; have H7 : Hid (Bd w7 b b (TJ ++ IT ++ [32] ++ (RL.take (k + 1)).map let1) ∧ Kept No w1 w7 ∧ b < w7.heap.size ∧ Zr w7 g RL) := ⟨by { rw [HK.out.2.2.2, ← List.append_assoc]; exact hb7 }, HK.out.1.trans bw7.kept (fun k e => .inr (by have := HB.out.2.2.1; omega)), (by have := bw7.kept.size; have := HK.out.2.1; omega), bw7.zr HK.out.2.2.1 H6.out.2.2.2.2⟩; clear hb7 bw7 cB)
          go_roundw
          case rel => exact ⟨k + 1, by go_num, by omega, H7.out.1, H7.out.2.1, H7.out.2.2.1, H7.out.2.2.2⟩
          case measure => simp [intOf]; omega
        · have hkz : ¬ (k : Int) < (n0 : Int) := by omega
          rw [List.take_of_length_le (by rw [HRL.out.2.1]; omega)] at hbd
          have hlen : (TJ ++ IT ++ [32] ++ RL.map let1).length + 1 ≤ 140737488355328 := by
            have := HJ.out.2.2.2
            have := HRL.out.2.1
            simp
            omega
          have cB := wbyte_any 10 hbd hlen (by omega)
          rw [show ((10 : UInt8).toNat : Int) = 10 from rfl] at cB
          have HK : Hid (Kept No w1 wr ∧ b < wr.heap.size) := ⟨hk, hbl⟩
          clear hk hbl hz hbd hlen
          go_wp2_with (go_at_call 19; refine cB.mono ?_; rintro e w7 ⟨rfl, hb7, bw7⟩; have H7 : Hid (Bd w7 b b (txt W (j + 1)) ∧ Kept No w1 w7 ∧ b < w7.heap.size) := ⟨by { rw [txt_succ, ← HN.out.2]; unfold lineT; rw [← HN.out.1, ← HRL.out.1, ← List.append_assoc, ← List.append_assoc, ← List.append_assoc]; exact hb7 }, HK.out.1.trans bw7.kept (fun k e => .inr (by have := HB.out.2.2.1; omega)), (by have := bw7.kept.size; have := HK.out.2; omega)⟩; clear hb7 bw7 cB)
          go_roundw
          case rel => exact ⟨j + 1, by go_num, by omega, H7.out.1, H7.out.2.1, H7.out.2.2⟩
          case measure => simp [intOf]; omega
    · have hje : j = n0 := by omega
      have hjz : ¬ (j : Int) < (n0 : Int) := by omega
      rw [hje, ← HTX.out] at hbd
      have cS := bstr_any hbd (by omega)
      have HK : Hid (Kept No w1 wr) := hk
      clear hk hbl hbd hje
      go_wp2_with (go_at_call 21; refine cS.mono ?_; rintro e w7 ⟨rfl, hb7⟩)
      go_ret
      refine ⟨rfl, (HW.out.2.trans HK.out (fun _ h => .inl h)).trans (Kept.of_belowN (F := fun k => b ≤ k) hb7 (fun k h _ => h)) (fun k e => .inr ?_)⟩
      have := HW.out.2.size
      have := HB.out.2.2.1
      omega
end Go.Proofs.YtdohjhhflfnncaaDoor
