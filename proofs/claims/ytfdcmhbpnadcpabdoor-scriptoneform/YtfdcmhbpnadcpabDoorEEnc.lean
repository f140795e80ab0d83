/-
  script.Encode.
-/
import Derived.Test.YtfdcmhbpnadcpabDoorEPutL
namespace Go.Proofs.YtfdcmhbpnadcpabDoor
open Go.RowKit
set_option linter.unusedVariables false
set_option linter.unusedSimpArgs false
set_option maxRecDepth 100000

def encX (xs : List Inp) : List Nat := if encOk xs then sealed 3 (encB xs) else []
def encE (xs : List Inp) : Int := if encOk xs then 0 else 1
theorem encB_len (xs : List Inp) : (encB xs).length = 4 + (insB xs).length := by unfold encB; rw [List.length_append, be_length]
theorem pl_cases (xs : List Inp) : (plS [] xs = (encB xs, 0) ∧ xs.length ≤ 65536) ∨ ((plS [] xs).2 = 1 ∧ encOk xs = false) := by
  unfold plS
  by_cases h : 65536 < xs.length
  · rw [if_pos h]
    exact .inr ⟨rfl, by unfold encOk; rw [decide_eq_false (by omega)]; rfl⟩
  · rw [if_neg h, List.nil_append]
    rcases fold_tl xs (be xs.length 4) with h1 | ⟨h1, h2⟩
    · exact .inl ⟨h1, by omega⟩
    · refine .inr ⟨h1, ?_⟩
      rw [be_length] at h2
      unfold encOk
      rw [decide_eq_false (p := (encB xs).length ≤ 4194304) (by rw [encB_len]; omega), Bool.and_false]
theorem pl_len (xs : List Inp) : (plS [] xs).1.length ≤ 10000000 := by
  unfold plS
  by_cases h : 65536 < xs.length
  · rw [if_pos h]; simp
  · rw [if_neg h]
    have := fold_len xs ([] ++ be xs.length 4)
    rw [List.nil_append, be_length] at this
    rw [List.nil_append]
    omega
theorem enc_seal {xs : List Inp} (h : xs.length ≤ 65536) : sealE (encB xs) = encE xs ∧ sealX 3 (encB xs) = encX xs := by
  unfold sealE sealX encE encX encOk
  rw [decide_eq_true h, Bool.true_and]
  by_cases h2 : (encB xs).length ≤ 4194304
  · have h3 : ¬ 4194304 < (encB xs).length := by omega
    simp [h3, h2]
  · have h3 : 4194304 < (encB xs).length := by omega
    simp [h3, h2]
theorem enc_no {xs : List Inp} (h : encOk xs = false) : encE xs = 1 ∧ encX xs = [] := by
  unfold encE encX
  rw [h]
  simp
set_option maxHeartbeats 4000000 in
theorem encode_any (G : Nat → Prop) (a : Option Addr) (n c : Nat) (xs : List Inp) (w : World) (hZ : Il w G a n c xs) :
    Calls Tryd.prog 7 #[.slice a n c] w fun ex w' => ∃ a' n' c', ex = .returned (.tuple #[.slice a' n' c', .int .i64 (encE xs)]) ∧ w'.ownsRow w.heap.size 5 1 (.slice a' n' c') (encX xs).length ((encX xs).map bv) ∧ Kept No w w' := by
  have cN := newWriter_any w
  obtain ⟨F1, hw1, hF1, hb1⟩ := ws_new w
  obtain ⟨w1, e1⟩ : ∃ w1, w1 = w.alloc (.cells #[.slice none 0 0, .int .i64 0] 73) := ⟨_, rfl⟩
  rw [← e1] at cN hw1 hb1
  have K1 : Kept No w w1 := by rw [e1]; exact (Kept.refl No w).alloc _
  have cP := putList_N F1 (fun k => k < w.heap.size) w.heap.size [] a n c xs w1 hw1 (hZ.low.keep K1) (fun k hk => ⟨fun hf => by have := hF1 k hf; omega, Nat.lt_of_lt_of_le hk K1.size⟩) (by simp)
  have HH := hid (And.intro K1 hF1)
  clear hw1 hF1 hb1 K1 e1 hZ
  go_enter Tryd.func7, Tryd.ntmps7
  go_upto_region 2 with (go_at_call 18; refine cN.mono ?_; rintro ex w1' ⟨rfl, rfl⟩)
  go_upto_region 3 with (go_at_call 19; refine cP.mono ?_; rintro ex w2 ⟨rfl, hd⟩)
  obtain ⟨F2, hw2, hwe2⟩ := hd
  have K2 : Kept No w w2 := HH.out.1.trans hwe2.1 (fun k hk => .inr (HH.out.2 k hk))
  have cD := done_any F2 w.heap.size _ _ w2 hw2 (by have := pl_len xs; omega)
  have hF2 : ∀ k, F2 k → w.heap.size ≤ k := fun k hk => by
    rcases hwe2.2 k hk with h1 | h1
    · exact HH.out.2 k h1
    · have := HH.out.1.size; omega
  have hlt2 : ∀ y ∈ (plS [] xs).1, y < 256 := by obtain ⟨v, hv⟩ := hw2; exact hv.lt
  have H2 := hid (And.intro K2 (And.intro hF2 hlt2))
  clear hw2 hwe2 K2 hF2 cN cP hlt2
  rcases pl_cases xs with ⟨h1, h2⟩ | ⟨h1, h2⟩
  · rw [h1] at cD
    simp only [if_true] at cD
    go_upto_region 4 with (go_at_call 21; refine cD.mono ?_; rintro ex w3 ⟨ba, bn, bc, rfl, _, k3, o3⟩)
    obtain ⟨ba', bc', eb, hbs⟩ := Bs.of_owns o3 (by have := H2.out.2.2; rw [h1] at this; exact this)
    injection eb with eb1 eb2 eb3
    subst eb1 eb2 eb3
    have cS := seal_any _ 3 ba _ bc (encB xs) w3 (by decide) hbs
    have K3 := hid (H2.out.1.trans k3 (fun k hk => .inr (H2.out.2.1 k hk)))
    clear cD k3 o3 hbs
    go_wp2_with (go_at_call 22; refine cS.mono ?_; rintro ex w4 ⟨sa, sn, sc, rfl, o4, b4⟩)
    go_ret2
    have hq := enc_seal h2
    rw [hq.2] at o4
    refine ⟨sa, sn, sc, by rw [← hq.1]; rfl, owns_base o4 K3.out.size, K3.out.trans (Kept.of_below b4 (F := No)) (fun _ e => e.elim)⟩
  · rw [h1] at cD
    go_wp2_with (go_at_call 21; refine cD.mono ?_; rintro ex w3 ⟨ba, bn, bc, rfl, _, k3, o3⟩)
    go_ret2
    have hq := enc_no h2
    rw [hq.1, hq.2]
    exact ⟨none, 0, 0, rfl, World.ownsRow_nil _ _ _ _, H2.out.1.trans k3 (fun k hk => .inr (H2.out.2.1 k hk))⟩
end Go.Proofs.YtfdcmhbpnadcpabDoor
