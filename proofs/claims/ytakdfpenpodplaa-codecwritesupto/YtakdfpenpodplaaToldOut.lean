/-
  'told'.
-/
import Derived.Test.YtakdfpenpodplaaRefOut3
import Derived.Test.YtakdfpenpodplaaMarks2
namespace Go.Proofs.Ytakdfpenpodplaa
open Go.RowKit
set_option linter.unusedVariables false

theorem Ou.flt {w : World} {F : Nat → Prop} {p : Nat} {bs : List Nat} {e : Int} (h : Ou w F p bs e) : ∀ k, F k → k < w.heap.size := by obtain ⟨v, hv⟩ := h; exact hv.flt
theorem Ou.fp {w : World} {F : Nat → Prop} {p : Nat} {bs : List Nat} {e : Int} (h : Ou w F p bs e) : F p := by obtain ⟨v, hv⟩ := h; exact hv.fp
theorem Ou.lt {w : World} {F : Nat → Prop} {p : Nat} {bs : List Nat} {e : Int} (h : Ou w F p bs e) : ∀ x ∈ bs, x < 256 := by obtain ⟨v, hv⟩ := h; exact hv.lt
theorem Wr.flt' {w : World} {F : Nat → Prop} {p : Nat} {bs : List Nat} {e : Int} (h : Wr w F p bs e) : ∀ k, F k → k < w.heap.size := by obtain ⟨v, hv⟩ := h; exact hv.flt
theorem Wr.lt' {w : World} {F : Nat → Prop} {p : Nat} {bs : List Nat} {e : Int} (h : Wr w F p bs e) : ∀ x ∈ bs, x < 256 := by obtain ⟨v, hv⟩ := h; exact hv.lt

theorem own_bs' {w : World} {B : Nat} {a : Option Addr} {n c : Nat} {ys : List Nat} (h : w.ownsRow B 5 1 (.slice a n c) ys.length (ys.map bv)) (hlt : ∀ x ∈ ys, x < 256) : n = ys.length ∧ Bs w (fun j => (Value.slice a n c).ownBlock = some j) a n c ys := by
  obtain ⟨sa, sc, hv, hB⟩ := Bs.of_owns h hlt
  injection hv with e1 e2 e3
  subst e1 e3
  have hB' : Bs w (fun j => (Value.slice a n c).ownBlock = some j) a ys.length c ys := hB
  refine ⟨e2, ?_⟩
  rw [← e2] at hB'
  exact hB'

/-- what is told -/
def tlX (bs : List Nat) (e : Int) : List Nat := if e = 0 then bs else []
theorem tlX_le (bs : List Nat) (e : Int) : (tlX bs e).length ≤ bs.length := by unfold tlX; split <;> simp
theorem tlX_lt {bs : List Nat} (e : Int) (h : ∀ x ∈ bs, x < 256) : ∀ x ∈ tlX bs e, x < 256 := by
  unfold tlX
  split
  · exact h
  · intro x hx; cases hx

theorem OuV.told {w : World} {F : Nat → Prop} {p : Nat} {v : Value} {bs : List Nat} {e : Int} (h : OuV w F p v bs e) :
    ∃ va vn vc, (if e = 0 then v else .slice none 0 0) = .slice va vn vc ∧ Bs w F va vn vc (tlX bs e) := by
  unfold tlX
  by_cases he : e = 0
  · rw [if_pos he, if_pos he]
    obtain ⟨a, c, hv, hB⟩ := Bs.of_owns h.own h.lt
    exact ⟨a, _, c, hv, hB.mono (fun k hk => h.fv k hk)⟩
  · rw [if_neg he, if_neg he]
    exact ⟨none, 0, 0, rfl, rfl, by omega, by omega, fun _ => rfl, fun i hi => by omega, fun x hx => by cases hx⟩

set_option maxHeartbeats 4000000 in
set_option maxRecDepth 100000 in
theorem told_any (F G : Nat → Prop) (p q : Nat) (bs : List Nat) (e : Int) (w : World) (hW : Wr w F p bs e) (hO : Ou w G q bs e) (D : ∀ k, F k → ¬ G k) (hsz : bs.length ≤ 1000000000) :
    Calls Try.prog 44 #[.pointer (some ⟨p, 0, none⟩), .pointer (some ⟨q, 0, none⟩)] w fun ex w' => ex = .returned (.bool true) ∧ Wr w' F p bs e ∧ Ou w' G q bs e ∧ Kept F w w' := by
  have c34 := done_any F p bs e w hW (by omega)
  have HF : Hid (∀ k, F k → k < w.heap.size) := hW.flt'
  have HG : Hid (∀ k, G k → k < w.heap.size) := hO.flt
  have HLT : Hid (∀ x ∈ bs, x < 256) := hO.lt
  obtain ⟨v, hv⟩ := hO
  have HV : Hid (OuV w G q v bs e) := hv
  have HD : Hid (∀ k, F k → ¬ G k) := D
  clear hW hv D
  go_enter Try.func44, Try.ntmps44
  go_upto_region 2 with (go_at_call 34; refine c34.mono ?_; rintro ex w1 ⟨a1, n1, c1, rfl, hW1, k1, own1⟩)
  clear c34
  have HV1 : Hid (OuV w1 G q v bs e) := HV.out.kept k1 (fun b hb hf => HD.out b hf hb)
  have HW1 : Hid (Wr w1 F p bs e ∧ Kept F w w1) := ⟨hW1, k1⟩
  have O1 : Hid (w1.ownsRow w.heap.size 5 1 (.slice a1 n1 c1) (tlX bs e).length ((tlX bs e).map bv)) := own1
  have hn1 : n1 = (tlX bs e).length := by obtain ⟨_, _, hs⟩ := owns_shape own1; injection hs
  have HN1 : Hid (n1 = (tlX bs e).length) := hn1
  have c90 := doneOut_any G q v bs e w1 HV1.out
  obtain ⟨va, vn, vc, hva, hBv⟩ := HV1.out.told
  rw [hva] at c90
  have HBV : Hid (Bs w1 G va vn vc (tlX bs e)) := hBv
  obtain ⟨ba, bc, rfl⟩ := owns_shape HV1.out.own
  clear hW1 k1 own1 hn1 hBv hva HV
  go_upto_region 3 with (go_at_call 90; refine c90.mono ?_; rintro ex w2 ⟨rfl, nd, hw2⟩; have HWQ : Hid (w2 = w1.drewN nd) := hw2; clear hw2)
  clear c90
  have k12 : Kept No w1 w2 := by rw [HWQ.out]; exact (Kept.refl No w1).drewN nd
  have HV2 : Hid (OuV w2 G q (.slice ba bs.length bc) bs e) := HV1.out.kept k12 (fun _ _ h => h)
  have HW2 : Hid (Wr w2 F p bs e ∧ Kept F w w2) := ⟨HW1.out.1.kept k12 (fun _ _ h => h), HW1.out.2.trans k12 (fun _ h => h.elim)⟩
  have O2 : Hid (w2.ownsRow w.heap.size 5 1 (.slice a1 n1 c1) (tlX bs e).length ((tlX bs e).map bv)) := k12.owns O1.out (fun _ _ h => h)
  have HB2 : Hid (Bs w2 G va vn vc (tlX bs e)) := HBV.out.kept k12 (fun _ _ h => h)
  have d0 := HV2.out.c0
  have c12 : ∀ n, Calls Try.prog 12 #[.slice a1 n1 c1, .slice va vn vc] (w2.drewN n) fun ex w' => ex = .returned (.bool true) ∧ ∃ k, w' = (w2.drewN n).drewN k := by
    intro n
    have := same_any _ _ _ _ _ _ _ _ _ _ (w2.drewN n) ((own_bs' O2.out (tlX_lt e HLT.out)).2.drewN n) (HB2.out.drewN n)
    rw [decide_eq_true rfl] at this
    exact this
  have c36 : ∀ n, Calls Try.prog 36 #[.pointer (some ⟨p, 0, none⟩)] (w2.drewN n) fun ex w' => ex = .returned (.int .i64 bs.length) ∧ ∃ k, w' = (w2.drewN n).drewN k := by
    intro n
    refine (len_any F p bs e (w2.drewN n) (HW2.out.1.kept ((Kept.refl No w2).drewN n) (fun _ _ h => h))).mono ?_
    rintro ex w' ⟨rfl, rfl⟩
    exact ⟨rfl, 0, rfl⟩
  have c18 : ∀ n, Calls Try.prog 18 #[.slice a1 n1 c1] (w2.drewN n) fun ex w' => (∃ k, ex = .returned (.int .i64 k)) ∧ Kept (fun g => (Value.slice a1 n1 c1).ownBlock = some g) (w2.drewN n) w' := by
    intro n
    have ho := ((Kept.refl No w2).drewN n).owns O2.out (fun _ _ h => h)
    rw [← HN1.out] at ho
    exact let_any w.heap.size a1 n1 c1 (tlX bs e) (w2.drewN n) ho HN1.out.symm (by have := tlX_le bs e; have := HN1.out; omega)
  clear HWQ k12
  obtain ⟨L, hL⟩ : ∃ L, L = bs.length := ⟨_, rfl⟩
  rw [← hL] at d0 c36
  clear hL
  go_quiet ((first | (go_at_call 12; refine Calls.quiet_of (c12 _)) | (go_at_call 36; refine Calls.quiet_of (c36 _))))
  clear c12 c36
  go_upto_region 6 with (go_at_call 18; refine (c18 _).mono ?_; rintro ex w3 ⟨⟨r3, rfl⟩, kp3⟩)
  clear c18
  have k23 : Kept (fun k => (Value.slice a1 n1 c1).ownBlock = some k) w2 w3 := ((Kept.refl _ w2).drewN _).trans kp3 (fun k h => .inl h)
  have hW3 : Wr w3 F p bs e := HW2.out.1.kept k23 (fun k h1 h2 => by have := (O2.out.lt k h2).1; have := HF.out k h1; omega)
  have HV3 : Hid (OuV w3 G q (.slice ba bs.length bc) bs e) := HV2.out.kept k23 (fun k h1 h2 => by have := (O2.out.lt k h2).1; have := HG.out k h1; omega)
  have HB3 : Hid (Bs w3 G va vn vc (tlX bs e)) := HB2.out.kept k23 (fun k h1 h2 => by have := (O2.out.lt k h2).1; have := HG.out k h1; omega)
  have HK3 : Hid (Kept F w w3) := HW2.out.2.trans k23 (fun k h => .inr (O2.out.lt k h).1)
  have c34 := done_any F p bs e w3 hW3 (by omega)
  clear k23 kp3 hW3 d0
  go_upto_region 7 with (go_at_call 34; refine c34.mono ?_; rintro ex w4 ⟨a4, n4, c4, rfl, hW4, k4, own4⟩)
  clear c34
  have c12 := same_any _ _ _ _ _ _ _ _ _ _ w4 (own_bs' (ys := tlX bs e) own4 (tlX_lt e HLT.out)).2 (HB3.out.kept k4 (fun b hb hf => HD.out b hf hb))
  rw [decide_eq_true rfl] at c12
  have HE : Hid (Wr w4 F p bs e ∧ Ou w4 G q bs e ∧ Kept F w w4) := ⟨hW4, ⟨_, HV3.out.kept k4 (fun b hb hf => HD.out b hf hb)⟩, HK3.out.trans k4 (fun k h => .inl h)⟩
  clear hW4 k4 own4
  go_wp2_with (go_at_call 12; refine c12.mono ?_; rintro ex w5 ⟨rfl, n5, hw5⟩; have HW5 : Hid (w5 = w4.drewN n5) := hw5; clear hw5)
  go_ret
  have k45 : Kept No w4 w5 := by rw [HW5.out]; exact (Kept.refl No w4).drewN n5
  exact ⟨rfl, HE.out.1.kept k45 (fun _ _ h => h), HE.out.2.1.kept k45 (fun _ _ h => h), HE.out.2.2.trans k45 (fun _ h => h.elim)⟩

end Go.Proofs.Ytakdfpenpodplaa
