/-
  One text: RGo.
-/
import Derived.Test.YtnmhcnppdhdhfaaGreatDoorG06
namespace Go.Proofs.YtnmhcnppdhdhfaaGreatDoor
open Go.RowKit Rp
set_option linter.unusedVariables false
set_option linter.unusedSimpArgs false
set_option maxRecDepth 100000

theorem rem_le {A : Nat → Bool} {c T : Nat} : ∀ t, remn A (fun _ => c) T t ≤ c
  | 0 => Nat.le_refl _
  | t + 1 => by
    rw [remn]; split
    · exact Nat.le_refl _
    · have := rem_le (A := A) (c := c) (T := T) t; omega
theorem wrst_T {A : Nat → Bool} {C : Nat → Nat} {T : Nat} (hT : 0 < T) (E : Nat) : wrst A C T E ≤ T := wrst_le (fun t _ _ => by have := Nat.mod_lt t hT; omega)
theorem J.bounds {A : Nat → Bool} {now : Nat} {k : Wk} (h : J A now k) (hr : now < k.release) : k.released ≤ now ∧ k.worst ≤ k.T ∧ k.left ≤ k.C := by
  obtain ⟨q1, q2⟩ := h.ahead hr
  refine ⟨?_, by rw [h.wo]; exact wrst_T h.pT now, by rw [q1]; exact rem_le now⟩
  rcases h.rel with ⟨e, _⟩ | e <;> omega

theorem catchUp_yes {g N : Nat} {f : Nat → Wr} {i : Nat} (A : Nat → Bool) (now : Nat) (w : World) (h : Ln w g N f) (hi : i < N) (hJ : J A now (f i).k) (hnow : now ≤ 2199023255552) (hT : (f i).k.T ≤ 2199023255552) (hok : okE A (fun _ => (f i).k.C) (f i).k.T now) :
    Calls Tryz.prog 52 #[.pointer (some ⟨g, i * 11, none⟩), .int .i64 now] w fun e w' => ∃ k : Wk, e = .returned (.bool true) ∧ Cau A now now g N f i w w' true k :=
  (catchUp_any A now now (Nat.le_refl _) w h hi hJ hnow hT).mono (by
    rintro e w' ⟨b, k, rfl, hc⟩
    cases b with
    | true => exact ⟨k, rfl, hc⟩
    | false => exact absurd hok (hc.no rfl))
theorem catchUp_no {g N : Nat} {f : Nat → Wr} {i : Nat} (A : Nat → Bool) (now : Nat) (w : World) (h : Ln w g N f) (hi : i < N) (hJ : J A now (f i).k) (hnow : now ≤ 2199023255552) (hT : (f i).k.T ≤ 2199023255552) (hok : ¬ okE A (fun _ => (f i).k.C) (f i).k.T now) :
    Calls Tryz.prog 52 #[.pointer (some ⟨g, i * 11, none⟩), .int .i64 now] w fun e w' => ∃ k : Wk, e = .returned (.bool false) ∧ Cau A now now g N f i w w' false k :=
  (catchUp_any A now now (Nat.le_refl _) w h hi hJ hnow hT).mono (by
    rintro e w' ⟨b, k, rfl, hc⟩
    cases b with
    | false => exact ⟨k, rfl, hc⟩
    | true =>
      have := (hc.yes rfl).1.okd (hc.yes rfl).2
      rw [hc.eT, hc.eC] at this
      exact absurd this hok)
theorem at_at {f f' : Nat → Wr} {i : Nat} {k : Wk} (h : ∀ j, ∃ q, f' j = (f j).at q) (j : Nat) : ∃ q, upd f' i ((f' i).at k) j = (f j).at q := by
  unfold upd
  split
  · rename_i e
    subst e
    obtain ⟨q, e⟩ := h j
    exact ⟨k, by rw [e]; rfl⟩
  · exact h j

/-- what work answers -/
structure Wkd (o : Nat → Bool) (T C : Nat → Nat) (now below g N m : Nat) (f : Nat → Wr) (w w' : World) (m' now' : Nat) (f' : Nat → Wr) : Prop where
  ln : Ln w' g N f'
  kp : Kept (At g) w w'
  at' : ∀ j, ∃ k, f' j = (f j).at k
  lj : LJ o T C now' m' f'
  le : m' ≤ m
  n0 : now ≤ now'
  n1 : now' ≤ below
  prog : (m' < m ∧ now' = now) ∨ (m' = m ∧ now < now')
  rl : ∀ j, j < m' → (f' j).k.release = (f j).k.release ∨ (f' j).k.release ≤ now + T j
  no : m' < m → ¬ okE (lv o T C m') (fun _ => C m') (T m') now

set_option maxHeartbeats 8000000 in
theorem work_any {g N cap : Nat} {f : Nat → Wr} (o : Nat → Bool) (T C : Nat → Nat) (now below m : Nat) (w : World) (h : Ln w g N f) (hL : LJ o T C now m f) (hm : m ≤ N) (hmc : m ≤ cap) (hcm : cap ≤ 9223372036854775807) (hnb : now < below) (ho : ∀ u, now ≤ u → u < below → o u = true) (hb : below ≤ 2199023255552) (hT : ∀ i, T i ≤ 2199023255552) (hC : ∀ i, C i ≤ 2199023255552) :
    Calls Tryz.prog 32 #[.slice (some ⟨g, 0, none⟩) m cap, .int .i64 now, .int .i64 below] w fun e w' => ∃ (m' now' : Nat) (f' : Nat → Wr), e = .returned (.tuple #[.slice (some ⟨g, 0, none⟩) m' cap, .int .i64 now']) ∧ Wkd o T C now below g N m f w w' m' now' f' := by
  have HL0 : Hid (Ln w g N f ∧ LJ o T C now m f) := ⟨h, hL⟩
  have HO : Hid (∀ u, now ≤ u → u < below → o u = true) := ho
  have HT : Hid ((∀ i, T i ≤ 2199023255552) ∧ (∀ i, C i ≤ 2199023255552)) := ⟨hT, hC⟩
  clear h hL ho hT hC
  go_enter Tryz.func32, Tryz.ntmps32
  go_wp2
  go_loopw [2, 12] (fun bv x wr => ∃ (i bb : Nat) (f' : Nat → Wr), i ≤ m ∧ x = .int .i64 (i : Int) ∧ bv = .int .i64 (bb : Int) ∧ Ln wr g N f' ∧ Kept (At g) w wr ∧ Id o T C now below bb m i f f') (fun _ x _ => m - (intOf x).toNat)
  case atStart => exact ⟨0, below, f, by omega, rfl, rfl, HL0.out.1, Kept.refl _ _, ⟨HL0.out.2, fun j => ⟨(f j).k, rfl⟩, fun j hj => by omega, fun _ => .inl rfl, hnb, Nat.le_refl _⟩⟩
  case round =>
    obtain ⟨i, bb, f', hi, rfl, rfl, hln, K, hid'⟩ := hrel
    have HF : Hid (Ln wr g N f' ∧ Kept (At g) w wr ∧ Id o T C now below bb m i f f') := ⟨hln, K, hid'⟩
    clear hln K hid'
    by_cases hlt : i < m
    · have hiz : (i : Int) < (m : Int) := by omega
      have hmz : m ≤ 9223372036854775807 := by omega
      have hJ := HF.out.2.2.lj.j i hlt
      have eT := HF.out.2.2.lj.eT i
      have eC := HF.out.2.2.lj.eC i
      have HE : Hid ((f' i).k.T = T i ∧ (f' i).k.C = C i) := ⟨eT, eC⟩
      by_cases hok : okE (lv o T C i) (fun _ => C i) (T i) now
      · have cC := catchUp_yes (lv o T C i) now wr HF.out.1 (by omega) hJ (by omega) (by rw [eT]; exact HT.out.1 i) (by rw [eT, eC]; exact hok)
        clear hJ eT eC hok
        go_upto_region 7 with (go_at_call 52; refine cC.mono ?_; rintro e w2 ⟨k, rfl, hc⟩; have HC : Hid (Cau (lv o T C i) now now g N f' i wr w2 true k) := hc; clear hc cC)
        have hu : upd f' i ((f' i).at k) i = (f' i).at k := upd_at _ _ _
        have c7 := HC.out.ln.cells (show i < N by omega) 7 (by omega)
        have c9 := HC.out.ln.cells (show i < N by omega) 9 (by omega)
        rw [hu] at c7 c9
        simp only [cellv, Wr.at] at c7 c9
        have HJ : Hid (J (lv o T C i) now k ∧ now < k.release) := HC.out.yes rfl
        obtain ⟨b2, hb2⟩ : ∃ b2, min bb k.release = b2 := ⟨_, rfl⟩
        have hmin : (if k.release < bb then (k.release : Int) else (bb : Int)) = (b2 : Int) := by split <;> omega
        have HB : Hid (now < b2 ∧ b2 ≤ below ∧ b2 ≤ bb ∧ b2 ≤ k.release) := by
          have h1 := HF.out.2.2.b0
          have h2 := HF.out.2.2.b1
          have h3 := HJ.out.2
          show _ ∧ _ ∧ _ ∧ _
          omega
        -- the line with the i-th caught up
        have HI : Hid (Id o T C now below b2 m i f (upd f' i ((f' i).at k)) ∧ Ln w2 g N (upd f' i ((f' i).at k)) ∧ Kept (At g) w w2 ∨ True) := .inr trivial
        clear HI
        have HD : Hid (LJ o T C now m (upd f' i ((f' i).at k)) ∧ ∀ j, j < i → now < (upd f' i ((f' i).at k) j).k.release ∧ (upd f' i ((f' i).at k) j).k.left = 0 ∧ b2 ≤ (upd f' i ((f' i).at k) j).k.release) := by
          have hb := HB.out
          refine ⟨⟨fun j hj => ?_, fun j => ?_, fun j => ?_⟩, fun j hj => ?_⟩
          · unfold upd
            split
            · rename_i e; subst e; exact HJ.out.1
            · exact HF.out.2.2.lj.j j hj
          · unfold upd
            split
            · rename_i e; subst e; exact HC.out.eT.trans HE.out.1
            · exact HF.out.2.2.lj.eT j
          · unfold upd
            split
            · rename_i e; subst e; exact HC.out.eC.trans HE.out.2
            · exact HF.out.2.2.lj.eC j
          · have e : upd f' i ((f' i).at k) j = f' j := by unfold upd; rw [if_neg (by omega)]
            rw [e]
            obtain ⟨r1, r2, r3⟩ := HF.out.2.2.rel j hj
            exact ⟨r1, r2, by omega⟩
        have HRL : Hid (∀ j, (upd f' i ((f' i).at k) j).k.release = (f j).k.release ∨ (upd f' i ((f' i).at k) j).k.release ≤ now + T j) := by
          intro j
          unfold upd
          split
          · rename_i e
            subst e
            refine .inr ?_
            have := (HJ.out.1.ahead HJ.out.2).2
            rw [HC.out.eT, HE.out.1] at this
            exact this
          · exact HF.out.2.2.rl j
        clear hb2
        by_cases hl : 0 < k.left
        · have hlz : (k.left : Int) > 0 := by omega
          obtain ⟨t, ht⟩ : ∃ t, min k.left (b2 - now) = t := ⟨_, rfl⟩
          have hbd := J.bounds HJ.out.1 HJ.out.2
          have hkT : k.T ≤ 2199023255552 := by rw [HC.out.eT, HE.out.1]; exact HT.out.1 i
          have hkC : k.C ≤ 2199023255552 := by rw [HC.out.eC, HE.out.2]; exact HT.out.2 i
          have cW := workOn_any k now b2 t w2 HC.out.ln (by omega) HB.out.1 hl ht.symm hbd.1 (by have := HB.out.2.1; omega) (by omega) (by omega)
          have HTT : Hid (0 < t ∧ t ≤ k.left ∧ now + t ≤ b2) := by have := HB.out.1; show _ ∧ _ ∧ _; omega
          clear ht hbd hkT hkC
          go_wp2_with (go_at_call 53; refine cW.mono ?_; rintro e w3 ⟨rfl, hln3, k3⟩; have H3 : Hid (Ln w3 g N (upd f' i ((f' i).at (worked k now t))) ∧ Kept (At g) w2 w3) := ⟨hln3, k3⟩; clear hln3 k3 cW)
          go_ret2
          have hId : Id o T C now below b2 m i f (upd f' i ((f' i).at k)) := ⟨HD.out.1, at_at HF.out.2.2.at', HD.out.2, HRL.out, HB.out.1, HB.out.2.1⟩
          have e1 : (upd f' i ((f' i).at k) i) = (f' i).at k := upd_at _ _ _
          have hw := hId.works (t := t) hlt HO.out (by rw [e1]; exact HJ.out.2) HTT.out.1 (by rw [e1]; exact HTT.out.2.1) HTT.out.2.2 (by rw [e1]; show now + t ≤ k.release; have := HTT.out.2.2; have := HB.out.2.2.2; omega)
          rw [e1, upd_upd] at hw
          exact ⟨m, now + t, upd f' i ((f' i).at (worked k now t)), rfl, ⟨H3.out.1, (HF.out.2.1.trans HC.out.kp (fun _ h => .inl h)).trans H3.out.2 (fun _ h => .inl h), at_at HF.out.2.2.at', hw, Nat.le_refl _, by omega, by have := HTT.out.2.2; have := HB.out.2.1; omega, .inr ⟨rfl, by have := HTT.out.1; omega⟩, fun j _ => (by have := HRL.out j; unfold upd at this ⊢; split at this <;> rename_i e <;> simp only [e, if_true, if_false] at * <;> exact this), fun h => absurd h (Nat.lt_irrefl _)⟩⟩
        · have hlz : ¬ (k.left : Int) > 0 := by omega
          go_wp2
          go_roundw
          case rel =>
            refine ⟨i + 1, b2, upd f' i ((f' i).at k), by omega, by go_num, rfl, HC.out.ln, HF.out.2.1.trans HC.out.kp (fun _ h => .inl h), ⟨HD.out.1, at_at HF.out.2.2.at', fun j hj => ?_, HRL.out, HB.out.1, HB.out.2.1⟩⟩
            by_cases e : j = i
            · subst e
              rw [upd_at]
              exact ⟨HJ.out.2, by show k.left = 0; omega, HB.out.2.2.2⟩
            · exact HD.out.2 j (by omega)
          case measure => simp [intOf]; omega
      · have cC := catchUp_no (lv o T C i) now wr HF.out.1 (by omega) hJ (by omega) (by rw [eT]; exact HT.out.1 i) (by rw [eT, eC]; exact hok)
        have HN : Hid (¬ okE (lv o T C i) (fun _ => C i) (T i) now) := hok
        clear hJ eT eC hok
        have hic : i ≤ cap := by omega
        go_wp2_with (go_at_call 52; refine cC.mono ?_; rintro e w2 ⟨k, rfl, hc⟩; have HC : Hid (Cau (lv o T C i) now now g N f' i wr w2 false k) := hc; clear hc cC)
        go_ret2
        refine ⟨i, now, upd f' i ((f' i).at k), rfl, ⟨HC.out.ln, HF.out.2.1.trans HC.out.kp (fun _ h => .inl h), at_at HF.out.2.2.at', ⟨fun j hj => ?_, fun j => ?_, fun j => ?_⟩, by omega, Nat.le_refl _, by omega, .inl ⟨hlt, rfl⟩, fun j hj => (by unfold upd; rw [if_neg (by omega)]; exact HF.out.2.2.rl j), fun _ => HN.out⟩⟩
        · have e : upd f' i ((f' i).at k) j = f' j := by unfold upd; rw [if_neg (by omega)]
          rw [e]
          exact HF.out.2.2.lj.j j (by omega)
        · unfold upd
          split
          · rename_i e; subst e; exact HC.out.eT.trans HE.out.1
          · exact HF.out.2.2.lj.eT j
        · unfold upd
          split
          · rename_i e; subst e; exact HC.out.eC.trans HE.out.2
          · exact HF.out.2.2.lj.eC j
    · have hiz : ¬ (i : Int) < (m : Int) := by omega
      have him : i = m := by omega
      subst him
      go_wp2
      go_ret2
      exact ⟨i, bb, rfl, f', ⟨HF.out.1, HF.out.2.1, HF.out.2.2.at', HF.out.2.2.all, Nat.le_refl _, by have := HF.out.2.2.b0; omega, HF.out.2.2.b1, .inr ⟨rfl, HF.out.2.2.b0⟩, fun j _ => HF.out.2.2.rl j, fun h => absurd h (Nat.lt_irrefl _)⟩⟩
end Go.Proofs.YtnmhcnppdhdhfaaGreatDoor
