/-
  forced: whatever is reached is reached by steps.
-/
import Derived.Test.YtfhodojbbeniaaaDoorFDir
namespace Go.Proofs.YtfhodojbbeniaaaDoor
open Go.RowKit
set_option linter.unusedVariables false
set_option maxRecDepth 100000

theorem Sqm.at2 {w : World} {B g n : Nat} {V : Nat → Nat} {M : Nat → List Bool} (h : Sqm w B g n n V M) {j k : Nat} (hj : j < n) (hk : k < n) : w.cell? ⟨g, j, none⟩ = some (.slice (some ⟨V j, 0, none⟩) n n) ∧ w.cell? ⟨V j, k, none⟩ = some (.bool (isT (M j) k)) := by
  have h1 := h.cell hj
  rw [if_pos hj] at h1
  have h2 := h.row j hj
  exact ⟨h1, h2.1.cell (by rw [h2.2]; exact hk)⟩
theorem set_same {s : List Bool} {k : Nat} {b : Bool} (h : s[k]? = some b) : s.set k b = s := by
  apply List.ext_getElem?
  intro j
  rw [List.getElem?_set]
  by_cases e : k = j
  · subst e; simp [h]; exact (List.getElem?_eq_some_iff.1 h).1
  · simp [e]

def Clo (E : List (Nat × Nat)) (n : Nat) (s : List Bool) : Prop := ∀ a b, a < n → b < n → isT s a = true → nearB E a b = true → isT s b = true
/-- within a round: what has come at (j, k), from s0 on -/
structure Rn (E : List (Nat × Nat)) (n : Nat) (s0 s : List Bool) (j k : Nat) : Prop where
  len : s.length = n
  mono : ∀ x, isT s0 x = true → isT s x = true
  st : (s = s0 ∧ (∀ a b, a < j → b < n → isT s0 a = true → nearB E a b = true → isT s0 b = true) ∧ (∀ b, b < k → nearB E j b = true → isT s0 j = true → isT s0 b = true)) ∨ (cntF s < cntF s0 ∧ ¬ Clo E n s0)
theorem Rn.next {E : List (Nat × Nat)} {n : Nat} {s0 s : List Bool} {j k : Nat} (h : Rn E n s0 s j k) (hj : j < n) (hk : k < n) (hs : isT s j = true) : Rn E n s0 (s.set k (isT s k || nearB E j k)) j (k + 1) := by
  have hkl : k < s.length := by rw [h.len]; exact hk
  cases hb : isT s k with
  | true =>
    rw [Bool.true_or, set_same (by rw [isT_get hkl, hb])]
    refine ⟨h.len, h.mono, ?_⟩
    rcases h.st with ⟨e, h1, h2⟩ | h1
    · refine .inl ⟨e, h1, fun b hb2 hn hj0 => ?_⟩
      by_cases e2 : b = k
      · subst e2; rw [← e]; exact hb
      · exact h2 b (by omega) hn hj0
    · exact .inr h1
  | false =>
    rw [Bool.false_or]
    cases hn : nearB E j k with
    | false =>
      rw [set_same (by rw [isT_get hkl, hb])]
      refine ⟨h.len, h.mono, ?_⟩
      rcases h.st with ⟨e, h1, h2⟩ | h1
      · refine .inl ⟨e, h1, fun b hb2 hn2 hj0 => ?_⟩
        by_cases e2 : b = k
        · subst e2; rw [hn] at hn2; cases hn2
        · exact h2 b (by omega) hn2 hj0
      · exact .inr h1
    | true =>
      have hc := cntF_set s k (by rw [isT_get hkl, hb])
      refine ⟨by rw [List.length_set]; exact h.len, fun x hx => by rw [isT_set hkl, h.mono x hx]; rfl, .inr ?_⟩
      rcases h.st with ⟨e, h1, h2⟩ | h1
      · subst e
        refine ⟨by omega, fun hcl => ?_⟩
        have := hcl j k hj hk hs hn
        rw [hb] at this; cases this
      · exact ⟨by omega, h1.2⟩
theorem Rn.row {E : List (Nat × Nat)} {n : Nat} {s0 s : List Bool} {j k : Nat} (h : Rn E n s0 s j k) (hk : n ≤ k ∨ isT s j = false) : Rn E n s0 s (j + 1) 0 := by
  refine ⟨h.len, h.mono, ?_⟩
  rcases h.st with ⟨e, h1, h2⟩ | h1
  · refine .inl ⟨e, fun a b ha hb hs hn => ?_, fun b hb => by omega⟩
    by_cases e2 : a = j
    · subst e2
      rcases hk with hk | hk
      · exact h2 b (by omega) hn hs
      · rw [e, hs] at hk; cases hk
    · exact h1 a b (by omega) hb hs hn
  · exact .inr h1
/-- behind t rounds -/
structure Ro (E : List (Nat × Nat)) (n i : Nat) (s : List Bool) (t : Nat) : Prop where
  len : s.length = n
  st : isT s i = true
  cl : Clo E n s ∨ cntF s + t + 1 ≤ n
theorem Ro.next {E : List (Nat × Nat)} {n i : Nat} {s0 s : List Bool} {t : Nat} (h : Ro E n i s0 t) (r : Rn E n s0 s n 0) : Ro E n i s (t + 1) := by
  refine ⟨r.len, r.mono i h.st, ?_⟩
  rcases r.st with ⟨e, h1, _⟩ | ⟨h1, h2⟩
  · subst e; exact .inl (fun a b ha hb hs hn => h1 a b ha hb hs hn)
  · rcases h.cl with h3 | h3
    · exact absurd h3 h2
    · exact .inr (by omega)
theorem Ro.done {E : List (Nat × Nat)} {n i : Nat} {s : List Bool} (h : Ro E n i s n) (hE : Eok E n) (hi : i < n) {k : Nat} (hr : Road E i k) : isT s k = true := by
  rcases h.cl with h1 | h1
  · have := Pth.closed (p := fun k => k < n ∧ isT s k = true) hr ⟨hi, h.st⟩ (fun a b ha hb => ⟨(hE _ hb).2, h1 a b ha.1 (hE _ hb).2 ha.2 (nearB_iff.2 hb)⟩)
    exact this.2
  · omega

set_option maxHeartbeats 8000000 in
theorem forced_yes {E : List (Nat × Nat)} {B1 g1 B2 g2 n i : Nat} {V1 V2 : Nat → Nat} (w : World) (hN : Sqm w B1 g1 n n V1 (nrM E n)) (hF : Sqm w B2 g2 n n V2 (farM E n)) (hE : Eok E n) (hn : n ≤ 1000000) (hi : i < n) :
    Calls Tryd.prog 7 #[.slice (some ⟨g1, 0, none⟩) n n, .slice (some ⟨g2, 0, none⟩) n n, .int .i64 (i : Int)] w fun e w' => e = .returned (.bool true) ∧ Kept No w w' := by
  have hmk := mk_bools w n hn
  have hb0 := Br.new w n
  have hfz := hb0.fz i
  have hce := hb0.cell (j := i) (by simpa using hi)
  have b1 := hb0.set i true
  have k1 : Kept No w (w.alloc (.cells (List.replicate n (.bool false)).toArray 4)) := (Kept.refl No w).alloc _
  generalize w.alloc (.cells (List.replicate n (.bool false)).toArray 4) = w1 at *
  obtain ⟨g, hg⟩ : ∃ g, w.heap.size = g := ⟨_, rfl⟩
  rw [hg] at hmk hb0 hfz hce b1
  have k2 : Kept (fun k => k = g) w1 (w1.setCell ⟨g, i, none⟩ (.bool true)) := (Kept.refl (fun k => k = g) w1).setCell (p := ⟨g, i, none⟩) (.inl rfl) _
  have hc0 : cntF ((List.replicate n false).set i true) + 1 = n := by
    have := cntF_set (List.replicate n false) i (by rw [List.getElem?_replicate, if_pos hi])
    rw [cntF_rep] at this
    exact this
  have H0 : Hid (Br (w1.setCell ⟨g, i, none⟩ (.bool true)) g ((List.replicate n false).set i true) ∧ Kept No w (w1.setCell ⟨g, i, none⟩ (.bool true)) ∧ w.heap.size = g ∧ Ro E n i ((List.replicate n false).set i true) 0) := ⟨b1, k1.trans k2 (fun k e => .inr (by omega)), hg, by simp, by rw [isT_set (by simpa using hi)]; simp, .inr (by omega)⟩
  have HH : Hid (Sqm w B1 g1 n n V1 (nrM E n) ∧ Sqm w B2 g2 n n V2 (farM E n) ∧ Eok E n) := ⟨hN, hF, hE⟩
  clear hN hF hE b1 k1 k2 hc0 hg hb0
  have hiz : (i : Int) < (n : Int) := by omega
  go_enter Tryd.func7, Tryd.ntmps7
  go_wp2
  clear hmk hfz hce
  generalize w1.setCell ⟨g, i, none⟩ (.bool true) = w2 at *
  go_loopw [9] (fun y wr => ∃ (t : Nat) (s : List Bool), y = .int .i64 t ∧ t ≤ n ∧ Br wr g s ∧ Kept No w wr ∧ Ro E n i s t) (fun y _ => n - (intOf y).toNat)
  case atStart => exact ⟨0, _, rfl, Nat.zero_le _, H0.out.1, H0.out.2.1, H0.out.2.2.2⟩
  case round =>
    obtain ⟨t, s0, rfl, ht, hb, hk, hro⟩ := hrel
    by_cases htl : t < n
    · have htz : (t : Int) < (n : Int) := by omega
      have HR : Hid (Br wr g s0 ∧ Kept No w wr ∧ Ro E n i s0 t) := ⟨hb, hk, hro⟩
      clear hb hk hro
      go_wp2
      go_loopw [10] (fun y wr => ∃ (j : Nat) (s : List Bool), y = .int .i64 j ∧ j ≤ n ∧ Br wr g s ∧ Kept No w wr ∧ Rn E n s0 s j 0) (fun y _ => n - (intOf y).toNat)
      case atStart => exact ⟨0, s0, rfl, Nat.zero_le _, HR.out.1, HR.out.2.1, HR.out.2.2.len, fun _ h => h, .inl ⟨rfl, fun a b ha => by omega, fun b hb => by omega⟩⟩
      case round =>
        obtain ⟨j, s1, rfl, hj, hb, hk, hrn⟩ := hrel
        by_cases hjl : j < n
        · have hjz : (j : Int) < (n : Int) := by omega
          have HR1 : Hid (Br wr g s1 ∧ Kept No w wr ∧ Rn E n s0 s1 j 0) := ⟨hb, hk, hrn⟩
          clear hb hk hrn
          go_wp2
          go_loopw [11] (fun y wr => ∃ (k : Nat) (s : List Bool), y = .int .i64 k ∧ k ≤ n ∧ Br wr g s ∧ Kept No w wr ∧ Rn E n s0 s j k) (fun y _ => n - (intOf y).toNat)
          case atStart => exact ⟨0, s1, rfl, Nat.zero_le _, HR1.out.1, HR1.out.2.1, HR1.out.2.2⟩
          case round =>
            obtain ⟨k, s, rfl, hkn, hb, hk, hrn⟩ := hrel
            have hsl := hrn.len
            have cj := hb.cell (j := j) (by rw [hsl]; exact hjl)
            by_cases hkl : k < n
            · have hkz : (k : Int) < (n : Int) := by omega
              cases hbj : isT s j with
              | true =>
                rw [hbj] at cj
                have ck := hb.cell (j := k) (by rw [hsl]; exact hkl)
                have fk := hb.fz k
                obtain ⟨d1, d2⟩ := (HH.out.1.kept hk (fun _ _ h => h)).at2 hjl hkl
                rw [nrM_T hkl] at d2
                have hnx := hrn.next hjl hkl hbj
                have hst := hb.set k (isT s k || nearB E j k)
                have k2 : Kept (fun q => q = g) wr (wr.setCell ⟨g, k, none⟩ (.bool (isT s k || nearB E j k))) := (Kept.refl (fun q => q = g) wr).setCell (p := ⟨g, k, none⟩) (.inl rfl) _
                have HF : Hid (Br (wr.setCell ⟨g, k, none⟩ (.bool (isT s k || nearB E j k))) g (s.set k (isT s k || nearB E j k)) ∧ Kept No w (wr.setCell ⟨g, k, none⟩ (.bool (isT s k || nearB E j k))) ∧ Rn E n s0 (s.set k (isT s k || nearB E j k)) j (k + 1)) := ⟨hst, hk.trans k2 (fun q e => .inr (by have := H0.out.2.2.1; omega)), hnx⟩
                clear hst k2 hnx hrn hb hk hbj
                cases hbk : isT s k with
                | true =>
                  rw [hbk] at HF ck
                  rw [Bool.true_or] at HF
                  clear hbk
                  go_wp2
                  go_roundw
                  case rel => exact ⟨k + 1, _, by go_num, by omega, HF.out.1, HF.out.2.1, HF.out.2.2⟩
                  case measure => simp [intOf]; omega
                | false =>
                  rw [hbk] at HF ck
                  rw [Bool.false_or] at HF
                  clear hbk
                  go_wp2
                  go_roundw
                  case rel => exact ⟨k + 1, _, by go_num, by omega, HF.out.1, HF.out.2.1, HF.out.2.2⟩
                  case measure => simp [intOf]; omega
              | false =>
                rw [hbj] at cj
                have HF : Hid (Br wr g s ∧ Kept No w wr ∧ Rn E n s0 s (j + 1) 0) := ⟨hb, hk, hrn.row (.inr hbj)⟩
                clear hrn hb hk hbj
                go_wp2
                go_roundw
                case rel => exact ⟨j + 1, s, by go_num, by omega, HF.out.1, HF.out.2.1, HF.out.2.2⟩
                case measure => simp [intOf]; omega
            · have hkz : decide ((k : Int) < (n : Int)) = false := by simp; omega
              have HF : Hid (Br wr g s ∧ Kept No w wr ∧ Rn E n s0 s (j + 1) 0) := ⟨hb, hk, hrn.row (.inl (by omega))⟩
              clear hrn hb hk cj
              go_wp2
              go_roundw
              case rel => exact ⟨j + 1, s, by go_num, by omega, HF.out.1, HF.out.2.1, HF.out.2.2⟩
              case measure => simp [intOf]; omega
        · have hje : j = n := by omega
          have hjz : ¬ (j : Int) < (n : Int) := by omega
          have HF : Hid (Br wr g s1 ∧ Kept No w wr ∧ Ro E n i s1 (t + 1)) := ⟨hb, hk, HR.out.2.2.next (by rw [hje] at hrn; exact hrn)⟩
          clear hb hk hrn hje
          go_wp2
          go_roundw
          case rel => exact ⟨t + 1, s1, by go_num, by omega, HF.out.1, HF.out.2.1, HF.out.2.2⟩
          case measure => simp [intOf]; omega
    · have hte : t = n := by omega
      have htz : ¬ (t : Int) < (n : Int) := by omega
      have HF : Hid (Br wr g s0 ∧ Kept No w wr ∧ Ro E n i s0 n) := ⟨hb, hk, by rw [hte] at hro; exact hro⟩
      clear hb hk hro hte
      go_wp2
      go_loopw [12] (fun y wr => ∃ (k : Nat), y = .int .i64 k ∧ k ≤ n ∧ Br wr g s0 ∧ Kept No w wr) (fun y _ => n - (intOf y).toNat)
      case atStart => exact ⟨0, rfl, Nat.zero_le _, HF.out.1, HF.out.2.1⟩
      case round =>
        obtain ⟨k, rfl, hkn, hb, hk⟩ := hrel
        by_cases hkl : k < n
        · have hkz : (k : Int) < (n : Int) := by omega
          have ck := hb.cell (j := k) (by rw [HF.out.2.2.len]; exact hkl)
          obtain ⟨d1, d2⟩ := (HH.out.2.1.kept hk (fun _ _ h => h)).at2 hi hkl
          have HB : Hid (Br wr g s0 ∧ Kept No w wr) := ⟨hb, hk⟩
          cases hf : isT (farM E n i) k with
          | true =>
            rw [hf] at d2
            rw [HF.out.2.2.done HH.out.2.2 hi ((far_ok HH.out.2.2 hi k).1 hf)] at ck
            clear hb hk hf
            go_wp2
            go_roundw
            case rel => exact ⟨k + 1, by go_num, by omega, HB.out.1, HB.out.2⟩
            case measure => simp [intOf]; omega
          | false =>
            rw [hf] at d2
            clear hb hk hf ck
            go_wp2
            go_roundw
            case rel => exact ⟨k + 1, by go_num, by omega, HB.out.1, HB.out.2⟩
            case measure => simp [intOf]; omega
        · have hkz : ¬ (k : Int) < (n : Int) := by omega
          have HB := hid hk
          clear hb hk
          go_wp2
          go_ret
          exact ⟨rfl, HB.out⟩
end Go.Proofs.YtfhodojbbeniaaaDoor
