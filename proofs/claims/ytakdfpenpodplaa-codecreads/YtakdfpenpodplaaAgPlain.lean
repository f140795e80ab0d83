/-
  What is read and written again: plain.
-/
import Derived.Test.YtakdfpenpodplaaWrite
import Derived.Test.YtakdfpenpodplaaGetList
namespace Go.Proofs.Ytakdfpenpodplaa
open Go.RowKit
set_option linter.unusedVariables false

theorem be_succ (x k : Nat) : be x (k + 1) = be (x / 256) k ++ [x % 256] := by
  unfold be
  rw [List.range_succ, List.map_append]
  congr 1
  · apply List.map_congr_left
    intro j hj
    rw [List.mem_range] at hj
    have e : 8 * (k + 1 - 1 - j) = 8 + 8 * (k - 1 - j) := by omega
    rw [e, Nat.pow_add, ← Nat.div_div_eq_div_mul]
  · simp
theorem be_val : ∀ (k : Nat) (l : List Nat), l.length = k → (∀ x ∈ l, x < 256) → be (val l) k = l := by
  intro k
  induction k with
  | zero => intro l hl _; rw [List.eq_nil_of_length_eq_zero hl]; rfl
  | succ k ih =>
    intro l hl hb
    have hne : l ≠ [] := by rintro rfl; simp at hl
    have e := List.dropLast_concat_getLast hne
    have h1 : val l = val l.dropLast * 256 + l.getLast hne := by
      have := val_snoc l.dropLast (l.getLast hne); rw [e] at this; exact this
    have hlast := hb (l.getLast hne) (List.getLast_mem hne)
    rw [be_succ, h1, show (val l.dropLast * 256 + l.getLast hne) / 256 = val l.dropLast from by omega, show (val l.dropLast * 256 + l.getLast hne) % 256 = l.getLast hne from by omega,
      ih l.dropLast (by rw [List.length_dropLast]; omega) (fun x hx => hb x ((List.dropLast_sublist l).subset hx)), e]
theorem val_lt' (l : List Nat) (h : ∀ x ∈ l, x < 256) : val l < 256 ^ l.length := by
  have := val_lt l h l.length (Nat.le_refl _)
  rwa [List.take_length] at this

/-- as long as the Reader has no fault, what was written and what is left are the bytes -/
def Ag (b0 : List Nat) (i : Nat) (bs : List Nat) (e' : Int) (xs : List Nat) (e : Int) : Prop := (e = 0 → e' = 0 ∧ b0 = bs ++ xs) ∧ bs.length + xs.length ≤ b0.length + 8 * i

theorem tk_yes {xs : List Nat} {e : Int} {k : Nat} (h : tkE xs e k = 0) : e = 0 ∧ k ≤ xs.length ∧ tkXs xs e k = xs.take k ∧ tkRest xs e k = xs.drop k := by
  have he : e = 0 := by
    apply Decidable.byContradiction; intro h1; unfold tkE at h; rw [if_pos h1] at h; exact h1 h
  subst he
  have hk : tkOk xs 0 k = true := by
    cases hk : tkOk xs 0 k with
    | true => rfl
    | false => unfold tkE at h; rw [if_neg (by simp), hk] at h; simp at h
  have hl : k ≤ xs.length := by unfold tkOk at hk; simp at hk; omega
  refine ⟨rfl, hl, ?_, ?_⟩
  · unfold tkXs; rw [hk]; simp
  · unfold tkRest; rw [hk]; simp
theorem tkRest_len (xs : List Nat) (e : Int) (n : Int) : (tkRest xs e n).length ≤ xs.length := by unfold tkRest; split <;> simp

theorem ag_num {b0 : List Nat} {i : Nat} {bs : List Nat} {e' : Int} {xs : List Nat} {e : Int} (h : Ag b0 i bs e' xs e) (hx : ∀ x ∈ xs, x < 256) (k : Nat) (hk : k = 1 ∨ k = 2 ∨ k = 4) :
    Ag b0 (i + 1) (numBs bs e' (rdN xs e k) k) (numE e' (rdN xs e k) k) (tkRest xs e k) (tkE xs e k) := by
  obtain ⟨h1, h2⟩ := h
  refine ⟨fun h0 => ?_, ?_⟩
  · obtain ⟨rfl, hl, ht, hr⟩ := tk_yes h0
    obtain ⟨rfl, hb⟩ := h1 rfl
    have hlt := (rdN_lt 0 k hx)
    have hval : rdN xs 0 k = (val (xs.take k) : Nat) := by unfold rdN; rw [ht]
    have hpow : (256 : Int) ^ k = 2 ^ (8 * k) := by rcases hk with rfl | rfl | rfl <;> rfl
    have hng : ¬ (rdN xs 0 k < 0 ∨ 2 ^ (8 * k) ≤ rdN xs 0 k) := by rw [← hpow]; omega
    have e1 : numBs bs 0 (rdN xs 0 k) k = bs ++ xs.take k := by
      unfold numBs; rw [if_neg (by simp), if_neg hng, hval, Int.toNat_natCast, be_val k (xs.take k) (by rw [List.length_take]; omega) (fun x hx' => hx x (List.mem_of_mem_take hx'))]
    have e2 : numE 0 (rdN xs 0 k) k = 0 := by unfold numE; rw [if_neg (by simp), if_neg hng]
    refine ⟨e2, ?_⟩
    rw [e1, hr, List.append_assoc, List.take_append_drop]; exact hb
  · have h3 := numBs_len bs e' (rdN xs e k) k
    by_cases h0 : tkE xs e k = 0
    · obtain ⟨rfl, hl, ht, hr⟩ := tk_yes h0
      rw [hr, List.length_drop]; omega
    · have := tkRest_len xs e k
      omega

theorem layBs_len (bs : List Nat) (e : Int) (xs : List Nat) : (layBs bs e xs).length ≤ bs.length + xs.length := by
  unfold layBs; split
  · omega
  · rw [List.length_append]; omega

theorem p8 : (256 : Nat) ^ 8 = 18446744073709551616 := by decide
theorem wrap_back (V : Nat) (x : Int) (hV : V < 18446744073709551616) (h : x = (V : Nat)) : (wrap64 x % 18446744073709551616).toNat = V := by
  subst h; unfold wrap64; omega

theorem ag_i64 {b0 : List Nat} {i : Nat} {bs : List Nat} {e' : Int} {xs : List Nat} {e : Int} (h : Ag b0 i bs e' xs e) (hx : ∀ x ∈ xs, x < 256) :
    Ag b0 (i + 1) (layBs bs e' (be64 (rdI xs e))) e' (tkRest xs e 8) (tkE xs e 8) := by
  obtain ⟨h1, h2⟩ := h
  have hbl : (be64 (rdI xs e)).length = 8 := be_length _ _
  refine ⟨fun h0 => ?_, ?_⟩
  · obtain ⟨rfl, hl, ht, hr⟩ := tk_yes (k := 8) h0
    obtain ⟨rfl, hb⟩ := h1 rfl
    have hv := val_lt' (xs.take 8) (fun x hx' => hx x (List.mem_of_mem_take hx'))
    rw [List.length_take, Nat.min_eq_left hl, p8] at hv
    have hval : rdN xs 0 8 = (val (xs.take 8) : Nat) := by unfold rdN; rw [ht]
    have e1 : be64 (rdI xs 0) = xs.take 8 := by
      have : (rdI xs 0 % 18446744073709551616).toNat = val (xs.take 8) := wrap_back _ _ hv hval
      unfold be64; rw [this, be_val 8 (xs.take 8) (by rw [List.length_take]; omega) (fun x hx' => hx x (List.mem_of_mem_take hx'))]
    refine ⟨rfl, ?_⟩
    have hr' : tkRest xs 0 8 = xs.drop 8 := hr
    rw [e1, show layBs bs 0 (xs.take 8) = bs ++ xs.take 8 from if_neg (by simp), hr', List.append_assoc, List.take_append_drop]; exact hb
  · have h3 := layBs_len bs e' (be64 (rdI xs e))
    have := tkRest_len xs e 8
    by_cases h0 : tkE xs e 8 = 0
    · obtain ⟨rfl, hl, ht, hr⟩ := tk_yes (k := 8) h0
      have hr' : tkRest xs 0 8 = xs.drop 8 := hr
      rw [hr', List.length_drop]; omega
    · omega

theorem ag_bool {b0 : List Nat} {i : Nat} {bs : List Nat} {e' : Int} {xs : List Nat} {e : Int} (h : Ag b0 i bs e' xs e) :
    Ag b0 (i + 1) (layBs bs e' (flagB (rbV xs e))) e' (rbRest xs e) (rbE xs e) := by
  obtain ⟨h1, h2⟩ := h
  have h3 := layBs_len bs e' (flagB (rbV xs e))
  have hfl : (flagB (rbV xs e)).length = 1 := rfl
  by_cases he : e = 0
  · subst he
    obtain ⟨rfl, hb⟩ := h1 rfl
    cases xs with
    | nil =>
      refine ⟨fun h0 => ?_, ?_⟩
      · simp [rbE] at h0
      · simp [rbRest] at *; omega
    | cons b t =>
      by_cases h4 : 1 < b
      · refine ⟨fun h0 => ?_, ?_⟩
        · simp [rbE, h4] at h0
        · simp [rbRest, h4] at *; omega
      · refine ⟨fun h0 => ⟨rfl, ?_⟩, ?_⟩
        · have e1 : flagB (rbV (b :: t) 0) = [b] := by
            have : b = 0 ∨ b = 1 := by omega
            rcases this with rfl | rfl <;> simp [flagB, rbV]
          rw [e1, show layBs bs 0 [b] = bs ++ [b] from if_neg (by simp), hb]
          simp [rbRest, h4]
        · simp [rbRest, h4] at *; omega
  · refine ⟨fun h0 => ?_, ?_⟩
    · unfold rbE at h0; rw [if_pos he] at h0; exact absurd h0 he
    · have : rbRest xs e = xs := if_pos he
      rw [this]; omega

theorem ag_bytes {b0 : List Nat} {i : Nat} {bs : List Nat} {e' : Int} {xs : List Nat} {e : Int} (h : Ag b0 i bs e' xs e) (n : Int) :
    Ag b0 (i + 1) (layBs bs e' (tkXs xs e n)) e' (tkRest xs e n) (tkE xs e n) := by
  obtain ⟨h1, h2⟩ := h
  have h3 := layBs_len bs e' (tkXs xs e n)
  have h4 : (tkXs xs e n).length + (tkRest xs e n).length = xs.length := by
    unfold tkXs tkRest; split
    · rw [List.length_take, List.length_drop]; omega
    · simp
  have h5 : tkXs xs e n ++ tkRest xs e n = xs := by
    unfold tkXs tkRest; split
    · exact List.take_append_drop _ _
    · rfl
  refine ⟨fun h0 => ?_, by omega⟩
  have he : e = 0 := by
    apply Decidable.byContradiction; intro h6; unfold tkE at h0; rw [if_pos h6] at h0; exact h6 h0
  obtain ⟨rfl, hb⟩ := h1 he
  refine ⟨rfl, ?_⟩
  rw [show layBs bs 0 (tkXs xs e n) = bs ++ tkXs xs e n from if_neg (by simp), List.append_assoc, h5]; exact hb

theorem pl_els (r : List Nat) (hr : ∀ x ∈ r, x < 256) (s : List Nat) : ∀ k, 2 * k ≤ r.length → (glEls r k).foldl plStep (s, 0) = (s ++ r.take (2 * k), 0) := by
  intro k
  induction k with
  | zero => intro _; simp [glEls]
  | succ k ih =>
    intro hk
    rw [glEls_succ, List.foldl_append, ih (by omega)]
    have hl2 : ((r.drop (2 * k)).take 2).length = 2 := by rw [List.length_take, List.length_drop]; omega
    have hb2 : ∀ x ∈ (r.drop (2 * k)).take 2, x < 256 := fun x hx => hr x (List.mem_of_mem_drop (List.mem_of_mem_take hx))
    have hv := val_lt' _ hb2
    rw [hl2] at hv
    have hng : ¬ (((val ((r.drop (2 * k)).take 2) : Nat) : Int) < 0 ∨ 2 ^ (8 * 2) ≤ ((val ((r.drop (2 * k)).take 2) : Nat) : Int)) := by omega
    have nb : numBs (s ++ r.take (2 * k)) 0 ((val ((r.drop (2 * k)).take 2) : Nat) : Int) 2 = s ++ r.take (2 * (k + 1)) := by
      unfold numBs
      rw [if_neg (by simp), if_neg hng, Int.toNat_natCast, be_val 2 _ hl2 hb2, List.append_assoc, show 2 * (k + 1) = 2 * k + 2 from by omega, List.take_add]
    have ne : numE 0 ((val ((r.drop (2 * k)).take 2) : Nat) : Int) 2 = 0 := by unfold numE; rw [if_neg (by simp), if_neg hng]
    show (numBs _ _ _ 2, numE _ _ 2) = _
    rw [nb, ne]

theorem glRest_len (xs : List Nat) (e most : Int) : (glRest xs e most).length ≤ xs.length := by
  unfold glRest; split
  · simp <;> omega
  · split
    · simp <;> omega
    · omega

theorem ag_list {b0 : List Nat} {i : Nat} {bs : List Nat} {e' : Int} {xs : List Nat} {e : Int} (h : Ag b0 i bs e' xs e) (hx : ∀ x ∈ xs, x < 256) (most : Int) :
    Ag b0 (i + 1) (pl bs e' (glX xs e most) most).1 (pl bs e' (glX xs e most) most).2 (glRest xs e most) (glE xs e most) := by
  obtain ⟨h1, h2⟩ := h
  cases hg : glOk xs e most with
  | false =>
    have e1 : glX xs e most = [] := by unfold glX; rw [hg]; rfl
    have hE : glE xs e most ≠ 0 := by
      unfold glE; rw [hg]
      cases hc : cnOk xs e most with
      | false => exact cnE_ne xs e most hc
      | true => simp
    refine ⟨fun h0 => absurd h0 hE, ?_⟩
    have h3 : (pl bs e' (glX xs e most) most).1.length ≤ bs.length + 4 := by
      rw [e1]; unfold pl
      by_cases h5 : e' ≠ 0
      · rw [if_pos h5]; simp
      · rw [if_neg h5]
        by_cases h6 : most < (([] : List Int).length : Int)
        · rw [if_pos h6]; simp
        · rw [if_neg h6, List.foldl_nil]; have h9 := numBs_len bs 0 ((([] : List Int).length : Nat) : Int) 4; simpa using h9
    have h4 := glRest_len xs e most
    omega
  | true =>
    have hcn : cnOk xs e most = true := by unfold glOk at hg; rw [Bool.and_eq_true] at hg; exact hg.1
    have h2N : 2 * rdN xs e 4 ≤ (xs.length : Int) - 4 := by unfold glOk at hg; rw [Bool.and_eq_true, decide_eq_true_eq] at hg; exact hg.2
    obtain ⟨_, rfl⟩ := cnE_ok xs e most hcn
    obtain ⟨rfl, hb⟩ := h1 rfl
    have hNm : rdN xs 0 4 ≤ most := by unfold cnOk at hcn; simp only [Bool.and_eq_true, decide_eq_true_eq] at hcn; exact hcn.1.2
    have htk : tkOk xs 0 4 = true := by unfold cnOk at hcn; simp only [Bool.and_eq_true, decide_eq_true_eq] at hcn; exact hcn.1.1
    have hx4 : 4 ≤ xs.length := by unfold tkOk at htk; simp at htk; omega
    have hN := rdN_lt 0 4 hx
    have hval : rdN xs 0 4 = (val (xs.take 4) : Nat) := by unfold rdN tkXs; rw [show ((4 : Nat) : Int) = 4 from rfl, htk]; rfl
    obtain ⟨N, hNN⟩ : ∃ N : Nat, (N : Int) = rdN xs 0 4 := ⟨(rdN xs 0 4).toNat, Int.toNat_of_nonneg hN.1⟩
    have hNv : N = val (xs.take 4) := by rw [← hNN] at hval; exact Int.ofNat.inj hval
    have e1 : glX xs 0 most = glEls (xs.drop 4) N := by unfold glX; rw [hg, ← hNN, Int.toNat_natCast]; rfl
    have e2 : glRest xs 0 most = (xs.drop 4).drop (2 * N) := by unfold glRest; rw [hg, ← hNN, Int.toNat_natCast]; rfl
    have e3 : glE xs 0 most = 0 := by unfold glE; rw [hcn, hg]; rfl
    have hng : ¬ (((N : Nat) : Int) < 0 ∨ 2 ^ (8 * 4) ≤ ((N : Nat) : Int)) := by rw [hNN]; omega
    have e4 : pl bs 0 (glX xs 0 most) most = (bs ++ xs.take (4 + 2 * N), 0) := by
      rw [e1]; unfold pl
      rw [glEls_length, if_neg (by simp), if_neg (by omega)]
      have e5 : numBs bs 0 (N : Int) 4 = bs ++ xs.take 4 := by
        unfold numBs; rw [if_neg (by simp), if_neg hng, Int.toNat_natCast, hNv, be_val 4 (xs.take 4) (by rw [List.length_take]; omega) (fun x hx' => hx x (List.mem_of_mem_take hx'))]
      have e6 : numE 0 (N : Int) 4 = 0 := by unfold numE; rw [if_neg (by simp), if_neg hng]
      rw [e5, e6, pl_els (xs.drop 4) (fun x hx' => hx x (List.mem_of_mem_drop hx')) _ N (by rw [List.length_drop]; omega), List.append_assoc, ← List.take_add]
    rw [e4, e2, e3]
    refine ⟨fun _ => ⟨rfl, ?_⟩, ?_⟩
    · show b0 = (bs ++ xs.take (4 + 2 * N)) ++ (xs.drop 4).drop (2 * N)
      rw [List.drop_drop, List.append_assoc, List.take_append_drop]; exact hb
    · show (bs ++ xs.take (4 + 2 * N)).length + ((xs.drop 4).drop (2 * N)).length ≤ _
      rw [List.length_append, List.length_take, List.length_drop, List.length_drop]; omega

theorem ag_none {b0 : List Nat} {i : Nat} {bs : List Nat} {e' : Int} {xs : List Nat} {e : Int} (h : Ag b0 i bs e' xs e) : Ag b0 (i + 1) bs e' xs e := ⟨h.1, by have := h.2; omega⟩

theorem glX_le (xs : List Nat) (e most : Int) (hx : ∀ x ∈ xs, x < 256) : ∀ z ∈ glX xs e most, z ≤ 9223372036854775807 := by
  intro z hz
  unfold glX at hz
  split at hz
  · unfold glEls at hz; rw [List.mem_map] at hz
    obtain ⟨i, _, rfl⟩ := hz
    have hv := val_lt' ((xs.drop 4 |>.drop (2 * i)).take 2) (fun x hx' => hx x (List.mem_of_mem_drop (List.mem_of_mem_drop (List.mem_of_mem_take hx'))))
    have hl : (((xs.drop 4).drop (2 * i)).take 2).length ≤ 2 := by rw [List.length_take]; omega
    have := Nat.lt_of_lt_of_le hv (Nat.pow_le_pow_right (by decide) hl)
    omega
  · cases hz
theorem glX_len (xs : List Nat) (e most : Int) (hx : ∀ x ∈ xs, x < 256) : (glX xs e most).length ≤ xs.length := by
  cases hg : glOk xs e most with
  | false => unfold glX; rw [hg]; simp
  | true =>
    have h2N : 2 * rdN xs e 4 ≤ (xs.length : Int) - 4 := by unfold glOk at hg; rw [Bool.and_eq_true, decide_eq_true_eq] at hg; exact hg.2
    have hN := rdN_lt e 4 hx
    unfold glX; rw [hg]
    show (glEls _ _).length ≤ _
    rw [glEls_length]; omega

end Go.Proofs.Ytakdfpenpodplaa
