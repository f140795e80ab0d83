/-
  What is written is read again, and no beginning of it: plain.
-/
import Derived.Test.YtakdfpenpodplaaBack
import Derived.Test.YtakdfpenpodplaaFitted
namespace Go.Proofs.Ytakdfpenpodplaa
open Go.RowKit
set_option linter.unusedVariables false

theorem val_be (x : Nat) : ∀ k, x < 256 ^ k → val (be x k) = x := by
  intro k
  induction k generalizing x with
  | zero => intro h; have : x = 0 := by simpa using h
            subst this; rfl
  | succ k ih =>
    intro h
    rw [be_succ, val_snoc, ih (x / 256) (by rw [Nat.pow_succ] at h; omega)]
    omega

/-- the bytes of an operation -/
def enc (K N Wd : Int) (Fl : Bool) (xs : List Nat) (zs : List Int) : List Nat :=
  if K = 1 then be N.toNat 1 else if K = 2 then be N.toNat 2 else if K = 3 then be N.toNat 4 else if K = 4 then be64 Wd else if K = 5 then flagB Fl else if K = 6 then xs
  else if K = 7 then be zs.length 4 ++ (zs.map (fun z => be z.toNat 2)).flatten else []
/-- an operation that a Writer must take -/
structure Fit (K N Wd : Int) (xs : List Nat) (zs : List Int) (M : Int) : Prop where
  f1 : K = 1 → 0 ≤ N ∧ N < 256
  f2 : K = 2 → 0 ≤ N ∧ N < 65536
  f3 : K = 3 → 0 ≤ N ∧ N < 4294967296
  f4 : -9223372036854775808 ≤ Wd ∧ Wd ≤ 9223372036854775807
  f6 : ∀ x ∈ xs, x < 256
  f7 : K = 7 → (∀ z ∈ zs, 0 ≤ z ∧ z < 65536) ∧ (zs.length : Int) ≤ M ∧ zs.length ≤ 1048576

theorem pl_flat : ∀ (zs : List Int) (s : List Nat), (∀ z ∈ zs, 0 ≤ z ∧ z < 65536) → zs.foldl plStep (s, 0) = (s ++ (zs.map (fun z => be z.toNat 2)).flatten, 0) := by
  intro zs
  induction zs with
  | nil => intro s _; simp
  | cons z zs ih =>
    intro s h
    have hz := h z (List.mem_cons_self ..)
    have hng : ¬ (z < 0 ∨ 2 ^ (8 * 2) ≤ z) := by omega
    have e : plStep (s, 0) z = (s ++ be z.toNat 2, 0) := by
      show (numBs s 0 z 2, numE 0 z 2) = _
      unfold numBs numE
      rw [if_neg (by simp), if_neg hng, if_neg (by simp), if_neg hng]
    rw [List.foldl_cons, e, ih _ (fun y hy => h y (List.mem_cons_of_mem _ hy))]
    simp [List.append_assoc]
theorem flat_len (zs : List Int) : ((zs.map (fun z => be z.toNat 2)).flatten).length = 2 * zs.length := by
  induction zs with
  | nil => rfl
  | cons z zs ih => rw [List.map_cons, List.flatten_cons, List.length_append, be_length, ih, List.length_cons]; omega
theorem flat_lt (zs : List Int) : ∀ x ∈ (zs.map (fun z => be z.toNat 2)).flatten, x < 256 := by
  intro x hx
  rw [List.mem_flatten] at hx
  obtain ⟨l, hl, hx⟩ := hx
  rw [List.mem_map] at hl
  obtain ⟨z, _, rfl⟩ := hl
  exact be_lt _ _ x hx

theorem num_fit (bs : List Nat) (N : Int) (k : Nat) (h : 0 ≤ N) (h2 : N < 2 ^ (8 * k)) : numBs bs 0 N k = bs ++ be N.toNat k ∧ numE 0 N k = 0 := by
  have hng : ¬ (N < 0 ∨ 2 ^ (8 * k) ≤ N) := by omega
  unfold numBs numE
  rw [if_neg (by simp), if_neg hng, if_neg (by simp), if_neg hng]
  exact ⟨rfl, rfl⟩

theorem write_fit {K N Wd : Int} {Fl : Bool} {xs : List Nat} {zs : List Int} {M : Int} (h : Fit K N Wd xs zs M) (bs : List Nat) : wOp bs 0 K N Wd Fl xs zs M = (bs ++ enc K N Wd Fl xs zs, 0) := by
  by_cases h1 : K = 1
  · subst h1; have := num_fit bs N 1 (h.f1 rfl).1 (by have := (h.f1 rfl).2; omega); simp [wOp, enc, this]
  by_cases h2 : K = 2
  · subst h2; have := num_fit bs N 2 (h.f2 rfl).1 (by have := (h.f2 rfl).2; omega); simp [wOp, enc, this]
  by_cases h3 : K = 3
  · subst h3; have := num_fit bs N 4 (h.f3 rfl).1 (by have := (h.f3 rfl).2; omega); simp [wOp, enc, this]
  by_cases h4 : K = 4
  · subst h4; simp [wOp, enc, layBs]
  by_cases h5 : K = 5
  · subst h5; simp [wOp, enc, layBs]
  by_cases h6 : K = 6
  · subst h6; simp [wOp, enc, layBs]
  by_cases h7 : K = 7
  · subst h7
    obtain ⟨hz, hm, hl⟩ := h.f7 rfl
    have := num_fit bs (zs.length : Int) 4 (by omega) (by omega)
    rw [Int.toNat_natCast] at this
    have e : pl bs 0 zs M = (bs ++ (be zs.length 4 ++ (zs.map (fun z => be z.toNat 2)).flatten), 0) := by
      unfold pl; rw [if_neg (by simp), if_neg (by omega), this.1, this.2, pl_flat zs _ hz, List.append_assoc]
    simp [wOp, enc, e]
  simp [wOp, enc, h1, h2, h3, h4, h5, h6, h7]

theorem tk_front (a R : List Nat) : tkXs (a ++ R) 0 a.length = a ∧ tkRest (a ++ R) 0 a.length = R ∧ tkE (a ++ R) 0 a.length = 0 := by
  have hk : tkOk (a ++ R) 0 a.length = true := by unfold tkOk; simp; omega
  refine ⟨?_, ?_, ?_⟩
  · unfold tkXs; rw [hk]; simp
  · unfold tkRest; rw [hk]; simp
  · unfold tkE; rw [hk]; rfl
theorem rd_front (N k : Nat) (R : List Nat) (h : N < 256 ^ k) : rdN (be N k ++ R) 0 k = N ∧ tkRest (be N k ++ R) 0 k = R ∧ tkE (be N k ++ R) 0 k = 0 := by
  have := tk_front (be N k) R
  rw [be_length] at this
  refine ⟨?_, this.2.1, this.2.2⟩
  unfold rdN; rw [this.1, val_be N k h]

theorem glEls_cons (l : List Nat) (n : Nat) : glEls l (n + 1) = (val (l.take 2) : Int) :: glEls (l.drop 2) n := by
  unfold glEls
  rw [List.range_succ_eq_map, List.map_cons, List.map_map]
  congr 1
  apply List.map_congr_left
  intro i _
  simp only [Function.comp, List.drop_drop]
  rw [show 2 * (i + 1) = 2 + 2 * i from by omega]
theorem glEls_flat : ∀ (zs : List Int) (R : List Nat), (∀ z ∈ zs, 0 ≤ z ∧ z < 65536) → glEls ((zs.map (fun z => be z.toNat 2)).flatten ++ R) zs.length = zs := by
  intro zs
  induction zs with
  | nil => intro R _; rfl
  | cons z zs ih =>
    intro R h
    have hz := h z (List.mem_cons_self ..)
    rw [List.length_cons, glEls_cons, List.map_cons, List.flatten_cons, List.append_assoc, List.take_left' (be_length _ _), List.drop_left' (be_length _ _), ih R (fun y hy => h y (List.mem_cons_of_mem _ hy)), val_be _ 2 (by omega)]
    congr 1
    omega

theorem back_fit {K N Wd : Int} {Fl : Bool} {xs : List Nat} {zs : List Int} {M : Int} (h : Fit K N Wd xs zs M) (R : List Nat) :
    bkV (enc K N Wd Fl xs zs ++ R) 0 K N Wd Fl xs zs M = true ∧ bkR (enc K N Wd Fl xs zs ++ R) 0 K xs M = R ∧ bkE (enc K N Wd Fl xs zs ++ R) 0 K xs M = 0 := by
  by_cases h1 : K = 1
  · subst h1
    have hN := h.f1 rfl
    obtain ⟨r1, r2, r3⟩ := rd_front N.toNat 1 R (by omega)
    have e : enc 1 N Wd Fl xs zs = be N.toNat 1 := by simp [enc]
    rw [e]
    refine ⟨?_, ?_, ?_⟩
    · simp only [bkV, if_true, r1]; simp; omega
    · simp only [bkR, if_true]; exact r2
    · simp only [bkE, if_true]; exact r3
  by_cases h2 : K = 2
  · subst h2
    have hN := h.f2 rfl
    obtain ⟨r1, r2, r3⟩ := rd_front N.toNat 2 R (by omega)
    have e : enc 2 N Wd Fl xs zs = be N.toNat 2 := by simp [enc]
    rw [e]
    refine ⟨?_, ?_, ?_⟩
    · simp [bkV, r1]; omega
    · simp [bkR]; exact r2
    · simp [bkE]; exact r3
  by_cases h3 : K = 3
  · subst h3
    have hN := h.f3 rfl
    obtain ⟨r1, r2, r3⟩ := rd_front N.toNat 4 R (by omega)
    have e : enc 3 N Wd Fl xs zs = be N.toNat 4 := by simp [enc]
    rw [e]
    refine ⟨?_, ?_, ?_⟩
    · simp [bkV, r1]; omega
    · simp [bkR]; exact r2
    · simp [bkE]; exact r3
  by_cases h4 : K = 4
  · subst h4
    have hW := h.f4
    obtain ⟨V, hV⟩ : ∃ V, V = (Wd % 18446744073709551616).toNat := ⟨_, rfl⟩
    obtain ⟨r1, r2, r3⟩ := rd_front V 8 R (by rw [p8]; omega)
    have e : enc 4 N Wd Fl xs zs = be V 8 := by simp [enc, be64, hV]
    rw [e]
    refine ⟨?_, ?_, ?_⟩
    · have : rdI (be V 8 ++ R) 0 = Wd := by unfold rdI; rw [r1]; unfold wrap64; omega
      simp [bkV, this]
    · simp [bkR]; exact r2
    · simp [bkE]; exact r3
  by_cases h5 : K = 5
  · subst h5
    have e : enc 5 N Wd Fl xs zs = [if Fl then 1 else 0] := by simp [enc, flagB]
    rw [e]
    cases Fl <;> simp [bkV, bkR, bkE, rbV, rbRest, rbE]
  by_cases h6 : K = 6
  · subst h6
    have e : enc 6 N Wd Fl xs zs = xs := by simp [enc]
    rw [e]
    obtain ⟨r1, r2, r3⟩ := tk_front xs R
    refine ⟨?_, ?_, ?_⟩
    · simp [bkV, r1]
    · simp [bkR]; exact r2
    · simp [bkE]; exact r3
  by_cases h7 : K = 7
  · subst h7
    obtain ⟨hz, hm, hl⟩ := h.f7 rfl
    have e : enc 7 N Wd Fl xs zs ++ R = be zs.length 4 ++ ((zs.map (fun z => be z.toNat 2)).flatten ++ R) := by simp [enc, List.append_assoc]
    rw [e]
    obtain ⟨F, hF⟩ : ∃ F, F = (zs.map (fun z => be z.toNat 2)).flatten ++ R := ⟨_, rfl⟩
    have hFl : 2 * zs.length ≤ F.length := by rw [hF, List.length_append, flat_len]; omega
    have hels : glEls F zs.length = zs := by rw [hF]; exact glEls_flat zs R hz
    have hdr : F.drop (2 * zs.length) = R := by rw [hF, List.drop_left' (flat_len zs)]
    rw [← hF]
    obtain ⟨r1, r2, r3⟩ := rd_front zs.length 4 F (by omega)
    have r1' : rdN (be zs.length 4 ++ F) 0 4 = (zs.length : Nat) := r1
    have htl : (be zs.length 4 ++ F).length = 4 + F.length := by rw [List.length_append, be_length]
    have htk : tkOk (be zs.length 4 ++ F) 0 4 = true := by unfold tkOk; rw [htl]; simp; omega
    have hcn : cnOk (be zs.length 4 ++ F) 0 M = true := by
      unfold cnOk; rw [htk, r1', htl, decide_eq_true hm, decide_eq_true (by omega)]; rfl
    have hgl : glOk (be zs.length 4 ++ F) 0 M = true := by
      unfold glOk; rw [hcn, r1', htl, decide_eq_true (by omega)]; rfl
    have hd4 : (be zs.length 4 ++ F).drop 4 = F := List.drop_left' (be_length _ _)
    refine ⟨?_, ?_, ?_⟩
    · have : glX (be zs.length 4 ++ F) 0 M = zs := by unfold glX; rw [hgl, r1', Int.toNat_natCast, hd4]; exact hels
      simp [bkV, this]
    · have : glRest (be zs.length 4 ++ F) 0 M = R := by unfold glRest; rw [hgl, r1', Int.toNat_natCast, hd4]; exact hdr
      simp [bkR, this]
    · have : glE (be zs.length 4 ++ F) 0 M = 0 := by unfold glE; rw [hcn, hgl]; rfl
      simp [bkE, this]
  simp [bkV, bkR, bkE, enc, h1, h2, h3, h4, h5, h6, h7]

theorem tk_short (xs : List Nat) (k : Nat) (h : xs.length < k) : tkE xs 0 k = 20 := by
  have hk : tkOk xs 0 k = false := by unfold tkOk; simp; omega
  unfold tkE; rw [hk]; rfl

/-- a beginning that stops short -/
theorem back_short {K N Wd : Int} {Fl : Bool} {xs : List Nat} {zs : List Int} {M : Int} (h : Fit K N Wd xs zs M) (x0 y : List Nat) (hy : y ≠ []) (he : x0 ++ y = enc K N Wd Fl xs zs) : bkE x0 0 K xs M = 20 := by
  have hyl : 0 < y.length := List.length_pos_iff.2 hy
  have hlen : x0.length + y.length = (enc K N Wd Fl xs zs).length := by rw [← he, List.length_append]
  by_cases h1 : K = 1
  · subst h1
    have : (enc 1 N Wd Fl xs zs).length = 1 := by simp [enc, be_length]
    simp [bkE]; exact tk_short x0 1 (by omega)
  by_cases h2 : K = 2
  · subst h2
    have : (enc 2 N Wd Fl xs zs).length = 2 := by simp [enc, be_length]
    simp [bkE]; exact tk_short x0 2 (by omega)
  by_cases h3 : K = 3
  · subst h3
    have : (enc 3 N Wd Fl xs zs).length = 4 := by simp [enc, be_length]
    simp [bkE]; exact tk_short x0 4 (by omega)
  by_cases h4 : K = 4
  · subst h4
    have : (enc 4 N Wd Fl xs zs).length = 8 := by simp [enc, be64, be_length]
    simp [bkE]; exact tk_short x0 8 (by omega)
  by_cases h5 : K = 5
  · subst h5
    have : (enc 5 N Wd Fl xs zs).length = 1 := by simp [enc, flagB]
    have hx : x0 = [] := List.eq_nil_of_length_eq_zero (by omega)
    simp [bkE, hx, rbE]
  by_cases h6 : K = 6
  · subst h6
    have : (enc 6 N Wd Fl xs zs).length = xs.length := by simp [enc]
    simp [bkE]; exact tk_short x0 xs.length (by omega)
  by_cases h7 : K = 7
  · subst h7
    obtain ⟨hz, hm, hl⟩ := h.f7 rfl
    have e : enc 7 N Wd Fl xs zs = be zs.length 4 ++ (zs.map (fun z => be z.toNat 2)).flatten := by simp [enc]
    have hel : (enc 7 N Wd Fl xs zs).length = 4 + 2 * zs.length := by rw [e, List.length_append, be_length, flat_len]
    have hgE : glE x0 0 M = 20 := by
      by_cases hx4 : x0.length < 4
      · have hk : tkOk x0 0 4 = false := by unfold tkOk; simp; omega
        have hc : cnOk x0 0 M = false := by unfold cnOk; rw [hk]; rfl
        unfold glE; rw [hc]
        show cnE x0 0 M = 20
        unfold cnE; rw [if_neg (by simp), hk]; rfl
      · have hk : tkOk x0 0 4 = true := by unfold tkOk; simp; omega
        have ht4 : x0.take 4 = be zs.length 4 := by
          have h8 : (x0 ++ y).take 4 = be zs.length 4 := by rw [he, e, List.take_left' (be_length _ _)]
          rwa [List.take_append_of_le_length (by omega)] at h8
        have hr : rdN x0 0 4 = (zs.length : Nat) := by
          unfold rdN tkXs; rw [show ((4 : Nat) : Int) = 4 from rfl, hk]
          show ((val (x0.take 4) : Nat) : Int) = _
          rw [ht4, val_be _ 4 (by omega)]
        by_cases h9 : (x0.length : Int) - 4 < zs.length
        · have hc : cnOk x0 0 M = false := by unfold cnOk; rw [hr, decide_eq_false (show ¬ ((zs.length : Nat) : Int) ≤ (x0.length : Int) - 4 by omega)]; simp
          unfold glE; rw [hc]
          show cnE x0 0 M = 20
          unfold cnE; rw [if_neg (by simp), hk, if_neg (by simp), hr, if_neg (by omega), if_pos h9]
        · have hc : cnOk x0 0 M = true := by unfold cnOk; rw [hk, hr, decide_eq_true hm, decide_eq_true (show ((zs.length : Nat) : Int) ≤ (x0.length : Int) - 4 by omega)]; rfl
          have hg : glOk x0 0 M = false := by unfold glOk; rw [hc, hr, decide_eq_false (by omega)]; rfl
          unfold glE; rw [hc, hg]; rfl
    simp [bkE, hgE]
  have : (enc K N Wd Fl xs zs).length = 0 := by simp [enc, h1, h2, h3, h4, h5, h6, h7]
  omega

/-- a fault stays -/
theorem back_stuck (xs : List Nat) (K : Int) (bs : List Nat) (M : Int) : bkE xs 20 K bs M = 20 := by
  have ht : ∀ n, tkE xs 20 n = 20 := fun n => by unfold tkE; rw [if_pos (by decide)]
  have hr : rbE xs 20 = 20 := by unfold rbE; rw [if_pos (by decide)]
  have hk : tkOk xs 20 4 = false := by unfold tkOk; simp
  have hc : cnOk xs 20 M = false := by unfold cnOk; rw [hk]; rfl
  have hg : glE xs 20 M = 20 := by unfold glE; rw [hc]; show cnE xs 20 M = 20; unfold cnE; rw [if_pos (by decide)]
  unfold bkE
  rw [ht, ht, ht, ht, ht, hr, hg]
  simp

theorem enc_len {K N Wd : Int} {Fl : Bool} {xs : List Nat} {zs : List Int} : (enc K N Wd Fl xs zs).length ≤ 8 * (xs.length + zs.length + 1) := by
  unfold enc
  split; · rw [be_length]; omega
  split; · rw [be_length]; omega
  split; · rw [be_length]; omega
  split; · unfold be64; rw [be_length]; omega
  split; · simp [flagB]; omega
  split; · omega
  split
  · rw [List.length_append, be_length, flat_len]; omega
  · simp

end Go.Proofs.Ytakdfpenpodplaa
