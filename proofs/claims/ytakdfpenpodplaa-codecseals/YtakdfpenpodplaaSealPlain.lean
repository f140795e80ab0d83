/-
  What is sealed: plain.
-/
import Derived.Test.YtakdfpenpodplaaUnseal
namespace Go.Proofs.Ytakdfpenpodplaa
set_option linter.unusedVariables false

theorem be4 (x : Nat) : be x 4 = [x / 16777216 % 256, x / 65536 % 256, x / 256 % 256, x % 256] := by
  simp [be, List.range_succ]
theorem be4_inj {x y : Nat} (hx : x < 4294967296) (hy : y < 4294967296) (h : be x 4 = be y 4) : x = y := by
  rw [be4, be4] at h
  simp only [List.cons.injEq, and_true] at h
  omega
theorem le4 (x : Nat) : le x 4 = [x % 256, x / 256 % 256, x / 65536 % 256, x / 16777216 % 256] := by
  simp [le, List.range_succ]
theorem le4_inj {x y : Nat} (hx : x < 4294967296) (hy : y < 4294967296) (h : le x 4 = le y 4) : x = y := by
  rw [le4, le4] at h
  simp only [List.cons.injEq, and_true] at h
  omega
theorem sealHead_length (kind : Nat) (xs : List Nat) : (sealHead kind xs).length = xs.length + 8 := by
  unfold sealHead; simp [be_length]; omega
theorem sealed_length (kind : Nat) (xs : List Nat) : (sealed kind xs).length = xs.length + 12 := by
  unfold sealed; rw [List.length_append, sealHead_length, le_length]
theorem sealed_cons (kind : Nat) (xs : List Nat) : sealed kind xs = ([66, 75, kind, 1] ++ be xs.length 4) ++ (xs ++ le (crc (sealHead kind xs)) 4) := by
  unfold sealed sealHead; simp [List.append_assoc]
theorem head8 (kind n : Nat) : ([66, 75, kind, 1] ++ be n 4).length = 8 := by simp [be_length]
theorem inner_sealed (kind : Nat) (xs : List Nat) : inner (sealed kind xs) = xs := by
  unfold inner
  rw [sealed_length, sealed_cons, List.drop_left' (head8 _ _), List.take_left' (by omega)]
theorem unsOk_iff (kind : Nat) (xs : List Nat) : unsOk kind xs = true ↔ xs.length ≤ 4194316 ∧ ∃ ys, xs = sealed kind ys := by
  unfold unsOk
  simp only [Bool.and_eq_true, decide_eq_true_eq]
  constructor
  · rintro ⟨⟨h1, h2⟩, h3⟩; exact ⟨h2, inner xs, h3.symm⟩
  · rintro ⟨h1, ys, rfl⟩
    refine ⟨⟨by rw [sealed_length]; omega, h1⟩, by rw [inner_sealed]⟩
theorem unsE_no {kind : Nat} {xs : List Nat} (hl : xs.length ≤ 4194316) (h : ∀ ys, xs ≠ sealed kind ys) : unsE kind xs = 20 ∧ unsX kind xs = [] := by
  have h1 : unsOk kind xs = false := by
    cases hk : unsOk kind xs with
    | false => rfl
    | true => obtain ⟨_, ys, h2⟩ := (unsOk_iff kind xs).1 hk; exact absurd h2 (h ys)
  constructor
  · unfold unsE; rw [if_neg (by omega), h1]; rfl
  · unfold unsX; rw [h1]; rfl
theorem unsE_yes (kind : Nat) (ys : List Nat) (hl : ys.length ≤ 4194304) : unsE kind (sealed kind ys) = 0 ∧ unsX kind (sealed kind ys) = ys := by
  have h1 : unsOk kind (sealed kind ys) = true := (unsOk_iff _ _).2 ⟨by rw [sealed_length]; omega, ys, rfl⟩
  constructor
  · unfold unsE; rw [if_neg (by rw [sealed_length]; omega), h1]; rfl
  · unfold unsX; rw [h1, inner_sealed]; rfl

/-- two sealed texts whose first eight bytes agree are as long -/
theorem same_head {kind kind' : Nat} {xs ys : List Nat} (hx : xs.length < 4294967296) (hy : ys.length < 4294967296) (h : (sealed kind xs).take 8 = (sealed kind' ys).take 8) : kind = kind' ∧ xs.length = ys.length := by
  rw [sealed_cons, sealed_cons, List.take_left' (head8 _ _), List.take_left' (head8 _ _)] at h
  have h1 : kind = kind' ∧ be xs.length 4 = be ys.length 4 := by simpa using h
  exact ⟨h1.1, be4_inj hx hy h1.2⟩

theorem cut_no {kind : Nat} {xs : List Nat} (cut : Nat) (hl : xs.length ≤ 4194304) (hc : cut < xs.length + 12) : unsE kind ((sealed kind xs).take cut) = 20 := by
  refine (unsE_no (by rw [List.length_take, sealed_length]; omega) ?_).1
  intro ys h
  have h1 : cut = ys.length + 12 := by
    have := congrArg List.length h
    rw [List.length_take, sealed_length, sealed_length] at this; omega
  have h2 : ((sealed kind xs).take cut).take 8 = (sealed kind ys).take 8 := by rw [h]
  rw [List.take_take, Nat.min_eq_left (by omega)] at h2
  have := (same_head (by omega) (by omega) h2).2
  omega
theorem more_no {kind : Nat} {xs more : List Nat} (hl : xs.length ≤ 4194304) (hm : 0 < more.length) (hs : xs.length + 12 + more.length ≤ 4194316) : unsE kind (sealed kind xs ++ more) = 20 := by
  refine (unsE_no (by rw [List.length_append, sealed_length]; omega) ?_).1
  intro ys h
  have h1 : xs.length + 12 + more.length = ys.length + 12 := by
    have := congrArg List.length h
    rw [List.length_append, sealed_length, sealed_length] at this; omega
  have h2 : (sealed kind xs ++ more).take 8 = (sealed kind ys).take 8 := by rw [h]
  rw [List.take_append_of_le_length (by rw [sealed_length]; omega)] at h2
  have := (same_head (by omega) (by omega) h2).2
  omega
theorem other_no {kind other : Nat} {xs : List Nat} (hl : xs.length ≤ 4194304) (ho : other ≠ kind) : unsE other (sealed kind xs) = 20 := by
  refine (unsE_no (by rw [sealed_length]; omega) ?_).1
  intro ys h
  have h1 := congrArg List.length h
  rw [sealed_length, sealed_length] at h1
  have h2 : (sealed kind xs).take 8 = (sealed other ys).take 8 := by rw [h]
  exact ho (same_head (by omega) (by omega) h2).1.symm

theorem xor_rc {a b c : Nat} (h : a ^^^ c = b ^^^ c) : a = b := by
  have := congrArg (· ^^^ c) h
  simpa [Nat.xor_assoc] using this
theorem xor_lc {a b c : Nat} (h : c ^^^ a = c ^^^ b) : a = b := xor_rc (c := c) (by rw [Nat.xor_comm a c, Nat.xor_comm b c]; exact h)

/-! the check sum tells one byte from another -/
theorem crcBit_top {r : Nat} (h : r < 4294967296) : (crcBit r).testBit 31 = decide (r % 2 = 1) := by
  unfold crcBit
  rw [Nat.testBit_xor, Nat.testBit_lt_two_pow (show r / 2 < 2 ^ 31 by omega)]
  have h2 : r % 2 = 0 ∨ r % 2 = 1 := by omega
  rcases h2 with h2 | h2 <;> rw [h2] <;> decide
theorem crcBit_inj {r s : Nat} (hr : r < 4294967296) (hs : s < 4294967296) (h : crcBit r = crcBit s) : r = s := by
  have h1 := crcBit_top hr
  have h2 := crcBit_top hs
  rw [h, h2] at h1
  have h3 : r % 2 = s % 2 := by
    have e : (s % 2 = 1) ↔ (r % 2 = 1) := by simpa using h1
    omega
  unfold crcBit at h
  rw [h3] at h
  have h4 : r / 2 = s / 2 := xor_rc h
  omega
theorem crcBits_inj {r s : Nat} (hr : r < 4294967296) (hs : s < 4294967296) : ∀ k, crcBits k r = crcBits k s → r = s
  | 0, h => h
  | k + 1, h => crcBits_inj hr hs k (crcBit_inj (crcBits_lt hr k) (crcBits_lt hs k) h)
theorem fold_inj : ∀ (l : List Nat) (r s : Nat), (∀ x ∈ l, x < 256) → r < 4294967296 → s < 4294967296 → l.foldl crcByte r = l.foldl crcByte s → r = s := by
  intro l
  induction l with
  | nil => intro r s _ _ _ h; exact h
  | cons x l ih =>
    intro r s hl hr hs h
    have hx := hl x (List.mem_cons_self ..)
    have h1 := ih _ _ (fun y hy => hl y (List.mem_cons_of_mem _ hy)) (crcByte_lt hr hx) (crcByte_lt hs hx) h
    have h2 := crcBits_inj (xor_lt hr (show x < 4294967296 by omega)) (xor_lt hs (show x < 4294967296 by omega)) 8 h1
    exact xor_rc h2
theorem crc_apart (l t : List Nat) (x y : Nat) (hl : ∀ z ∈ l, z < 256) (ht : ∀ z ∈ t, z < 256) (hx : x < 256) (hy : y < 256) (h : crc (l ++ x :: t) = crc (l ++ y :: t)) : x = y := by
  have hb : ∀ z, (∀ u ∈ l ++ z :: t, u < 256) → crcReg (l ++ z :: t) < 4294967296 := by
    intro z hz
    have := crcReg_lt (l ++ z :: t) hz (l ++ z :: t).length
    rw [List.take_length] at this
    exact this
  have mem : ∀ z, z < 256 → ∀ u ∈ l ++ z :: t, u < 256 := by
    intro z hz u hu
    rcases List.mem_append.1 hu with h1 | h1
    · exact hl u h1
    · rcases List.mem_cons.1 h1 with h2 | h2
      · rw [h2]; exact hz
      · exact ht u h2
  have h1 : crcReg (l ++ x :: t) = crcReg (l ++ y :: t) := by
    have a := hb x (mem x hx)
    have b := hb y (mem y hy)
    unfold crc at h; omega
  have hR : l.foldl crcByte 4294967295 < 4294967296 := by
    have := crcReg_lt l hl l.length
    rw [List.take_length] at this
    exact this
  unfold crcReg at h1
  rw [List.foldl_append, List.foldl_append, List.foldl_cons, List.foldl_cons] at h1
  have h2 := fold_inj t _ _ ht (crcByte_lt hR hx) (crcByte_lt hR hy) h1
  have h3 := crcBits_inj (xor_lt hR (show x < 4294967296 by omega)) (xor_lt hR (show y < 4294967296 by omega)) 8 h2
  exact xor_lc h3

theorem sealed_lt {kind : Nat} {xs : List Nat} (hk : kind < 256) (hx : ∀ x ∈ xs, x < 256) : ∀ x ∈ sealed kind xs, x < 256 := by
  intro x hx'
  unfold sealed sealHead at hx'
  simp only [List.mem_append] at hx'
  rcases hx' with ((h | h) | h) | h
  · simp at h; omega
  · exact be_lt _ _ x h
  · exact hx x h
  · unfold le at h; rw [List.mem_map] at h; obtain ⟨i, _, rfl⟩ := h; exact Nat.mod_lt _ (by decide)

theorem head_get (kind : Nat) (xs : List Nat) (i : Nat) (h : i < 8) : (sealed kind xs)[i]? = ([66, 75, kind, 1] ++ be xs.length 4)[i]? := by
  rw [sealed_cons]; exact List.getElem?_append_left (by rw [head8]; exact h)

/-- one byte turned -/
theorem turn_no {kind : Nat} {xs : List Nat} (hl : xs.length ≤ 4194304) (hk : kind < 256) (hx : ∀ x ∈ xs, x < 256) (i y : Nat) (hi : i < xs.length + 12) (hy : y < 256) (hne : y ≠ (sealed kind xs).getD i 0) :
    unsE kind ((sealed kind xs).set i y) = 20 ∧ unsX kind ((sealed kind xs).set i y) = [] := by
  refine unsE_no (by rw [List.length_set, sealed_length]; omega) ?_
  intro ys h
  have hlen : xs.length = ys.length := by
    have := congrArg List.length h
    rw [List.length_set, sealed_length, sealed_length] at this; omega
  have hget : ∀ j : Nat, ((sealed kind xs).set i y)[j]? = (sealed kind ys)[j]? := fun j => by rw [h]
  have hi' : i < (sealed kind xs).length := by rw [sealed_length]; exact hi
  have hat : (sealed kind ys)[i]? = some y := by rw [← hget i, List.getElem?_set_self hi']
  have hne2 : (sealed kind xs)[i]? ≠ some y := by
    intro h2
    apply hne
    rw [List.getD, h2]; rfl
  -- the head
  by_cases h8 : i < 8
  · apply hne2
    rw [← hat, head_get kind xs i h8, head_get kind ys i h8, hlen]
  · have hin : inner ((sealed kind xs).set i y) = ys := by rw [h, inner_sealed]
    by_cases hm : i < xs.length + 8
    · obtain ⟨j, rfl⟩ : ∃ j, i = 8 + j := ⟨i - 8, by omega⟩
      have hset : (sealed kind xs).set (8 + j) y = ([66, 75, kind, 1] ++ be xs.length 4) ++ (xs.set j y ++ le (crc (sealHead kind xs)) 4) := by
        rw [sealed_cons, List.set_append_right _ _ (by rw [head8]; omega), head8, List.set_append_left _ _ (by omega)]
        congr 2
        congr 1
        omega
      have hys : ys = xs.set j y := by
        rw [← hin, hset]
        unfold inner
        rw [List.drop_left' (head8 _ _), List.take_left']
        simp [be_length, le_length]; omega
      rw [hset, sealed_cons, ← hlen] at h
      have h2 := List.append_cancel_left h
      rw [← hys] at h2
      have h3 := le4_inj (crc_lt _) (crc_lt _) (List.append_cancel_left h2)
      have hj : j < xs.length := by omega
      have ex : xs = xs.take j ++ xs[j] :: xs.drop (j + 1) := by rw [List.getElem_cons_drop, List.take_append_drop]
      have ey : xs.set j y = xs.take j ++ y :: xs.drop (j + 1) := by rw [List.set_eq_take_append_cons_drop, if_pos hj]
      have hsx : sealHead kind xs = ([66, 75, kind, 1] ++ be xs.length 4 ++ xs.take j) ++ xs[j] :: xs.drop (j + 1) := by
        unfold sealHead; rw [List.append_assoc _ (xs.take j), ← ex]
      have hsy : sealHead kind ys = ([66, 75, kind, 1] ++ be xs.length 4 ++ xs.take j) ++ y :: xs.drop (j + 1) := by
        unfold sealHead; rw [List.append_assoc _ (xs.take j), ← ey, ← hys, ← hlen]
      rw [hsx, hsy] at h3
      have h4 := crc_apart _ _ _ _ (by
        intro z hz
        rcases List.mem_append.1 hz with h5 | h5
        · rcases List.mem_append.1 h5 with h6 | h6
          · simp at h6; omega
          · exact be_lt _ _ z h6
        · exact hx z (List.mem_of_mem_take h5)) (fun z hz => hx z (List.mem_of_mem_drop hz)) (hx _ (List.getElem_mem _)) hy h3
      apply hne2
      rw [sealed_cons, List.getElem?_append_right (by rw [head8]; omega), head8, Nat.add_sub_cancel_left, List.getElem?_append_left hj, List.getElem?_eq_getElem hj, h4]
    · obtain ⟨j, rfl⟩ : ∃ j, i = 8 + (xs.length + j) := ⟨i - 8 - xs.length, by omega⟩
      have hset : (sealed kind xs).set (8 + (xs.length + j)) y = ([66, 75, kind, 1] ++ be xs.length 4) ++ (xs ++ (le (crc (sealHead kind xs)) 4).set j y) := by
        rw [sealed_cons, List.set_append_right _ _ (by rw [head8]; omega), head8, Nat.add_sub_cancel_left, List.set_append_right _ _ (by omega), Nat.add_sub_cancel_left]
      have hys : ys = xs := by
        rw [← hin, hset]
        unfold inner
        rw [List.drop_left' (head8 _ _), List.take_left']
        simp [be_length, le_length]; omega
      subst hys
      exact hne2 hat

end Go.Proofs.Ytakdfpenpodplaa
