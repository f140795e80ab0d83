/-
  The Reader's numbers.
-/
import Derived.Test.YtakdfpenpodplaaRd
namespace Go.Proofs.Ytakdfpenpodplaa
open Go.RowKit
set_option linter.unusedVariables false

/-- the number that bytes tell, the highest first -/
def val (l : List Nat) : Nat := l.foldl (fun x b => x * 256 + b) 0
theorem val_snoc (l : List Nat) (b : Nat) : val (l ++ [b]) = val l * 256 + b := by simp [val]
theorem val_take (l : List Nat) (j : Nat) (h : j < l.length) : val (l.take (j + 1)) = val (l.take j) * 256 + l.getD j 0 := by
  rw [List.take_add_one, List.getElem?_eq_getElem h]
  show val (l.take j ++ [l[j]]) = _
  rw [val_snoc]; simp [List.getD, h]
theorem val_lt (l : List Nat) (h : ∀ x ∈ l, x < 256) : ∀ j, j ≤ l.length → val (l.take j) < 256 ^ j := by
  intro j
  induction j with
  | zero => intro _; simp [val]
  | succ j ih =>
    intro hj
    have h1 := ih (by omega)
    rw [val_take l j (by omega), Nat.pow_succ]
    have h2 : l.getD j 0 < 256 := by
      have : l.getD j 0 = l[j] := by simp [List.getD, show j < l.length by omega]
      rw [this]; exact h _ (List.getElem_mem _)
    omega
theorem or_byte (x b : Nat) (hb : b < 256) : (x * 256) ||| b = x * 256 + b := by
  have := Nat.shiftLeft_add_eq_or_of_lt (i := 8) (b := b) hb x
  rw [Nat.shiftLeft_eq] at this
  exact this.symm

theorem Rd.of_v {w : World} {F : Nat → Prop} {p : Nat} {a : Option Addr} {n c : Nat} {xs : List Nat} {e : Int} (h : RdV w F p a n c xs e) : Rd w F p xs e := ⟨a, n, c, h⟩

theorem newReader_any (G : Nat → Prop) (a : Option Addr) (n c : Nat) (xs : List Nat) (w : World) (h : Bs w G a n c xs) (hsz : n ≤ 140737488355328) :
    Calls Try.prog 22 #[.slice a n c] w fun ex w' => ∃ p, ex = .returned (.pointer (some ⟨p, 0, none⟩)) ∧ Rd w' (fun k => w.heap.size ≤ k ∧ k < w'.heap.size) p xs 0 ∧ Below w.heap.size w w' := by
  have cc := clone_any G a n c xs w h hsz
  have hl := h.lt
  clear h
  go_enter Try.func22, Try.ntmps22
  go_wp2_with (go_at_call 52; refine cc.mono ?_; rintro ex w1 ⟨v, rfl, own, bel⟩; obtain ⟨a1, c1, rfl, hB⟩ := Bs.of_owns own hl)
  go_ret
  refine ⟨w1.heap.size, rfl, ⟨a1, xs.length, c1, ?_, ?_, ?_, ?_⟩, bel.alloc bel.size _⟩
  · exact heap_alloc_new _ _
  · refine (hB.kept ((Kept.refl No w1).alloc _) (fun _ _ h => h)).mono (fun k hk => ?_)
    have := own.lt k hk
    refine ⟨⟨this.1, by simp; omega⟩, by omega⟩
  · exact ⟨bel.size, by simp⟩
  · intro k hk; exact hk.2

set_option maxHeartbeats 1000000 in
theorem rnumber_any (F : Nat → Prop) (p : Nat) (xs : List Nat) (e : Int) (width : Nat) (w : World) (h : Rd w F p xs e) (hw : width ≤ 8) :
    Calls Try.prog 58 #[.pointer (some ⟨p, 0, none⟩), .int .i64 width] w fun ex w' => ex = .returned (.int .u64 (val (tkXs xs e width))) ∧ RdDid F p (tkRest xs e width) (tkE xs e width) w w' := by
  have cc := take_any F p xs e width w h
  clear h
  have hlen : (tkXs xs e width).length ≤ 8 := by unfold tkXs; split <;> simp <;> omega
  obtain ⟨ys, hys⟩ : ∃ ys, ys = tkXs xs e width := ⟨_, rfl⟩
  rw [← hys] at cc hlen ⊢
  clear hys
  go_enter Try.func58, Try.ntmps58
  go_wp2_with (go_at_call 59; refine cc.mono ?_; rintro ex w1 ⟨a, k, c, rfl, hB, hd⟩; have HB : Hid (Bs w1 (fun b => F b ∧ b ≠ p) a k c ys) := hB; have HD : Hid (RdDid F p (tkRest xs e width) (tkE xs e width) w w1) := hd; have hk := hB.len; clear hB hd)
  go_loop [5, 12] (fun x i => ∃ j : Nat, j ≤ k ∧ i = .int .i64 j ∧ x = .int .u64 (val (ys.take j) : Nat)) (fun _ i => k - (intOf i).toNat)
  case atStart => exact ⟨0, by omega, rfl, rfl⟩
  case round =>
    obtain ⟨j, hj, rfl, rfl⟩ := hrel
    by_cases hlt : j < k
    · obtain ⟨b, o, rfl, _, hc0⟩ := HB.out.at' j hlt
      have hB := HB.out
      have hlen2 : j < ys.length := by omega
      obtain ⟨y, hy⟩ : ∃ y, y = ys.getD j 0 := ⟨_, rfl⟩
      have hc : w1.cell? ⟨b, o + j, none⟩ = some (.int .u8 (y : Nat)) := by rw [hy]; exact hc0
      have hv := val_lt ys hB.lt j (by omega)
      have hv2 := val_take ys j hlen2
      rw [← hy] at hv2
      obtain ⟨X, hX⟩ : ∃ X, X = val (ys.take j) := ⟨_, rfl⟩
      have hy2 : y < 256 := by
        have : ys.getD j 0 = ys[j] := by simp [List.getD, hlen2]
        rw [hy, this]; exact hB.lt _ (List.getElem_mem _)
      have hXl : X < 72057594037927936 := by
        rw [hX]; exact Nat.lt_of_lt_of_le hv (Nat.le_trans (Nat.pow_le_pow_right (by decide) (show j ≤ 7 by omega)) (by decide))
      rw [← hX]
      have e1 : IntKind.u64.wrap ((X : Int) * 256) = (X : Int) * 256 := by rw [IntKind.wrap_u64]; omega
      have e2 : bits .or .u64 ((X : Int) * 256) (y : Int) = (X : Int) * 256 + y := by
        have h1 := bits_or_u64_nat (X * 256) y (by omega) (by omega)
        rw [or_byte X y hy2] at h1
        simpa using h1
      have HV2 : Hid (val (ys.take (j + 1)) = X * 256 + y) := by rw [hX]; exact hv2
      clear hc0 hB hv hv2 hy hX
      go_wp2
      go_round
      case rel =>
        refine ⟨j + 1, by omega, by go_num, ?_⟩
        rw [HV2.out]; simp
      case measure => simp [intOf]; omega
    · have hjk : j = k := by omega
      subst hjk
      rw [List.take_of_length_le (by omega)]
      go_wp2
      go_ret
      exact ⟨rfl, HD.out⟩

/-- a number of width bytes, as an int -/
def rdN (xs : List Nat) (e : Int) (width : Nat) : Int := val (tkXs xs e width)
theorem tkXs_lt {xs : List Nat} (e n : Int) (h : ∀ x ∈ xs, x < 256) : ∀ x ∈ tkXs xs e n, x < 256 := by
  unfold tkXs; split
  · exact fun x hx => h x (List.mem_of_mem_take hx)
  · intro x hx; cases hx
theorem tkXs_len (xs : List Nat) (e : Int) (n : Nat) : (tkXs xs e n).length ≤ n := by
  unfold tkXs; split
  · simp; omega
  · simp
theorem rdN_lt {xs : List Nat} (e : Int) (width : Nat) (h : ∀ x ∈ xs, x < 256) : 0 ≤ rdN xs e width ∧ rdN xs e width < 256 ^ width := by
  refine ⟨by unfold rdN; omega, ?_⟩
  have h1 := val_lt _ (tkXs_lt e width h) _ (Nat.le_refl _)
  rw [List.take_of_length_le (Nat.le_refl _)] at h1
  have h2 : (256 : Nat) ^ (tkXs xs e width).length ≤ 256 ^ width := Nat.pow_le_pow_right (by decide) (tkXs_len xs e width)
  have h3 : val (tkXs xs e width) < 256 ^ width := by omega
  have h4 : ((val (tkXs xs e width) : Nat) : Int) < ((256 ^ width : Nat) : Int) := Int.ofNat_lt.2 h3
  rw [Int.natCast_pow] at h4
  exact h4
theorem Rd.lt {w : World} {F : Nat → Prop} {p : Nat} {xs : List Nat} {e : Int} (h : Rd w F p xs e) : ∀ x ∈ xs, x < 256 := by
  obtain ⟨a, n, c, hv⟩ := h; exact hv.bs.lt

theorem ru8_any (F : Nat → Prop) (p : Nat) (xs : List Nat) (e : Int) (w : World) (h : Rd w F p xs e) :
    Calls Try.prog 24 #[.pointer (some ⟨p, 0, none⟩)] w fun ex w' => ex = .returned (.int .i64 (rdN xs e 1)) ∧ RdDid F p (tkRest xs e 1) (tkE xs e 1) w w' := by
  have cc : Calls Try.prog 58 #[.pointer (some ⟨p, 0, none⟩), .int .i64 1] w fun ex w' => ex = .returned (.int .u64 (rdN xs e 1)) ∧ RdDid F p (tkRest xs e 1) (tkE xs e 1) w w' := rnumber_any F p xs e 1 w h (by omega)
  have hb := rdN_lt e 1 h.lt
  obtain ⟨x, hx⟩ : ∃ x, x = rdN xs e 1 := ⟨_, rfl⟩
  rw [← hx] at cc hb ⊢
  have e1 : IntKind.i64.wrap x = x := by rw [IntKind.wrap_i64]; omega
  clear h hb hx
  go_enter Try.func24, Try.ntmps24
  go_wp2_with (go_at_call 58; refine cc.mono ?_; rintro ex w1 ⟨rfl, hd⟩)
  go_ret
  exact ⟨rfl, hd⟩

theorem ru16_any (F : Nat → Prop) (p : Nat) (xs : List Nat) (e : Int) (w : World) (h : Rd w F p xs e) :
    Calls Try.prog 25 #[.pointer (some ⟨p, 0, none⟩)] w fun ex w' => ex = .returned (.int .i64 (rdN xs e 2)) ∧ RdDid F p (tkRest xs e 2) (tkE xs e 2) w w' := by
  have cc : Calls Try.prog 58 #[.pointer (some ⟨p, 0, none⟩), .int .i64 2] w fun ex w' => ex = .returned (.int .u64 (rdN xs e 2)) ∧ RdDid F p (tkRest xs e 2) (tkE xs e 2) w w' := rnumber_any F p xs e 2 w h (by omega)
  have hb := rdN_lt e 2 h.lt
  obtain ⟨x, hx⟩ : ∃ x, x = rdN xs e 2 := ⟨_, rfl⟩
  rw [← hx] at cc hb ⊢
  have e1 : IntKind.i64.wrap x = x := by rw [IntKind.wrap_i64]; omega
  clear h hb hx
  go_enter Try.func25, Try.ntmps25
  go_wp2_with (go_at_call 58; refine cc.mono ?_; rintro ex w1 ⟨rfl, hd⟩)
  go_ret
  exact ⟨rfl, hd⟩

theorem ru32_any (F : Nat → Prop) (p : Nat) (xs : List Nat) (e : Int) (w : World) (h : Rd w F p xs e) :
    Calls Try.prog 26 #[.pointer (some ⟨p, 0, none⟩)] w fun ex w' => ex = .returned (.int .i64 (rdN xs e 4)) ∧ RdDid F p (tkRest xs e 4) (tkE xs e 4) w w' := by
  have cc : Calls Try.prog 58 #[.pointer (some ⟨p, 0, none⟩), .int .i64 4] w fun ex w' => ex = .returned (.int .u64 (rdN xs e 4)) ∧ RdDid F p (tkRest xs e 4) (tkE xs e 4) w w' := rnumber_any F p xs e 4 w h (by omega)
  have hb := rdN_lt e 4 h.lt
  obtain ⟨x, hx⟩ : ∃ x, x = rdN xs e 4 := ⟨_, rfl⟩
  rw [← hx] at cc hb ⊢
  have e1 : IntKind.i64.wrap x = x := by rw [IntKind.wrap_i64]; omega
  clear h hb hx
  go_enter Try.func26, Try.ntmps26
  go_wp2_with (go_at_call 58; refine cc.mono ?_; rintro ex w1 ⟨rfl, hd⟩)
  go_ret
  exact ⟨rfl, hd⟩

/-- a number of eight bytes, as an int64 -/
def rdI (xs : List Nat) (e : Int) : Int := wrap64 (rdN xs e 8)
theorem ri64_any (F : Nat → Prop) (p : Nat) (xs : List Nat) (e : Int) (w : World) (h : Rd w F p xs e) :
    Calls Try.prog 27 #[.pointer (some ⟨p, 0, none⟩)] w fun ex w' => ex = .returned (.int .i64 (rdI xs e)) ∧ RdDid F p (tkRest xs e 8) (tkE xs e 8) w w' := by
  have cc : Calls Try.prog 58 #[.pointer (some ⟨p, 0, none⟩), .int .i64 8] w fun ex w' => ex = .returned (.int .u64 (rdN xs e 8)) ∧ RdDid F p (tkRest xs e 8) (tkE xs e 8) w w' := rnumber_any F p xs e 8 w h (by omega)
  unfold rdI
  clear h
  go_enter Try.func27, Try.ntmps27
  go_wp2_with (go_at_call 58; refine cc.mono ?_; rintro ex w1 ⟨rfl, hd⟩)
  go_ret
  exact ⟨rfl, hd⟩

end Go.Proofs.Ytakdfpenpodplaa
