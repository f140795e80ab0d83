/-
  'write': one call on a Writer.
-/
import Derived.Test.YtakdfpenpodplaaPutList
namespace Go.Proofs.Ytakdfpenpodplaa
open Go.RowKit
set_option linter.unusedVariables false

/-- an operation as a value -/
def opV (K N Wd : Int) (Fl : Bool) (ba : Option Addr) (bn bc : Nat) (la : Option Addr) (ln lc : Nat) (M : Int) : Value :=
  .agg #[.int .i64 K, .int .i64 N, .int .i64 Wd, .bool Fl, .slice ba bn bc, .slice la ln lc, .int .i64 M]
/-- what the Writer holds behind it -/
def wOp (bs : List Nat) (e K N Wd : Int) (Fl : Bool) (xs : List Nat) (zs : List Int) (M : Int) : List Nat × Int :=
  if K = 1 then (numBs bs e N 1, numE e N 1) else if K = 2 then (numBs bs e N 2, numE e N 2) else if K = 3 then (numBs bs e N 4, numE e N 4) else if K = 4 then (layBs bs e (be64 Wd), e)
  else if K = 5 then (layBs bs e (flagB Fl), e) else if K = 6 then (layBs bs e xs, e) else if K = 7 then pl bs e zs M else (bs, e)

set_option maxHeartbeats 2000000 in
theorem write_any (F G G' : Nat → Prop) (p : Nat) (bs : List Nat) (e K N Wd : Int) (Fl : Bool) (ba : Option Addr) (bn bc : Nat) (la : Option Addr) (ln lc : Nat) (M : Int) (xs : List Nat) (zs : List Int) (w : World)
    (h : Wr w F p bs e) (hN : N ≤ 9223372036854775807) (hsz : bs.length ≤ 100000000000) (hB : K = 6 → Bs w G ba bn bc xs ∧ bn ≤ 100000000000)
    (hZ : K = 7 → Zs w G' la ln lc zs ∧ (∀ k, G' k → ¬ F k) ∧ (∀ z ∈ zs, z ≤ 9223372036854775807) ∧ ln ≤ 100000000000) :
    Calls Try.prog 32 #[.pointer (some ⟨p, 0, none⟩), opV K N Wd Fl ba bn bc la ln lc M] w fun ex w' => ex = .returned (.tuple #[]) ∧ WrDid F p (wOp bs e K N Wd Fl xs zs M).1 (wOp bs e K N Wd Fl xs zs M).2 w w' := by
  unfold opV
  obtain ⟨W, hW⟩ : ∃ W, W = w.alloc (.cells #[.int .i64 K, .int .i64 N, .int .i64 Wd, .bool Fl, .slice ba bn bc, .slice la ln lc, .int .i64 M] 43) := ⟨_, rfl⟩
  have hk : Kept No w W := by rw [hW]; exact (Kept.refl No w).alloc _
  have hWr : Wr W F p bs e := h.kept hk (fun _ _ h => h)
  have HK : Hid (Kept No w W) := hk
  have HW0 : Hid (Wr w F p bs e) := h
  by_cases h1 : K = 1
  · subst h1
    have ew : wOp bs e 1 N Wd Fl xs zs M = (numBs bs e N 1, numE e N 1) := by unfold wOp; simp
    rw [ew]
    have cc := u8_any F p bs e N W hWr (by omega) hN
    rw [hW] at cc HK
    clear hk hWr h hW ew hB hZ
    go_enter Try.func32, Try.ntmps32
    go_wp2_with (go_at_call 48; refine cc.mono ?_; rintro ex w1 ⟨rfl, hd⟩)
    go_end0
    exact ⟨rfl, hd.ahead HK.out⟩
  by_cases h2 : K = 2
  · subst h2
    have ew : wOp bs e 2 N Wd Fl xs zs M = (numBs bs e N 2, numE e N 2) := by unfold wOp; simp
    rw [ew]
    have cc := u16_any F p bs e N W hWr (by omega) hN
    rw [hW] at cc HK
    clear hk hWr h hW ew hB hZ
    go_enter Try.func32, Try.ntmps32
    go_wp2_with (go_at_call 49; refine cc.mono ?_; rintro ex w1 ⟨rfl, hd⟩)
    go_end0
    exact ⟨rfl, hd.ahead HK.out⟩
  by_cases h3 : K = 3
  · subst h3
    have ew : wOp bs e 3 N Wd Fl xs zs M = (numBs bs e N 4, numE e N 4) := by unfold wOp; simp
    rw [ew]
    have cc := u32_any F p bs e N W hWr (by omega) hN
    rw [hW] at cc HK
    clear hk hWr h hW ew hB hZ
    go_enter Try.func32, Try.ntmps32
    go_wp2_with (go_at_call 47; refine cc.mono ?_; rintro ex w1 ⟨rfl, hd⟩)
    go_end0
    exact ⟨rfl, hd.ahead HK.out⟩
  by_cases h4 : K = 4
  · subst h4
    have ew : wOp bs e 4 N Wd Fl xs zs M = (layBs bs e (be64 Wd), e) := by unfold wOp; simp
    rw [ew]
    have cc := i64_any F p bs e Wd W hWr (by omega)
    rw [hW] at cc HK
    clear hk hWr h hW ew hB hZ
    go_enter Try.func32, Try.ntmps32
    go_wp2_with (go_at_call 61; refine cc.mono ?_; rintro ex w1 ⟨rfl, hd⟩)
    go_end0
    exact ⟨rfl, hd.ahead HK.out⟩
  by_cases h5 : K = 5
  · subst h5
    have ew : wOp bs e 5 N Wd Fl xs zs M = (layBs bs e (flagB Fl), e) := by unfold wOp; simp
    rw [ew]
    have cc := bool_any F p bs e Fl W hWr (by omega)
    rw [hW] at cc HK
    clear hk hWr h hW ew hB hZ
    go_enter Try.func32, Try.ntmps32
    go_wp2_with (go_at_call 50; refine cc.mono ?_; rintro ex w1 ⟨rfl, hd⟩)
    go_end0
    exact ⟨rfl, hd.ahead HK.out⟩
  by_cases h6 : K = 6
  · subst h6
    have ew : wOp bs e 6 N Wd Fl xs zs M = (layBs bs e xs, e) := by unfold wOp; simp
    rw [ew]
    obtain ⟨b1, b2⟩ := hB rfl
    have cc := bytes_any F G p bs e ba bn bc xs W hWr (b1.kept hk (fun _ _ h => h)) (by omega)
    rw [hW] at cc HK
    clear hk hWr h hW ew hB hZ b1
    go_enter Try.func32, Try.ntmps32
    go_wp2_with (go_at_call 46; refine cc.mono ?_; rintro ex w1 ⟨rfl, hd⟩)
    go_end0
    exact ⟨rfl, hd.ahead HK.out⟩
  by_cases h7 : K = 7
  · subst h7
    have ew : wOp bs e 7 N Wd Fl xs zs M = pl bs e zs M := by unfold wOp; simp
    rw [ew]
    obtain ⟨b1, b2, b3, b4⟩ := hZ rfl
    have cc := putList63_any F G' p bs e la ln lc zs M W hWr (b1.kept hk (fun _ _ h => h)) b2 b3 (by omega)
    rw [hW] at cc HK
    clear hk hWr h hW ew hB hZ b1 b2 b3
    go_enter Try.func32, Try.ntmps32
    go_wp2_with (go_at_call 62; refine cc.mono ?_; rintro ex w1 ⟨rfl, hd⟩)
    go_end0
    exact ⟨rfl, hd.ahead HK.out⟩
  have ew : wOp bs e K N Wd Fl xs zs M = (bs, e) := by unfold wOp; simp [h1, h2, h3, h4, h5, h6, h7]
  rw [ew]
  have q1 : (K == 1) = false := by simpa using h1
  have q2 : (K == 2) = false := by simpa using h2
  have q3 : (K == 3) = false := by simpa using h3
  have q4 : (K == 4) = false := by simpa using h4
  have q5 : (K == 5) = false := by simpa using h5
  have q6 : (K == 6) = false := by simpa using h6
  have q7 : (K == 7) = false := by simpa using h7
  rw [hW] at HK
  clear hk hWr h hW ew hB hZ h1 h2 h3 h4 h5 h6 h7
  go_enter Try.func32, Try.ntmps32
  go_wp2
  go_end0
  exact ⟨rfl, WrDid.still HW0.out HK.out⟩

end Go.Proofs.Ytakdfpenpodplaa
