/-
  The document's writer Out: I64, Bool, Count, Done.
-/
import Derived.Test.YtakdfpenpodplaaRefOut2
import Derived.BigQuiet
namespace Go.Proofs.Ytakdfpenpodplaa
open Go.RowKit
set_option linter.unusedVariables false

set_option maxHeartbeats 1000000 in
theorem i64Out_any (F : Nat → Prop) (p : Nat) (bs : List Nat) (e x : Int) (w : World) (h : Ou w F p bs e) (hsz : bs.length ≤ 100000000000) :
    Calls Try.prog 83 #[.pointer (some ⟨p, 0, none⟩), .int .i64 x] w fun ex w' => ex = .returned (.tuple #[]) ∧ OuDid F p (layBs bs e (be64 x)) e w w' := by
  obtain ⟨xn, hxn⟩ : ∃ xn : Nat, (xn : Int) = x % 18446744073709551616 := ⟨(x % 18446744073709551616).toNat, by omega⟩
  have e0 : be64 x = be xn 8 := by unfold be64; rw [← hxn]; rfl
  rw [e0]
  have c53 := number_ref_any xn 8 w (by omega) (by omega)
  have H : Hid (Ou w F p bs e) := h
  have w1 : IntKind.u64.wrap x = (xn : Int) := by rw [IntKind.wrap_u64]; exact hxn.symm
  have w2 : x % 18446744073709551616 = (xn : Int) := hxn.symm
  clear h e0 hxn
  go_enter Try.func83, Try.ntmps83
  go_wp2_with (first | (go_at_call 53; refine c53.mono ?_; rintro ex w2 ⟨v, rfl, own, bel⟩; obtain ⟨a2, k2, rfl, hB⟩ := Bs.of_owns (xs := be xn 8) (by rw [be_length]; exact own) (be_lt xn 8); have K2 : Hid (Kept F w w2) := Kept.of_below bel; have c85 := putOut_any F _ p bs e a2 _ k2 (be xn 8) w2 (H.out.kept (Kept.of_below (F := No) bel) (fun _ _ h => h)) hB (by rw [be_length]; omega); clear hB own bel) | (go_at_call 85; refine c85.mono ?_; rintro ex w3 ⟨rfl, hd⟩))
  go_end0
  obtain ⟨F', ho, wt⟩ := hd
  exact ⟨rfl, F', ho, Went.trans ⟨K2.out, fun _ h => .inl h⟩ wt⟩

/-- a new row of one byte -/
theorem bs_one (w : World) (x : Nat) (hx : x < 256) : Bs (w.alloc (.cells #[.int .u8 (x : Int)] 5)) (fun k => k = w.heap.size) (some ⟨w.heap.size, 0, none⟩) 1 1 [x] := by
  refine ⟨rfl, by omega, by omega, (fun h => by cases h), (fun i hi => ⟨w.heap.size, 0, rfl, rfl, ?_⟩), by simpa using hx⟩
  obtain rfl : i = 0 := by omega
  have h := heap_alloc_new w (.cells #[.int .u8 (x : Int)] 5)
  unfold World.cell?
  simp only [h]
  simp [bv]

set_option maxHeartbeats 1000000 in
theorem boolOut_any (F : Nat → Prop) (p : Nat) (bs : List Nat) (e : Int) (x : Bool) (w : World) (h : Ou w F p bs e) (hsz : bs.length ≤ 100000000000) :
    Calls Try.prog 84 #[.pointer (some ⟨p, 0, none⟩), .bool x] w fun ex w' => ex = .returned (.tuple #[]) ∧ OuDid F p (layBs bs e (flagB x)) e w w' := by
  have ha : ∀ o, Kept No w (w.alloc o) := fun o => (Kept.refl No w).alloc o
  cases x with
  | true =>
    have c85 := putOut_any F _ p bs e _ 1 1 [1] _ (h.kept (ha (.cells #[.int .u8 (1 : Nat)] 5)) (fun _ _ h => h)) (bs_one w 1 (by omega)) (by omega)
    have e0 : flagB true = [1] := rfl
    rw [e0]
    clear h
    go_enter Try.func84, Try.ntmps84
    go_wp2_with (go_at_call 85; refine c85.mono ?_; rintro ex w3 ⟨rfl, hd⟩)
    go_end0
    obtain ⟨F', ho, wt⟩ := hd
    exact ⟨rfl, F', ho, Went.trans ⟨(Kept.refl F w).alloc _, fun _ h => .inl h⟩ wt⟩
  | false =>
    have c85 := putOut_any F _ p bs e _ 1 1 [0] _ (h.kept (ha (.cells #[.int .u8 (0 : Nat)] 5)) (fun _ _ h => h)) (bs_one w 0 (by omega)) (by omega)
    have e0 : flagB false = [0] := rfl
    rw [e0]
    clear h
    go_enter Try.func84, Try.ntmps84
    go_wp2_with (go_at_call 85; refine c85.mono ?_; rintro ex w3 ⟨rfl, hd⟩)
    go_end0
    obtain ⟨F', ho, wt⟩ := hd
    exact ⟨rfl, F', ho, Went.trans ⟨(Kept.refl F w).alloc _, fun _ h => .inl h⟩ wt⟩

/-- a list's number -/
def ctBs (bs : List Nat) (e n most : Int) : List Nat := if most < n then bs else numBs bs e n 4
def ctE (e n most : Int) : Int := if most < n then (if e ≠ 0 then e else 1) else numE e n 4

set_option maxHeartbeats 1000000 in
theorem countOut_any (F : Nat → Prop) (p : Nat) (bs : List Nat) (e n most : Int) (w : World) (h : Ou w F p bs e) (hsz : bs.length ≤ 100000000000) (hx : n ≤ 9223372036854775807) :
    Calls Try.prog 89 #[.pointer (some ⟨p, 0, none⟩), .int .i64 n, .int .i64 most] w fun ex w' => ex = .returned (.tuple #[]) ∧ OuDid F p (ctBs bs e n most) (ctE e n most) w w' := by
  unfold ctBs ctE
  by_cases hm : most < n
  · rw [if_pos hm, if_pos hm]
    have c102 := failOut_any F p bs e 1 w h
    obtain ⟨E, hE⟩ : ∃ E, E = (if e ≠ 0 then e else 1) := ⟨_, rfl⟩
    rw [← hE] at c102 ⊢
    clear hE h
    go_enter Try.func89, Try.ntmps89
    go_wp2_with (go_at_call 102; refine c102.mono ?_; rintro ex w1 ⟨rfl, hd⟩)
    refine bodyPost_ret (results_none rfl _ _ _) rfl ?_
    exact ⟨rfl, hd⟩
  · rw [if_neg hm, if_neg hm]
    have c82 := u32Out_any F p bs e n w h hsz hx
    clear h
    go_enter Try.func89, Try.ntmps89
    go_wp2_with (go_at_call 82; refine c82.mono ?_; rintro ex w1 ⟨rfl, hd⟩)
    go_end0
    exact ⟨rfl, hd⟩

set_option maxHeartbeats 1000000 in
theorem doneOut_any (F : Nat → Prop) (p : Nat) (v : Value) (bs : List Nat) (e : Int) (w : World) (h : OuV w F p v bs e) :
    Calls Try.prog 90 #[.pointer (some ⟨p, 0, none⟩)] w fun ex w' => ex = .returned (.tuple #[if e = 0 then v else .slice none 0 0, .int .i64 e]) ∧ ∃ k, w' = w.drewN k := by
  obtain ⟨va, vc, rfl⟩ := owns_shape h.own
  have c0 := h.c0
  have c1 := h.c1
  clear h
  by_cases he : e = 0
  · subst he
    rw [if_pos rfl]
    go_enter Try.func90, Try.ntmps90
    go_wp2
    go_ret2
    exact ⟨rfl, 0, rfl⟩
  · rw [if_neg he]
    have t0 : (e != 0) = true := by simpa using he
    go_enter Try.func90, Try.ntmps90
    go_upto_region 2 with fail
    go_quiet (fail)
    go_wp2
    go_ret2
    exact ⟨rfl, _, rfl⟩

end Go.Proofs.Ytakdfpenpodplaa
