/-
  The document's writer Out: its numbers.
-/
import Derived.Test.YtakdfpenpodplaaRefOut
import Derived.Handy
namespace Go.Proofs.Ytakdfpenpodplaa
open Go.RowKit
set_option linter.unusedVariables false

theorem Ou.kept {w w' : World} {F G : Nat → Prop} {p : Nat} {bs : List Nat} {e : Int} (h : Ou w F p bs e) (k : Kept G w w') (hd : ∀ b, F b → ¬ G b) : Ou w' F p bs e := by
  obtain ⟨v, hv⟩ := h
  exact ⟨v, hv.kept k hd⟩

set_option maxHeartbeats 2000000 in
set_option maxRecDepth 100000 in
theorem uintOut1 (F : Nat → Prop) (p : Nat) (bs : List Nat) (e x : Int) (w : World) (h : Ou w F p bs e) (hsz : bs.length ≤ 100000000000) (hx : x ≤ 9223372036854775807) :
    Calls Try.prog 101 #[.pointer (some ⟨p, 0, none⟩), .int .i64 x, .int .i64 1] w fun ex w' => ex = .returned (.tuple #[]) ∧ OuDid F p (numBs bs e x 1) (numE e x 1) w w' := by
  by_cases hr : x < 0 ∨ 256 ≤ x
  · have e1 : numBs bs e x 1 = bs := by unfold numBs; split; rfl; rw [if_pos (by simpa using hr)]
    have e2 : numE e x 1 = (if e ≠ 0 then e else 2) := by unfold numE; split; rfl; rw [if_pos (by simpa using hr)]
    rw [e1, e2]
    have c102 := failOut_any F p bs e 2 w h
    obtain ⟨E, hE⟩ : ∃ E, E = (if e ≠ 0 then e else 2) := ⟨_, rfl⟩
    rw [← hE] at c102 ⊢
    clear hE e1 e2 h
    by_cases h0 : x < 0
    · go_enter Try.func101, Try.ntmps101
      go_upto_region 2 with fail
      refine wp_loop_rounds 2 ?_
      repeat (rw [rounds_succ]; go_wp2_with (go_at_call 102; refine c102.mono ?_; rintro ex w1 ⟨rfl, hd⟩))
      refine bodyPost_ret (results_none rfl _ _ _) rfl ?_
      exact ⟨rfl, hd⟩
    · have h1 : 256 ≤ x := by omega
      clear hr
      go_enter Try.func101, Try.ntmps101
      go_upto_region 2 with fail
      refine wp_loop_rounds 2 ?_
      repeat (rw [rounds_succ]; go_wp2_with (go_at_call 102; refine c102.mono ?_; rintro ex w1 ⟨rfl, hd⟩))
      refine bodyPost_ret (results_none rfl _ _ _) rfl ?_
      exact ⟨rfl, hd⟩
  · obtain ⟨xn, rfl⟩ : ∃ xn : Nat, x = xn := ⟨x.toNat, by omega⟩
    have hlt : xn < 256 := by omega
    have e1 : numBs bs e xn 1 = layBs bs e (be xn 1) := by unfold numBs layBs; split; rfl; rw [if_neg (by simpa using hr)]; rfl
    have e2 : numE e xn 1 = e := by
      unfold numE
      by_cases he : e = 0
      · rw [if_neg (by simpa using he), if_neg (by simpa using hr), he]
      · rw [if_pos he]
    rw [e1, e2]
    have c53 := number_ref_any xn 1 w (by omega) (by omega)
    have H : Hid (Ou w F p bs e) := h
    have w1 : IntKind.u64.wrap (xn : Int) = (xn : Int) := by rw [IntKind.wrap_u64]; omega
    clear hr e1 e2 h
    go_enter Try.func101, Try.ntmps101
    go_upto_region 2 with fail
    refine wp_loop_rounds 2 ?_
    repeat (rw [rounds_succ]; go_wp2_with (first | (go_at_call 53; refine c53.mono ?_; rintro ex w2 ⟨v, rfl, own, bel⟩; obtain ⟨a2, k2, rfl, hB⟩ := Bs.of_owns (xs := be xn 1) (by rw [be_length]; exact own) (be_lt xn 1); have K2 : Hid (Kept F w w2) := Kept.of_below bel; have c85 := putOut_any F _ p bs e a2 _ k2 (be xn 1) w2 (H.out.kept (Kept.of_below (F := No) bel) (fun _ _ h => h)) hB (by rw [be_length]; omega); clear hB own bel) | (go_at_call 85; refine c85.mono ?_; rintro ex w3 ⟨rfl, hd⟩)))
    go_end0
    obtain ⟨F', ho, wt⟩ := hd
    exact ⟨rfl, F', ho, Went.trans ⟨K2.out, fun _ h => .inl h⟩ wt⟩

theorem u8Out_any (F : Nat → Prop) (p : Nat) (bs : List Nat) (e x : Int) (w : World) (h : Ou w F p bs e) (hsz : bs.length ≤ 100000000000) (hx : x ≤ 9223372036854775807) :
    Calls Try.prog 80 #[.pointer (some ⟨p, 0, none⟩), .int .i64 x] w fun ex w' => ex = .returned (.tuple #[]) ∧ OuDid F p (numBs bs e x 1) (numE e x 1) w w' := by
  have c101 := uintOut1 F p bs e x w h hsz hx
  clear h
  go_enter Try.func80, Try.ntmps80
  go_wp2_with (go_at_call 101; refine c101.mono ?_; rintro ex w1 ⟨rfl, hd⟩)
  go_end0
  exact ⟨rfl, hd⟩

set_option maxHeartbeats 2000000 in
set_option maxRecDepth 100000 in
theorem uintOut2 (F : Nat → Prop) (p : Nat) (bs : List Nat) (e x : Int) (w : World) (h : Ou w F p bs e) (hsz : bs.length ≤ 100000000000) (hx : x ≤ 9223372036854775807) :
    Calls Try.prog 101 #[.pointer (some ⟨p, 0, none⟩), .int .i64 x, .int .i64 2] w fun ex w' => ex = .returned (.tuple #[]) ∧ OuDid F p (numBs bs e x 2) (numE e x 2) w w' := by
  by_cases hr : x < 0 ∨ 65536 ≤ x
  · have e1 : numBs bs e x 2 = bs := by unfold numBs; split; rfl; rw [if_pos (by simpa using hr)]
    have e2 : numE e x 2 = (if e ≠ 0 then e else 2) := by unfold numE; split; rfl; rw [if_pos (by simpa using hr)]
    rw [e1, e2]
    have c102 := failOut_any F p bs e 2 w h
    obtain ⟨E, hE⟩ : ∃ E, E = (if e ≠ 0 then e else 2) := ⟨_, rfl⟩
    rw [← hE] at c102 ⊢
    clear hE e1 e2 h
    by_cases h0 : x < 0
    · go_enter Try.func101, Try.ntmps101
      go_upto_region 2 with fail
      refine wp_loop_rounds 3 ?_
      repeat (rw [rounds_succ]; go_wp2_with (go_at_call 102; refine c102.mono ?_; rintro ex w1 ⟨rfl, hd⟩))
      refine bodyPost_ret (results_none rfl _ _ _) rfl ?_
      exact ⟨rfl, hd⟩
    · have h1 : 65536 ≤ x := by omega
      clear hr
      go_enter Try.func101, Try.ntmps101
      go_upto_region 2 with fail
      refine wp_loop_rounds 3 ?_
      repeat (rw [rounds_succ]; go_wp2_with (go_at_call 102; refine c102.mono ?_; rintro ex w1 ⟨rfl, hd⟩))
      refine bodyPost_ret (results_none rfl _ _ _) rfl ?_
      exact ⟨rfl, hd⟩
  · obtain ⟨xn, rfl⟩ : ∃ xn : Nat, x = xn := ⟨x.toNat, by omega⟩
    have hlt : xn < 65536 := by omega
    have e1 : numBs bs e xn 2 = layBs bs e (be xn 2) := by unfold numBs layBs; split; rfl; rw [if_neg (by simpa using hr)]; rfl
    have e2 : numE e xn 2 = e := by
      unfold numE
      by_cases he : e = 0
      · rw [if_neg (by simpa using he), if_neg (by simpa using hr), he]
      · rw [if_pos he]
    rw [e1, e2]
    have c53 := number_ref_any xn 2 w (by omega) (by omega)
    have H : Hid (Ou w F p bs e) := h
    have w1 : IntKind.u64.wrap (xn : Int) = (xn : Int) := by rw [IntKind.wrap_u64]; omega
    clear hr e1 e2 h
    go_enter Try.func101, Try.ntmps101
    go_upto_region 2 with fail
    refine wp_loop_rounds 3 ?_
    repeat (rw [rounds_succ]; go_wp2_with (first | (go_at_call 53; refine c53.mono ?_; rintro ex w2 ⟨v, rfl, own, bel⟩; obtain ⟨a2, k2, rfl, hB⟩ := Bs.of_owns (xs := be xn 2) (by rw [be_length]; exact own) (be_lt xn 2); have K2 : Hid (Kept F w w2) := Kept.of_below bel; have c85 := putOut_any F _ p bs e a2 _ k2 (be xn 2) w2 (H.out.kept (Kept.of_below (F := No) bel) (fun _ _ h => h)) hB (by rw [be_length]; omega); clear hB own bel) | (go_at_call 85; refine c85.mono ?_; rintro ex w3 ⟨rfl, hd⟩)))
    go_end0
    obtain ⟨F', ho, wt⟩ := hd
    exact ⟨rfl, F', ho, Went.trans ⟨K2.out, fun _ h => .inl h⟩ wt⟩

theorem u16Out_any (F : Nat → Prop) (p : Nat) (bs : List Nat) (e x : Int) (w : World) (h : Ou w F p bs e) (hsz : bs.length ≤ 100000000000) (hx : x ≤ 9223372036854775807) :
    Calls Try.prog 81 #[.pointer (some ⟨p, 0, none⟩), .int .i64 x] w fun ex w' => ex = .returned (.tuple #[]) ∧ OuDid F p (numBs bs e x 2) (numE e x 2) w w' := by
  have c101 := uintOut2 F p bs e x w h hsz hx
  clear h
  go_enter Try.func81, Try.ntmps81
  go_wp2_with (go_at_call 101; refine c101.mono ?_; rintro ex w1 ⟨rfl, hd⟩)
  go_end0
  exact ⟨rfl, hd⟩

set_option maxHeartbeats 2000000 in
set_option maxRecDepth 100000 in
theorem uintOut4 (F : Nat → Prop) (p : Nat) (bs : List Nat) (e x : Int) (w : World) (h : Ou w F p bs e) (hsz : bs.length ≤ 100000000000) (hx : x ≤ 9223372036854775807) :
    Calls Try.prog 101 #[.pointer (some ⟨p, 0, none⟩), .int .i64 x, .int .i64 4] w fun ex w' => ex = .returned (.tuple #[]) ∧ OuDid F p (numBs bs e x 4) (numE e x 4) w w' := by
  by_cases hr : x < 0 ∨ 4294967296 ≤ x
  · have e1 : numBs bs e x 4 = bs := by unfold numBs; split; rfl; rw [if_pos (by simpa using hr)]
    have e2 : numE e x 4 = (if e ≠ 0 then e else 2) := by unfold numE; split; rfl; rw [if_pos (by simpa using hr)]
    rw [e1, e2]
    have c102 := failOut_any F p bs e 2 w h
    obtain ⟨E, hE⟩ : ∃ E, E = (if e ≠ 0 then e else 2) := ⟨_, rfl⟩
    rw [← hE] at c102 ⊢
    clear hE e1 e2 h
    by_cases h0 : x < 0
    · go_enter Try.func101, Try.ntmps101
      go_upto_region 2 with fail
      refine wp_loop_rounds 5 ?_
      repeat (rw [rounds_succ]; go_wp2_with (go_at_call 102; refine c102.mono ?_; rintro ex w1 ⟨rfl, hd⟩))
      refine bodyPost_ret (results_none rfl _ _ _) rfl ?_
      exact ⟨rfl, hd⟩
    · have h1 : 4294967296 ≤ x := by omega
      clear hr
      go_enter Try.func101, Try.ntmps101
      go_upto_region 2 with fail
      refine wp_loop_rounds 5 ?_
      repeat (rw [rounds_succ]; go_wp2_with (go_at_call 102; refine c102.mono ?_; rintro ex w1 ⟨rfl, hd⟩))
      refine bodyPost_ret (results_none rfl _ _ _) rfl ?_
      exact ⟨rfl, hd⟩
  · obtain ⟨xn, rfl⟩ : ∃ xn : Nat, x = xn := ⟨x.toNat, by omega⟩
    have hlt : xn < 4294967296 := by omega
    have e1 : numBs bs e xn 4 = layBs bs e (be xn 4) := by unfold numBs layBs; split; rfl; rw [if_neg (by simpa using hr)]; rfl
    have e2 : numE e xn 4 = e := by
      unfold numE
      by_cases he : e = 0
      · rw [if_neg (by simpa using he), if_neg (by simpa using hr), he]
      · rw [if_pos he]
    rw [e1, e2]
    have c53 := number_ref_any xn 4 w (by omega) (by omega)
    have H : Hid (Ou w F p bs e) := h
    have w1 : IntKind.u64.wrap (xn : Int) = (xn : Int) := by rw [IntKind.wrap_u64]; omega
    clear hr e1 e2 h
    go_enter Try.func101, Try.ntmps101
    go_upto_region 2 with fail
    refine wp_loop_rounds 5 ?_
    repeat (rw [rounds_succ]; go_wp2_with (first | (go_at_call 53; refine c53.mono ?_; rintro ex w2 ⟨v, rfl, own, bel⟩; obtain ⟨a2, k2, rfl, hB⟩ := Bs.of_owns (xs := be xn 4) (by rw [be_length]; exact own) (be_lt xn 4); have K2 : Hid (Kept F w w2) := Kept.of_below bel; have c85 := putOut_any F _ p bs e a2 _ k2 (be xn 4) w2 (H.out.kept (Kept.of_below (F := No) bel) (fun _ _ h => h)) hB (by rw [be_length]; omega); clear hB own bel) | (go_at_call 85; refine c85.mono ?_; rintro ex w3 ⟨rfl, hd⟩)))
    go_end0
    obtain ⟨F', ho, wt⟩ := hd
    exact ⟨rfl, F', ho, Went.trans ⟨K2.out, fun _ h => .inl h⟩ wt⟩

theorem u32Out_any (F : Nat → Prop) (p : Nat) (bs : List Nat) (e x : Int) (w : World) (h : Ou w F p bs e) (hsz : bs.length ≤ 100000000000) (hx : x ≤ 9223372036854775807) :
    Calls Try.prog 82 #[.pointer (some ⟨p, 0, none⟩), .int .i64 x] w fun ex w' => ex = .returned (.tuple #[]) ∧ OuDid F p (numBs bs e x 4) (numE e x 4) w w' := by
  have c101 := uintOut4 F p bs e x w h hsz hx
  clear h
  go_enter Try.func82, Try.ntmps82
  go_wp2_with (go_at_call 101; refine c101.mono ?_; rintro ex w1 ⟨rfl, hd⟩)
  go_end0
  exact ⟨rfl, hd⟩

end Go.Proofs.Ytakdfpenpodplaa
