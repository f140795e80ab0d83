/-
  The Writer's calls that lay numbers.
-/
import Derived.Test.YtakdfpenpodplaaGate
import Derived.Deep.QuietTactic
import Derived.BigQuiet
namespace Go.Proofs.Ytakdfpenpodplaa
open Go.RowKit
set_option linter.unusedVariables false

/-- what the Writer holds behind a number -/
def numBs (bs : List Nat) (e x : Int) (width : Nat) : List Nat := if e ≠ 0 then bs else if x < 0 ∨ 2 ^ (8 * width) ≤ x then bs else bs ++ be x.toNat width
def numE (e x : Int) (width : Nat) : Int := if e ≠ 0 then e else if x < 0 ∨ 2 ^ (8 * width) ≤ x then 2 else 0

theorem newWriter_any (w : World) : Calls Try.prog 23 #[] w fun ex w' => ex = .returned (.pointer (some ⟨w.heap.size, 0, none⟩)) ∧ w' = w.alloc (.cells #[.slice none 0 0, .int .i64 0] 69) := by
  go_enter Try.func23, Try.ntmps23
  go_wp2
  go_ret
  exact ⟨rfl, rfl⟩

/-- a Writer's call: what it leaves -/
def WrDid (F : Nat → Prop) (p : Nat) (bs' : List Nat) (e' : Int) (w w' : World) : Prop := ∃ F', Wr w' F' p bs' e' ∧ Went F w w' F'

theorem WrDid.cells {F : Nat → Prop} {p : Nat} {bs' : List Nat} {e' : Int} {w w1 : World} (h : WrDid F p bs' e' w w1) : (∃ u, w1.cell? ⟨p, 1, none⟩ = some (.int .i64 u)) ∧ w1.frozen? ⟨p, 1, none⟩ = false := by
  obtain ⟨F', ⟨v, hv⟩, _⟩ := h
  exact ⟨⟨_, hv.c1⟩, hv.fz 1⟩
theorem WrDid.put1 {F : Nat → Prop} {p : Nat} {bs' : List Nat} {e' : Int} {w w1 : World} (h : WrDid F p bs' e' w w1) (e : Int) : WrDid F p bs' e w (w1.setCell ⟨p, 1, none⟩ (.int .i64 e)) := by
  obtain ⟨F', ⟨v, hv⟩, hw⟩ := h
  exact ⟨F', ⟨v, hv.put1 e⟩, hw.trans ⟨(Kept.refl _ _).setCell (p := ⟨p, 1, none⟩) (.inl hv.fp) _, fun _ h => .inl h⟩⟩
theorem WrDid.ahead {F : Nat → Prop} {p : Nat} {bs' : List Nat} {e' : Int} {w0 w w1 : World} (h : WrDid F p bs' e' w w1) (hk : Kept No w0 w) : WrDid F p bs' e' w0 w1 := by
  obtain ⟨F', hv, hw⟩ := h
  exact ⟨F', hv, Went.trans (G := F) ⟨hk.mono (fun _ h => h.elim), fun _ h => .inl h⟩ hw⟩
theorem WrDid.still {F : Nat → Prop} {p : Nat} {bs : List Nat} {e : Int} {w w1 : World} (h : Wr w F p bs e) (hk : Kept No w w1) : WrDid F p bs e w w1 := by
  obtain ⟨v, hv⟩ := h
  exact ⟨F, ⟨v, hv.kept hk (fun _ _ h => h)⟩, hk.mono (fun _ h => h.elim), fun _ h => .inl h⟩

theorem Wr.kept {F G : Nat → Prop} {p : Nat} {bs : List Nat} {e : Int} {w w1 : World} (h : Wr w F p bs e) (hk : Kept G w w1) (hd : ∀ b, F b → ¬ G b) : Wr w1 F p bs e := by
  obtain ⟨v, hv⟩ := h
  exact ⟨v, hv.kept hk hd⟩
theorem Wr.drewN {F : Nat → Prop} {p : Nat} {bs : List Nat} {e : Int} {w : World} (h : Wr w F p bs e) (n : Nat) : Wr (w.drewN n) F p bs e := h.kept ((Kept.refl No _).drewN n) (fun _ _ h => h)

set_option maxHeartbeats 1000000 in
set_option maxRecDepth 100000 in
theorem number1_any (F : Nat → Prop) (p : Nat) (bs : List Nat) (x : Int) (width : Nat) (w : World) (b1 b2 b3 : Nat) (hw : width = 1 ∨ width = 2 ∨ width = 4) (h : Wr w F p bs 0) (hsz : bs.length ≤ 140737488355300) (hx : x ≤ 9223372036854775807)
    (d1 : w.cell? ⟨b1, 0, none⟩ = some (.int .i64 x)) (d2 : w.cell? ⟨b2, 0, none⟩ = some (.int .i64 width)) (d3 : w.cell? ⟨b3, 0, none⟩ = some (.pointer (some ⟨p, 0, none⟩))) :
    Calls Try.prog 104 #[.pointer (some ⟨b1, 0, none⟩), .pointer (some ⟨b2, 0, none⟩), .pointer (some ⟨b3, 0, none⟩)] w fun ex w' => ex = .returned (.int .i64 (numE 0 x width)) ∧ WrDid F p (numBs bs 0 x width) 0 w w' := by
  have H : Hid (Wr w F p bs 0) := h
  clear h
  by_cases h1 : x < 0
  · have e1 : numE 0 x width = 2 := by unfold numE; rw [if_neg (by simp), if_pos (.inl h1)]
    have e2 : numBs bs 0 x width = bs := by unfold numBs; rw [if_neg (by simp), if_pos (.inl h1)]
    rw [e1, e2]
    go_enter Try.func104, Try.ntmps104
    go_wp2
    go_quiet (fail)
    go_wp2
    go_ret
    exact ⟨rfl, WrDid.still H.out ((Kept.refl _ _).drewN _)⟩
  · have w1 : IntKind.i64.wrap 8 = 8 := by rw [IntKind.wrap_i64]; omega
    have w2 : IntKind.i64.wrap 16 = 16 := by rw [IntKind.wrap_i64]; omega
    have w3 : IntKind.i64.wrap 32 = 32 := by rw [IntKind.wrap_i64]; omega
    have w4 : IntKind.i64.wrap 256 = 256 := by rw [IntKind.wrap_i64]; omega
    have w5 : IntKind.i64.wrap 65536 = 65536 := by rw [IntKind.wrap_i64]; omega
    have w6 : IntKind.i64.wrap 4294967296 = 4294967296 := by rw [IntKind.wrap_i64]; omega
    have hL : ∃ lim : Nat, lim = 2 ^ (8 * width) ∧ (lim = 256 ∨ lim = 65536 ∨ lim = 4294967296) := by
      rcases hw with rfl | rfl | rfl
      · exact ⟨256, by decide, .inl rfl⟩
      · exact ⟨65536, by decide, .inr (.inl rfl)⟩
      · exact ⟨4294967296, by decide, .inr (.inr rfl)⟩
    obtain ⟨lim, hlim, hl3⟩ := hL
    by_cases h2 : (lim : Int) ≤ x
    · have h3 : x < 0 ∨ 2 ^ (8 * width) ≤ x := .inr (by rw [hlim] at h2; simpa using h2)
      have e1 : numE 0 x width = 2 := by unfold numE; rw [if_neg (by simp), if_pos h3]
      have e2 : numBs bs 0 x width = bs := by unfold numBs; rw [if_neg (by simp), if_pos h3]
      rw [e1, e2]
      clear e1 e2 h3
      rcases hw with rfl | rfl | rfl
      · have h4 : (256 : Int) ≤ x := by rw [hlim] at h2; simpa using h2
        clear hlim hl3 h2
        go_enter Try.func104, Try.ntmps104
        go_wp2
        go_quiet (fail)
        go_wp2
        go_ret
        exact ⟨rfl, WrDid.still H.out ((Kept.refl _ _).drewN _)⟩
      · have h4 : (65536 : Int) ≤ x := by rw [hlim] at h2; simpa using h2
        clear hlim hl3 h2
        go_enter Try.func104, Try.ntmps104
        go_wp2
        go_quiet (fail)
        go_wp2
        go_ret
        exact ⟨rfl, WrDid.still H.out ((Kept.refl _ _).drewN _)⟩
      · have h4 : (4294967296 : Int) ≤ x := by rw [hlim] at h2; simpa using h2
        clear hlim hl3 h2
        go_enter Try.func104, Try.ntmps104
        go_wp2
        go_quiet (fail)
        go_wp2
        go_ret
        exact ⟨rfl, WrDid.still H.out ((Kept.refl _ _).drewN _)⟩
    · have h3 : ¬ (x < 0 ∨ 2 ^ (8 * width) ≤ x) := by
        rw [hlim] at h2; rintro (h | h)
        · omega
        · exact h2 (by simpa using h)
      have e1 : numE 0 x width = 0 := by unfold numE; rw [if_neg (by simp), if_neg h3]
      have e2 : numBs bs 0 x width = bs ++ be x.toNat width := by unfold numBs; rw [if_neg (by simp), if_neg h3]
      rw [e1, e2]
      clear e1 e2 h3
      obtain ⟨n, rfl⟩ : ∃ n : Nat, x = n := ⟨x.toNat, by omega⟩
      rw [Int.toNat_natCast]
      have hn : n < 18446744073709551616 := by omega
      have e5 : IntKind.u64.wrap (n : Int) = (n : Int) := by rw [IntKind.wrap_u64]; omega
      have c : ∀ wx width, width ≤ 8 → Wr wx F p bs 0 → Calls Try.prog 95 #[.pointer (some ⟨p, 0, none⟩), .int .u64 (n : Int), .int .i64 ((width : Nat) : Int)] wx fun ex w' => ex = .returned (.tuple #[]) ∧ WrDid F p (bs ++ be n width) 0 wx w' := fun wx width h8 h => lay_any F p bs 0 n width wx hn h8 h hsz
      rcases hw with rfl | rfl | rfl
      · have h4 : (n : Int) < 256 := by rw [hlim] at h2; simpa using h2
        have k0 : decide ((n : Int) < 0) = false := by simp
        have k1 : decide ((256 : Int) ≤ (n : Int)) = false := decide_eq_false (by omega)
        clear hlim hl3 h2 h4 hx h1 hn
        have c' : ∀ wx, Wr wx F p bs 0 → Calls Try.prog 95 #[.pointer (some ⟨p, 0, none⟩), .int .u64 (n : Int), .int .i64 1] wx fun ex w' => ex = .returned (.tuple #[]) ∧ WrDid F p (bs ++ be n 1) 0 wx w' := fun wx h => c wx 1 (by omega) h
        clear c
        go_enter Try.func104, Try.ntmps104
        go_wp2
        go_quiet (fail)
        go_wp2_with (go_at_call 95; refine (c' _ (H.out.drewN _)).mono ?_; rintro ex w1 ⟨rfl, hd⟩)
        go_ret
        exact ⟨rfl, hd.ahead ((Kept.refl _ _).drewN _)⟩
      · have h4 : (n : Int) < 65536 := by rw [hlim] at h2; simpa using h2
        have k0 : decide ((n : Int) < 0) = false := by simp
        have k1 : decide ((65536 : Int) ≤ (n : Int)) = false := decide_eq_false (by omega)
        clear hlim hl3 h2 h4 hx h1 hn
        have c' : ∀ wx, Wr wx F p bs 0 → Calls Try.prog 95 #[.pointer (some ⟨p, 0, none⟩), .int .u64 (n : Int), .int .i64 2] wx fun ex w' => ex = .returned (.tuple #[]) ∧ WrDid F p (bs ++ be n 2) 0 wx w' := fun wx h => c wx 2 (by omega) h
        clear c
        go_enter Try.func104, Try.ntmps104
        go_wp2
        go_quiet (fail)
        go_wp2_with (go_at_call 95; refine (c' _ (H.out.drewN _)).mono ?_; rintro ex w1 ⟨rfl, hd⟩)
        go_ret
        exact ⟨rfl, hd.ahead ((Kept.refl _ _).drewN _)⟩
      · have h4 : (n : Int) < 4294967296 := by rw [hlim] at h2; simpa using h2
        have k0 : decide ((n : Int) < 0) = false := by simp
        have k1 : decide ((4294967296 : Int) ≤ (n : Int)) = false := decide_eq_false (by omega)
        clear hlim hl3 h2 h4 hx h1 hn
        have c' : ∀ wx, Wr wx F p bs 0 → Calls Try.prog 95 #[.pointer (some ⟨p, 0, none⟩), .int .u64 (n : Int), .int .i64 4] wx fun ex w' => ex = .returned (.tuple #[]) ∧ WrDid F p (bs ++ be n 4) 0 wx w' := fun wx h => c wx 4 (by omega) h
        clear c
        go_enter Try.func104, Try.ntmps104
        go_wp2
        go_quiet (fail)
        go_wp2_with (go_at_call 95; refine (c' _ (H.out.drewN _)).mono ?_; rintro ex w1 ⟨rfl, hd⟩)
        go_ret
        exact ⟨rfl, hd.ahead ((Kept.refl _ _).drewN _)⟩

end Go.Proofs.Ytakdfpenpodplaa
