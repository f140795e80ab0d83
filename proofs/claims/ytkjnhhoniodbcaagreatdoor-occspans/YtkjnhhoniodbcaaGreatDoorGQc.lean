/-
  One text: QTm, QSpn, QRfs, QRnx.
-/
import Derived.Test.YtkjnhhoniodbcaaGreatDoorGQa
import Derived.Test.YtkjnhhoniodbcaaGreatDoorGCR
import Derived.Test.YtkjnhhoniodbcaaGreatDoorOAt
import Derived.Test.YtkjnhhoniodbcaaGreatDoorORuns
import Derived.Test.YtkjnhhoniodbcaaGreatDoorONextOf
import Derived.Deep.RegionWith
import Derived.Deep.RegionHeld
namespace Go.Proofs.YtkjnhhoniodbcaaGreatDoor
open Go.RowKit Plain
set_option linter.unusedVariables false
set_option maxRecDepth 100000

theorem eachF_neQ {r : Nat → Int} {first : Int} : ∀ {n : Nat} {p : Int × Int}, eachF r first n = some p → p.1 ≠ 0
  | 0, p, h => by cases h
  | n + 1, p, h => by
    rw [eachF] at h
    cases he : eachF r first n with
    | some q => rw [he] at h; injection h with h; subst h; exact eachF_neQ he
    | none =>
      rw [he] at h
      simp only at h
      by_cases h0 : r n = 0
      · rw [if_pos h0] at h; cases h
      · rw [if_neg h0] at h; injection h with h; subst h; exact h0
theorem tim_neQ {xs : List Srv} {n : Nat} {p : Int × Int} (h : timF xs n = some p) : p.1 ≠ 0 := by
  unfold timF at h
  cases hf : findF xs n with
  | some q =>
    rw [hf] at h
    injection h with h
    subst h
    unfold findF at hf
    by_cases h32 : n ≤ 32
    · rw [if_pos h32] at hf; exact eachF_neQ hf
    · rw [if_neg h32] at hf; injection hf with hf; subst hf; decide
  | none =>
    rw [hf] at h
    unfold togF at h
    by_cases hb : lcmB (zP xs) n 1048576 = true
    · rw [if_pos hb] at h
      by_cases hr : relF (lcmV (zP xs) n 1048576) xs n ≤ 65536
      · rw [if_pos hr] at h; cases h
      · rw [if_neg hr] at h; injection h with h; subst h; decide
    · rw [if_neg hb] at h; injection h with h; subst h; decide
theorem occ_turns {xs : List Srv} (hv : Vd xs) : ∀ t, hyp xs ≤ t → Rule.occ (sys xs) (t + hyp xs) = Rule.occ (sys xs) t := fun t ht => Rule.again hv.bd.ok (fun i hi => hv.dvd i hi) t ht
def Bk9 (a : Option Addr) (k : Nat) : Prop := a = some ⟨k, 0, none⟩

/-- a span that may be -/
def spO (fr be : Int) : Bool := decide (0 ≤ fr) && decide (fr ≤ be) && decide (be ≤ 1099511627776)
theorem spO_yes {fr be : Int} (h : spO fr be = true) : 0 ≤ fr ∧ fr ≤ be ∧ be ≤ 1099511627776 := by simpa [spO, and_assoc] using h
theorem spO_no {fr be : Int} (h : spO fr be = false) : fr < 0 ∨ (0 ≤ fr ∧ be < fr) ∨ (0 ≤ fr ∧ fr ≤ be ∧ 1099511627776 < be) := by
  simp only [spO, Bool.and_eq_false_iff, decide_eq_false_iff_not] at h
  omega
def thO (n : Nat) (p : Int) : Bool := decide (1 ≤ p) && decide (p ≤ n)
theorem thO_yes {n : Nat} {p : Int} (h : thO n p = true) : 1 ≤ p ∧ p ≤ n := by simpa [thO] using h
theorem thO_no {n : Nat} {p : Int} (h : thO n p = false) : p < 1 ∨ (1 ≤ p ∧ (n : Int) < p) := by
  simp only [thO, Bool.and_eq_false_iff, decide_eq_false_iff_not] at h
  omega

def ruN (xs : List Srv) (fr be : Int) : List (Nat × Nat) := Rule.runsOf (Rule.occ (sys xs)) fr.toNat (be.toNat - fr.toNat)
def ruE (xs : List Srv) (fr be : Int) : Int := match timF xs xs.length with
  | some p => p.1
  | none => if spO fr be = true then (if (ruN xs fr be).length ≤ 65536 then 0 else 1) else 2
def ruL (xs : List Srv) (fr be : Int) : List (Nat × Nat) := if ruE xs fr be = 0 then ruN xs fr be else []
theorem ru_none {xs : List Srv} {fr be : Int} {p : Int × Int} (h : timF xs xs.length = some p) : ruE xs fr be = p.1 ∧ ruL xs fr be = [] := by
  have e : ruE xs fr be = p.1 := by unfold ruE; rw [h]
  exact ⟨e, by unfold ruL; rw [e, if_neg (tim_neQ h)]⟩
theorem ru_bad {xs : List Srv} {fr be : Int} (h : timF xs xs.length = none) (hs : spO fr be = false) : ruE xs fr be = 2 ∧ ruL xs fr be = [] := by
  have e : ruE xs fr be = 2 := by unfold ruE; rw [h]; simp [hs]
  exact ⟨e, by unfold ruL; rw [e]; rfl⟩
theorem ru_few {xs : List Srv} {fr be : Int} (h : timF xs xs.length = none) (hs : spO fr be = true) (hl : (ruN xs fr be).length ≤ 65536) : ruE xs fr be = 0 ∧ ruL xs fr be = ruN xs fr be := by
  have e : ruE xs fr be = 0 := by unfold ruE; rw [h]; simp [hs, hl]
  exact ⟨e, by unfold ruL; rw [e]; rfl⟩
theorem ru_many {xs : List Srv} {fr be : Int} (h : timF xs xs.length = none) (hs : spO fr be = true) (hl : 65536 < (ruN xs fr be).length) : ruE xs fr be = 1 ∧ ruL xs fr be = [] := by
  have e : ruE xs fr be = 1 := by unfold ruE; rw [h]; simp [hs]; omega
  exact ⟨e, by unfold ruL; rw [e]; rfl⟩
theorem ruL_len (xs : List Srv) (fr be : Int) : (ruL xs fr be).length ≤ 65536 := by
  cases h : timF xs xs.length with
  | some p => rw [(ru_none h).2]; simp
  | none =>
    cases hs : spO fr be with
    | false => rw [(ru_bad h hs).2]; simp
    | true =>
      by_cases hl : (ruN xs fr be).length ≤ 65536
      · rw [(ru_few h hs hl).2]; exact hl
      · rw [(ru_many h hs (by omega)).2]; simp

def suE (xs : List Srv) (p fr be : Int) : Int := match timF xs xs.length with
  | some q => q.1
  | none => if thO xs.length p = true then (if spO fr be = true then 0 else 2) else 220
def suV (xs : List Srv) (p fr be : Int) : Int := if suE xs p fr be = 0 then (Rule.cnt (Rule.occ (sys xs)) p.toNat be.toNat : Int) - (Rule.cnt (Rule.occ (sys xs)) p.toNat fr.toNat : Int) else 0
theorem su_none {xs : List Srv} {p fr be : Int} {q : Int × Int} (h : timF xs xs.length = some q) : suE xs p fr be = q.1 ∧ suV xs p fr be = 0 := by
  have e : suE xs p fr be = q.1 := by unfold suE; rw [h]
  exact ⟨e, by unfold suV; rw [e, if_neg (tim_neQ h)]⟩
theorem su_not {xs : List Srv} {p fr be : Int} (h : timF xs xs.length = none) (hp : thO xs.length p = false) : suE xs p fr be = 220 ∧ suV xs p fr be = 0 := by
  have e : suE xs p fr be = 220 := by unfold suE; rw [h]; simp [hp]
  exact ⟨e, by unfold suV; rw [e]; rfl⟩
theorem su_bad {xs : List Srv} {p fr be : Int} (h : timF xs xs.length = none) (hp : thO xs.length p = true) (hs : spO fr be = false) : suE xs p fr be = 2 ∧ suV xs p fr be = 0 := by
  have e : suE xs p fr be = 2 := by unfold suE; rw [h]; simp [hp, hs]
  exact ⟨e, by unfold suV; rw [e]; rfl⟩
theorem su_good {xs : List Srv} {p fr be : Int} (h : timF xs xs.length = none) (hp : thO xs.length p = true) (hs : spO fr be = true) : suE xs p fr be = 0 ∧ suV xs p fr be = (Rule.cnt (Rule.occ (sys xs)) p.toNat be.toNat : Int) - (Rule.cnt (Rule.occ (sys xs)) p.toNat fr.toNat : Int) := by
  have e : suE xs p fr be = 0 := by unfold suE; rw [h]; simp [hp, hs]
  exact ⟨e, by unfold suV; rw [e]; rfl⟩

def nxE (xs : List Srv) (p fr : Int) : Int := suE xs p fr 1099511627776
def nxI (xs : List Srv) (p fr : Nat) (x : Int) : Prop := (x = -1 ∧ ∀ u, fr ≤ u → u < 1099511627776 → Rule.occ (sys xs) u ≠ p) ∨ ∃ t : Nat, x = t ∧ t < 1099511627776 ∧ Fst (Rule.occ (sys xs)) p fr t
theorem nxI_one {xs : List Srv} {p fr : Nat} {x y : Int} (h : nxI xs p fr x) (k : nxI xs p fr y) : x = y := by
  rcases h with ⟨rfl, h⟩ | ⟨t, rfl, h1, h2, h3, h4⟩ <;> rcases k with ⟨rfl, k⟩ | ⟨u, rfl, k1, k2, k3, k4⟩
  · rfl
  · exact absurd k3 (h u k2 k1)
  · exact absurd h3 (k t h2 h1)
  · rcases Nat.lt_trichotomy t u with q | q | q
    · exact absurd h3 (k4 t h2 q)
    · rw [q]
    · exact absurd k3 (h4 u k2 q)
open Classical in
noncomputable def nxV (xs : List Srv) (p fr : Int) : Int := if nxE xs p fr = 0 then (if h : ∃ x, nxI xs p.toNat fr.toNat x then h.choose else 0) else 0
theorem nxV_is {xs : List Srv} {p fr x : Int} (he : nxE xs p fr = 0) (h : nxI xs p.toNat fr.toNat x) : nxV xs p fr = x := by
  have hx : ∃ x, nxI xs p.toNat fr.toNat x := ⟨x, h⟩
  unfold nxV
  rw [if_pos he, dif_pos hx]
  exact nxI_one hx.choose_spec h
theorem nxV_no {xs : List Srv} {p fr : Int} (he : nxE xs p fr ≠ 0) : nxV xs p fr = 0 := by
  unfold nxV
  rw [if_neg he]
theorem fst_least {f : Nat → Nat} {p a : Nat} : ∀ u, a ≤ u → f u = p → ∃ t, t ≤ u ∧ Fst f p a t := by
  intro u
  induction u using Nat.strongRecOn with
  | ind u ih =>
    intro h1 h2
    by_cases h : ∃ v, a ≤ v ∧ v < u ∧ f v = p
    · obtain ⟨v, q1, q2, q3⟩ := h
      obtain ⟨t, r1, r2⟩ := ih v q2 q1 q3
      exact ⟨t, by omega, r2⟩
    · exact ⟨u, Nat.le_refl _, h1, h2, fun v q1 q2 q3 => h ⟨v, q1, q2, q3⟩⟩
theorem fst_near {f : Nat → Nat} {p a t H : Nat} (h1 : 0 < H) (hf : ∀ t, H ≤ t → f (t + H) = f t) (h : Fst f p a t) : t < a + 2 * H := by
  apply Decidable.byContradiction
  intro hn
  have := hf (t - H) (by omega)
  rw [show t - H + H = t by omega, h.2.1] at this
  exact h.2.2 (t - H) (by omega) (by omega) this.symm
theorem nx_of {xs : List Srv} {p fr b : Nat} {x : Int} (hv : Vd xs) (hb : b ≤ 1099511627776) (hb2 : min (fr + 2 * hyp xs) 1099511627776 ≤ b) (h : (x = -1 ∧ ∀ u, fr ≤ u → u < b → Rule.occ (sys xs) u ≠ p) ∨ ∃ t : Nat, x = t ∧ t < b ∧ Fst (Rule.occ (sys xs)) p fr t) : nxI xs p fr x := by
  rcases h with ⟨e, h⟩ | ⟨t, e, h1, h2⟩
  · refine .inl ⟨e, fun u q1 q2 q3 => ?_⟩
    obtain ⟨t, r1, r2⟩ := fst_least u q1 q3
    have := fst_near hv.hyp1 (occ_turns hv) r2
    exact h t r2.1 (by omega) r2.2.1
  · exact .inr ⟨t, e, by omega, h2⟩
end Go.Proofs.YtkjnhhoniodbcaaGreatDoor

namespace Go.Proofs.YtkjnhhoniodbcaaGreatDoor
open Go.RowKit Plain
set_option linter.unusedVariables false
set_option maxRecDepth 100000

theorem isThere_any (a : Option Addr) (n c : Nat) (p : Int) (w : World) (hn : n ≤ 9223372036854775807) : Calls Tryz.prog 27 #[.slice a n c, .int .i64 p] w fun e w' => e = .returned (.bool (thO n p)) ∧ w' = w := by
  cases h : thO n p with
  | true =>
    obtain ⟨h1, h2⟩ := thO_yes h
    clear h
    go_enter Tryz.func27, Tryz.ntmps27
    go_wp2
    go_ret
    first
      | exact ⟨rfl, rfl⟩
      | exact ⟨by simp [Array.getD] <;> omega, rfl⟩
  | false =>
    rcases thO_no h with h1 | ⟨h1, h2⟩
    · clear h
      go_enter Tryz.func27, Tryz.ntmps27
      go_wp2
      go_ret
      first
        | exact ⟨rfl, rfl⟩
        | exact ⟨by simp [Array.getD] <;> omega, rfl⟩
    · clear h
      go_enter Tryz.func27, Tryz.ntmps27
      go_wp2
      go_ret
      first
        | exact ⟨rfl, rfl⟩
        | exact ⟨by simp [Array.getD] <;> omega, rfl⟩
theorem isSpan_any (fr be : Int) (w : World) : Calls Tryz.prog 17 #[.int .i64 fr, .int .i64 be] w fun e w' => e = .returned (.bool (spO fr be)) ∧ w' = w := by
  cases h : spO fr be with
  | true =>
    obtain ⟨h1, h2, h3⟩ := spO_yes h
    clear h
    go_enter Tryz.func17, Tryz.ntmps17
    go_wp2
    go_ret
    first
      | exact ⟨rfl, rfl⟩
      | exact ⟨by simp [Array.getD] <;> omega, rfl⟩
  | false =>
    rcases spO_no h with h1 | ⟨h1, h2⟩ | ⟨h1, h2, h3⟩
    · clear h
      go_enter Tryz.func17, Tryz.ntmps17
      go_wp2
      go_ret
      first
        | exact ⟨rfl, rfl⟩
        | exact ⟨by simp [Array.getD] <;> omega, rfl⟩
    · clear h
      go_enter Tryz.func17, Tryz.ntmps17
      go_wp2
      go_ret
      first
        | exact ⟨rfl, rfl⟩
        | exact ⟨by simp [Array.getD] <;> omega, rfl⟩
    · clear h
      go_enter Tryz.func17, Tryz.ntmps17
      go_wp2
      go_ret
      first
        | exact ⟨rfl, rfl⟩
        | exact ⟨by simp [Array.getD] <;> omega, rfl⟩

set_option maxHeartbeats 2000000 in
theorem runs_all {F : Nat → Prop} {a : Option Addr} {c : Nat} {xs : List Srv} (fr be : Int) (w : World) (hg : Gl w) (h : Sv w F a xs.length c xs) (hF : ∀ k, F k → k < w.heap.size) :
    Calls Tryz.prog 5 #[.slice a xs.length c, .int .i64 fr, .int .i64 be] w fun e w' => ∃ v, e = .returned (.tuple #[v, .int .i64 (ruE xs fr be)]) ∧ Ow w' w.heap.size v (ruL xs fr be) ∧ Kept No w w' := by
  have hc := hyper_any F a xs.length c xs w hg h
  cases ht : timF xs xs.length with
  | some p =>
    obtain ⟨e1, e2⟩ := ru_none (fr := fr) (be := be) ht
    rw [e1, e2]
    rw [(tim_no ht).1, (tim_no ht).2] at hc
    have hp1 : (p.1 != 0) = true := bne_iff_ne.2 (tim_neQ ht)
    clear h hF ht e1 e2 hg
    generalize p.1 = E at *
    go_enter Tryz.func5, Tryz.ntmps5
    go_wp2_with (go_at_call 16; refine hc.mono ?_; rintro e w1 ⟨rfl, hk1⟩; have HK1 : Hid (Kept No w w1) := hk1; clear hk1 hc)
    go_ret2
    exact ⟨_, rfl, ⟨rfl, .inl ⟨rfl, rfl⟩⟩, HK1.out⟩
  | none =>
    cases hs : spO fr be with
    | true =>
      obtain ⟨h1, h2, h3⟩ := spO_yes hs
      have := runs_yes fr.toNat be.toNat w hg h hF ht (by omega) (by omega)
      rw [show ((fr.toNat : Nat) : Int) = fr by omega, show ((be.toNat : Nat) : Int) = be by omega] at this
      refine this.mono ?_
      rintro e w' ⟨hk, ⟨v, hl, rfl, ho⟩ | ⟨hl, rfl⟩⟩
      · obtain ⟨e1, e2⟩ := ru_few ht hs hl
        rw [e1, e2]
        exact ⟨v, rfl, ho, hk⟩
      · obtain ⟨e1, e2⟩ := ru_many ht hs hl
        rw [e1, e2]
        exact ⟨_, rfl, ⟨rfl, .inl ⟨rfl, rfl⟩⟩, hk⟩
    | false =>
      obtain ⟨e1, e2⟩ := ru_bad ht hs
      rw [e1, e2]
      rw [(tim_yes ht).1, (tim_yes ht).2] at hc
      have hsp := fun W => isSpan_any fr be W
      rw [hs] at hsp
      clear h hF ht e1 e2 hg hs
      generalize ((hyp xs : Nat) : Int) = Y at *
      go_enter Tryz.func5, Tryz.ntmps5
      go_wp2_with (first
        | (go_at_call 16; refine hc.mono ?_; rintro e w1 ⟨rfl, hk1⟩; have HK1 : Hid (Kept No w w1) := hk1; clear hk1 hc)
        | (go_at_call 17; refine (hsp _).mono ?_; rintro e w2 ⟨rfl, hw2⟩; obtain rfl := hw2.symm))
      go_ret2
      exact ⟨_, rfl, ⟨rfl, .inl ⟨rfl, rfl⟩⟩, HK1.out⟩

set_option maxHeartbeats 2000000 in
theorem supply_all {F : Nat → Prop} {a : Option Addr} {c : Nat} {xs : List Srv} (p fr be : Int) (w : World) (hg : Gl w) (h : Sv w F a xs.length c xs) (hF : ∀ k, F k → k < w.heap.size) :
    Calls Tryz.prog 8 #[.slice a xs.length c, .int .i64 p, .int .i64 fr, .int .i64 be] w fun e w' => e = .returned (.tuple #[.int .i64 (suV xs p fr be), .int .i64 (suE xs p fr be)]) ∧ Kept No w w' := by
  have hc := hyper_any F a xs.length c xs w hg h
  have hnm : xs.length ≤ 9223372036854775807 := Nat.le_trans h.cap h.max
  cases ht : timF xs xs.length with
  | some q =>
    obtain ⟨e1, e2⟩ := su_none (p := p) (fr := fr) (be := be) ht
    rw [e1, e2]
    rw [(tim_no ht).1, (tim_no ht).2] at hc
    have hp1 : (q.1 != 0) = true := bne_iff_ne.2 (tim_neQ ht)
    clear h hF ht e1 e2 hg
    generalize q.1 = E at *
    go_enter Tryz.func8, Tryz.ntmps8
    go_wp2_with (go_at_call 16; refine hc.mono ?_; rintro e w1 ⟨rfl, hk1⟩; have HK1 : Hid (Kept No w w1) := hk1; clear hk1 hc)
    go_ret2
    exact ⟨rfl, HK1.out⟩
  | none =>
    cases hp : thO xs.length p with
    | false =>
      obtain ⟨e1, e2⟩ := su_not (fr := fr) (be := be) ht hp
      rw [e1, e2]
      rw [(tim_yes ht).1, (tim_yes ht).2] at hc
      have hth := fun W => isThere_any a xs.length c p W hnm
      rw [hp] at hth
      clear h hF ht e1 e2 hg hp
      generalize ((hyp xs : Nat) : Int) = Y at *
      go_enter Tryz.func8, Tryz.ntmps8
      go_wp2_with (first
        | (go_at_call 16; refine hc.mono ?_; rintro e w1 ⟨rfl, hk1⟩; have HK1 : Hid (Kept No w w1) := hk1; clear hk1 hc)
        | (go_at_call 27; refine (hth _).mono ?_; rintro e w2 ⟨rfl, hw2⟩; obtain rfl := hw2.symm))
      go_ret2
      exact ⟨rfl, HK1.out⟩
    | true =>
      cases hs : spO fr be with
      | true =>
        obtain ⟨h1, h2, h3⟩ := spO_yes hs
        obtain ⟨p1, p2⟩ := thO_yes hp
        obtain ⟨e1, e2⟩ := su_good ht hp hs
        rw [e1, e2]
        have := supply_yes p.toNat fr.toNat be.toNat w hg h hF ht (by omega) (by omega) (by omega) (by omega)
        rw [show ((fr.toNat : Nat) : Int) = fr by omega, show ((be.toNat : Nat) : Int) = be by omega, show ((p.toNat : Nat) : Int) = p by omega] at this
        exact this
      | false =>
        obtain ⟨e1, e2⟩ := su_bad ht hp hs
        rw [e1, e2]
        rw [(tim_yes ht).1, (tim_yes ht).2] at hc
        have hth := fun W => isThere_any a xs.length c p W hnm
        rw [hp] at hth
        have hsp := fun W => isSpan_any fr be W
        rw [hs] at hsp
        clear h hF ht e1 e2 hg hp hs
        generalize ((hyp xs : Nat) : Int) = Y at *
        go_enter Tryz.func8, Tryz.ntmps8
        go_wp2_with (first
          | (go_at_call 16; refine hc.mono ?_; rintro e w1 ⟨rfl, hk1⟩; have HK1 : Hid (Kept No w w1) := hk1; clear hk1 hc)
          | (go_at_call 27; refine (hth _).mono ?_; rintro e w2 ⟨rfl, hw2⟩; obtain rfl := hw2.symm)
          | (go_at_call 17; refine (hsp _).mono ?_; rintro e w2 ⟨rfl, hw2⟩; obtain rfl := hw2.symm))
        go_ret2
        exact ⟨rfl, HK1.out⟩

set_option maxHeartbeats 2000000 in
theorem next_all {F : Nat → Prop} {a : Option Addr} {c : Nat} {xs : List Srv} (p fr : Int) (w : World) (hg : Gl w) (h : Sv w F a xs.length c xs) (hF : ∀ k, F k → k < w.heap.size) :
    Calls Tryz.prog 10 #[.slice a xs.length c, .int .i64 p, .int .i64 fr] w fun e w' => e = .returned (.tuple #[.int .i64 (nxV xs p fr), .int .i64 (nxE xs p fr)]) ∧ Kept No w w' := by
  have HC : Hid (∀ W, Kept No w W → Calls Tryz.prog 16 #[.slice a xs.length c] W fun e w' => e = .returned (.tuple #[.int .i64 (hyV xs xs.length), .int .i64 (hyE xs xs.length)]) ∧ Kept No W w') := fun W k => hyper_any F a xs.length c xs W (hg.kept k) (h.keep k)
  have hnm : xs.length ≤ 9223372036854775807 := Nat.le_trans h.cap h.max
  cases ht : timF xs xs.length with
  | some q =>
    have e1 : nxE xs p fr = q.1 := (su_none ht).1
    rw [nxV_no (by rw [e1]; exact tim_neQ ht), e1]
    rw [(tim_no ht).1, (tim_no ht).2] at HC
    have hp1 : (q.1 != 0) = true := bne_iff_ne.2 (tim_neQ ht)
    clear h hF ht e1 hg
    generalize q.1 = E at *
    go_enter Tryz.func10, Tryz.ntmps10
    go_wp2_with (go_at_call 16; refine (HC.out _ ((Kept.refl No w).alloc _)).mono ?_; rintro e w1 ⟨rfl, hk1⟩; have HK1 : Hid (Kept No w w1) := ((Kept.refl No w).alloc _).trans hk1 (fun _ h => h.elim); clear hk1 HC)
    go_ret2
    exact ⟨rfl, HK1.out⟩
  | none =>
    cases hp : thO xs.length p with
    | false =>
      have e1 : nxE xs p fr = 220 := (su_not ht hp).1
      rw [nxV_no (by rw [e1]; decide), e1]
      rw [(tim_yes ht).1, (tim_yes ht).2] at HC
      have hth := fun W => isThere_any a xs.length c p W hnm
      rw [hp] at hth
      clear h hF ht e1 hg hp
      generalize ((hyp xs : Nat) : Int) = Y at *
      go_enter Tryz.func10, Tryz.ntmps10
      go_wp2_with (first
        | (go_at_call 16; refine (HC.out _ ((Kept.refl No w).alloc _)).mono ?_; rintro e w1 ⟨rfl, hk1⟩; have HK1 : Hid (Kept No w w1) := ((Kept.refl No w).alloc _).trans hk1 (fun _ h => h.elim); have c1 := cell_box (hk1.at' (World.alloc_heap_new w (.cells #[.int .i64 p] 3)) (fun h => h)); clear hk1 HC)
        | (go_at_call 27; refine (hth _).mono ?_; rintro e w2 ⟨rfl, hw2⟩; obtain rfl := hw2.symm))
      go_ret2
      exact ⟨rfl, HK1.out⟩
    | true =>
      cases hs : spO fr 1099511627776 with
      | true =>
        obtain ⟨h1, h2, h3⟩ := spO_yes hs
        obtain ⟨p1, p2⟩ := thO_yes hp
        have e1 : nxE xs p fr = 0 := (su_good ht hp hs).1
        have := nextOf_yes p.toNat fr.toNat w hg h hF ht (by omega) (by omega) (by omega)
        rw [show ((fr.toNat : Nat) : Int) = fr by omega, show ((p.toNat : Nat) : Int) = p by omega] at this
        refine this.mono ?_
        rintro e w' ⟨hk, x, rfl, hx⟩
        rw [nxV_is e1 (nx_of (vd_of ht) (Nat.min_le_right _ _) (Nat.le_refl _) hx), e1]
        exact ⟨rfl, hk⟩
      | false =>
        have e1 : nxE xs p fr = 2 := (su_bad ht hp hs).1
        rw [nxV_no (by rw [e1]; decide), e1]
        rw [(tim_yes ht).1, (tim_yes ht).2] at HC
        have hth := fun W => isThere_any a xs.length c p W hnm
        rw [hp] at hth
        have hsp := fun W => isSpan_any fr 1099511627776 W
        rw [hs] at hsp
        clear h hF ht e1 hg hp hs
        generalize ((hyp xs : Nat) : Int) = Y at *
        go_enter Tryz.func10, Tryz.ntmps10
        go_wp2_with (first
          | (go_at_call 16; refine (HC.out _ ((Kept.refl No w).alloc _)).mono ?_; rintro e w1 ⟨rfl, hk1⟩; have HK1 : Hid (Kept No w w1) := ((Kept.refl No w).alloc _).trans hk1 (fun _ h => h.elim); have c1 := cell_box (hk1.at' (World.alloc_heap_new w (.cells #[.int .i64 p] 3)) (fun h => h)); clear hk1 HC)
          | (go_at_call 27; refine (hth _).mono ?_; rintro e w2 ⟨rfl, hw2⟩; obtain rfl := hw2.symm)
          | (go_at_call 17; refine (hsp _).mono ?_; rintro e w2 ⟨rfl, hw2⟩; obtain rfl := hw2.symm))
        go_ret2
        exact ⟨rfl, HK1.out⟩
end Go.Proofs.YtkjnhhoniodbcaaGreatDoor

namespace Go.Proofs.YtkjnhhoniodbcaaGreatDoor
open Go.RowKit Plain
set_option linter.unusedVariables false
set_option maxRecDepth 100000

theorem rspan_any (fr be : Int) (w : World) : Calls Tryz.prog 23 #[.int .i64 fr, .int .i64 be] w fun e w' => e = .returned (.bool (spO fr be)) ∧ w' = w := by
  cases h : spO fr be with
  | true =>
    obtain ⟨h1, h2, h3⟩ := spO_yes h
    clear h
    go_enter Tryz.func23, Tryz.ntmps23
    go_wp2
    go_ret
    first
      | exact ⟨rfl, rfl⟩
      | exact ⟨by simp [Array.getD] <;> omega, rfl⟩
  | false =>
    rcases spO_no h with h1 | ⟨h1, h2⟩ | ⟨h1, h2, h3⟩
    · clear h
      go_enter Tryz.func23, Tryz.ntmps23
      go_wp2
      go_ret
      first
        | exact ⟨rfl, rfl⟩
        | exact ⟨by simp [Array.getD] <;> omega, rfl⟩
    · clear h
      go_enter Tryz.func23, Tryz.ntmps23
      go_wp2
      go_ret
      first
        | exact ⟨rfl, rfl⟩
        | exact ⟨by simp [Array.getD] <;> omega, rfl⟩
    · clear h
      go_enter Tryz.func23, Tryz.ntmps23
      go_wp2
      go_ret
      first
        | exact ⟨rfl, rfl⟩
        | exact ⟨by simp [Array.getD] <;> omega, rfl⟩

/-- what single answers -/
def SgP (f : Nat → Nat) (H : Nat) (e : Ending) : Prop := ∃ b, e = .returned (.bool b) ∧ (b = true → ∀ t, H ≤ t → t < 2 * H → f t = f H)

set_option maxHeartbeats 2000000 in
theorem single_any {G : Nat → Prop} {a : Option Addr} {c H : Nat} {f : Nat → Nat} (w : World) (h : Ol w G a (2 * H) c f) (h1 : 1 ≤ H) (h2 : H ≤ 1048576) :
    Calls Tryz.prog 25 #[.slice a (2 * H : Nat) c, .int .i64 H] w fun e w' => SgP f H e ∧ Kept No w w' := by
  have HO : Hid (Ol w G a (2 * H) c f) := h
  have hcap := h.cap
  have hmax := h.max
  obtain ⟨b, rfl, _, hH⟩ := h.at' H (by omega)
  clear h
  have HH : Hid (w.cell? ⟨b, H, none⟩ = some (.int .i64 (f H : Nat))) := hH
  have hHm : (H : Int) < ((2 * H : Nat) : Int) := by omega
  clear hH
  go_enter Tryz.func25, Tryz.ntmps25
  go_wp2
  go_loopw [5] (fun x wr => ∃ t : Nat, H ≤ t ∧ t ≤ 2 * H ∧ x = .int .i64 t ∧ (∀ u, H ≤ u → u < t → f u = f H) ∧ Kept No w wr) (fun x _ => 2 * H - (intOf x).toNat)
  case atStart => exact ⟨H, Nat.le_refl _, by omega, rfl, fun u q1 q2 => by omega, Kept.refl _ _⟩
  case round =>
    obtain ⟨t, ht1, ht2, rfl, hall, hkr⟩ := hrel
    have HK : Hid ((∀ u, H ≤ u → u < t → f u = f H) ∧ Kept No w wr) := ⟨hall, hkr⟩
    have c1 := hkr.cell HH.out (fun h => h)
    clear hall hkr
    by_cases hlt : t < 2 * H
    · have hltz : (t : Int) < 2 * (H : Int) := by omega
      have htm : (t : Int) < ((2 * H : Nat) : Int) := by omega
      obtain ⟨b', eb, _, c0'⟩ := HO.out.at' t hlt
      injection eb with eb
      injection eb with eb _ _
      subst eb
      have c0 := HK.out.2.cell c0' (fun h => h)
      clear c0'
      by_cases he : f t = f H
      · have HX : Hid (∀ u, H ≤ u → u < t + 1 → f u = f H) := fun u q1 q2 => by
          by_cases e : u = t
          · rw [e]; exact he
          · exact HK.out.1 u q1 (by omega)
        rw [he] at c0
        clear he
        generalize ((f H : Nat) : Int) = fh at *
        go_upto_region 4 with fail
        go_quiet (fail)
        clear c0 c1
        go_wp2
        go_roundw
        case rel => exact ⟨t + 1, by omega, by omega, by go_num, HX.out, HK.out.2.drewN _⟩
        case measure => simp [intOf]; omega
      · have hne : ¬ ((f t : Nat) : Int) = ((f H : Nat) : Int) := by omega
        clear he
        generalize ((f H : Nat) : Int) = fh at *
        generalize ((f t : Nat) : Int) = ft at *
        go_upto_region 4 with fail
        go_quiet (fail)
        clear c0 c1
        go_wp2
        go_ret
        exact ⟨⟨false, rfl, fun h => by cases h⟩, HK.out.2.drewN _⟩
    · have hltz : ¬ (t : Int) < 2 * (H : Int) := by omega
      have HX : Hid (∀ u, H ≤ u → u < 2 * H → f u = f H) := fun u q1 q2 => HK.out.1 u q1 (by omega)
      clear ht2
      go_wp2
      go_ret
      exact ⟨⟨true, rfl, fun _ => HX.out⟩, HK.out.2⟩

set_option maxHeartbeats 2000000 in
theorem between_any {G : Nat → Prop} {a : Option Addr} {c H : Nat} {f : Nat → Nat} (p fr be : Nat) (w : World) (h : Ol w G a (2 * H) c f) (h1 : 1 ≤ H) (h2 : H ≤ 1048576) (hf : ∀ t, H ≤ t → f (t + H) = f t) (hfb : fr ≤ be) (hb : be ≤ 1099511627776) :
    Calls Tryz.prog 29 #[.slice a (2 * H : Nat) c, .int .i64 H, .int .i64 p, .int .i64 fr, .int .i64 be] w fun e w' => e = .returned (.int .i64 ((Rule.cnt f p be : Nat) - (Rule.cnt f p fr : Nat))) ∧ Kept No w w' := by
  have HU : Hid (∀ (t : Nat) W, t ≤ 1099511627776 → Kept No w W → Calls Tryz.prog 46 #[.slice a (2 * H : Nat) c, .int .i64 H, .int .i64 p, .int .i64 t] W fun e w' => e = .returned (.int .i64 (Rule.cnt f p t : Nat)) ∧ ∃ n, w' = W.drewN n) := fun t W ht k => upTo_any p t W (h.kept k (fun _ _ h => h)) h1 h2 hf ht
  have l1 := Rule.cnt_le f p be
  have l2 := Rule.cnt_le f p fr
  have u1 := HU.out be w hb (Kept.refl _ _)
  have HU2 : Hid (∀ n, Calls Tryz.prog 46 #[.slice a (2 * H : Nat) c, .int .i64 H, .int .i64 p, .int .i64 fr] (w.drewN n) fun e w' => e = .returned (.int .i64 (Rule.cnt f p fr : Nat)) ∧ ∃ n, w' = w.drewN n) := fun n => (HU.out fr (w.drewN n) (by omega) ((Kept.refl No w).drewN n)).mono (fun e w' ⟨e1, m, e2⟩ => ⟨e1, by rw [e2]; exact ⟨_, World.drewN_drewN _ _ _⟩⟩)
  clear h HU
  generalize hA : ((Rule.cnt f p be : Nat) : Int) = X at *
  generalize hB : ((Rule.cnt f p fr : Nat) : Int) = Y at *
  have z1 : 0 ≤ X ∧ X ≤ 1099511627776 := by omega
  have z2 : 0 ≤ Y ∧ Y ≤ 1099511627776 := by omega
  clear hA hB l1 l2
  obtain ⟨z11, z12⟩ := z1
  obtain ⟨z21, z22⟩ := z2
  generalize (2 * H : Nat) = M at *
  go_enter Tryz.func29, Tryz.ntmps29
  go_wp2_with (first
    | (go_at_call 46; refine u1.mono ?_; rintro e w1 ⟨rfl, n1, hw⟩; subst hw; clear u1; have u2 := HU2.out n1)
    | (go_at_call 46; refine u2.mono ?_; rintro e w2 ⟨rfl, n2, hw⟩; subst hw; clear u2))
  go_ret
  exact ⟨rfl, (Kept.refl No w).drewN _⟩

set_option maxHeartbeats 4000000 in
theorem refSupply_any {F : Nat → Prop} {a : Option Addr} {c : Nat} {xs : List Srv} (p fr be : Int) (w : World) (h : Sv w F a xs.length c xs) (hF : ∀ k, F k → k < w.heap.size) :
    Calls Tryz.prog 9 #[.slice a xs.length c, .int .i64 p, .int .i64 fr, .int .i64 be] w fun e w' => e = .returned (.tuple #[.int .i64 (suV xs p fr be), .int .i64 (suE xs p fr be)]) ∧ Kept No w w' := by
  have hc := rHyper_any F a xs.length c xs w h
  have hcap := h.cap
  have hmax := h.max
  cases ht : timF xs xs.length with
  | some q =>
    obtain ⟨e1, e2⟩ := su_none (p := p) (fr := fr) (be := be) ht
    rw [e1, e2]
    rw [(tim_no ht).1, (tim_no ht).2] at hc
    have hp1 : (q.1 != 0) = true := bne_iff_ne.2 (tim_neQ ht)
    clear h hF ht e1 e2
    generalize q.1 = E at *
    go_enter Tryz.func9, Tryz.ntmps9
    go_wp2_with (go_at_call 22; refine hc.mono ?_; rintro e w1 ⟨rfl, hk1⟩; have HK1 : Hid (Kept No w w1) := hk1; clear hk1 hc)
    go_ret2
    exact ⟨rfl, HK1.out⟩
  | none =>
    rw [(tim_yes ht).1, (tim_yes ht).2] at hc
    have hv := vd_of ht
    cases hp : thO xs.length p with
    | false =>
      obtain ⟨e1, e2⟩ := su_not (fr := fr) (be := be) ht hp
      rw [e1, e2]
      have hp2 := thO_no hp
      clear h hF ht e1 e2 hp hv
      generalize ((hyp xs : Nat) : Int) = Y at *
      rcases hp2 with h1 | ⟨h1, h2⟩
      · go_enter Tryz.func9, Tryz.ntmps9
        go_wp2_with (go_at_call 22; refine hc.mono ?_; rintro e w1 ⟨rfl, hk1⟩; have HK1 : Hid (Kept No w w1) := hk1; clear hk1 hc)
        go_ret2
        exact ⟨rfl, HK1.out⟩
      · go_enter Tryz.func9, Tryz.ntmps9
        go_wp2_with (go_at_call 22; refine hc.mono ?_; rintro e w1 ⟨rfl, hk1⟩; have HK1 : Hid (Kept No w w1) := hk1; clear hk1 hc)
        go_ret2
        exact ⟨rfl, HK1.out⟩
    | true =>
      obtain ⟨p1, p2⟩ := thO_yes hp
      have hsp := fun W => rspan_any fr be W
      cases hs : spO fr be with
      | false =>
        obtain ⟨e1, e2⟩ := su_bad ht hp hs
        rw [e1, e2]
        rw [hs] at hsp
        clear h hF ht e1 e2 hp hs hv
        generalize ((hyp xs : Nat) : Int) = Y at *
        go_enter Tryz.func9, Tryz.ntmps9
        go_wp2_with (first
          | (go_at_call 22; refine hc.mono ?_; rintro e w1 ⟨rfl, hk1⟩; have HK1 : Hid (Kept No w w1) := hk1; clear hk1 hc)
          | (go_at_call 23; refine (hsp _).mono ?_; rintro e w2 ⟨rfl, hw2⟩; obtain rfl := hw2.symm))
        go_ret2
        exact ⟨rfl, HK1.out⟩
      | true =>
        obtain ⟨e1, e2⟩ := su_good ht hp hs
        rw [e1, e2]
        rw [hs] at hsp
        obtain ⟨s1, s2, s3⟩ := spO_yes hs
        have hy1 := hv.hyp1
        have hy2 := hv.hyp2
        have HB : Hid (∀ (G : Nat → Prop) (a3 : Option Addr) (c3 : Nat) W, Ol W G a3 (2 * hyp xs) c3 (Rule.occ (sys xs)) → Calls Tryz.prog 29 #[.slice a3 (2 * hyp xs : Nat) c3, .int .i64 (hyp xs : Nat), .int .i64 p, .int .i64 fr, .int .i64 be] W fun e w' => e = .returned (.int .i64 ((Rule.cnt (Rule.occ (sys xs)) p.toNat be.toNat : Nat) - (Rule.cnt (Rule.occ (sys xs)) p.toNat fr.toNat : Nat))) ∧ Kept No W w') := fun G a3 c3 W ho => by
          have := between_any p.toNat fr.toNat be.toNat W ho hy1 hy2 (occ_turns hv) (by omega) (by omega)
          rw [show ((fr.toNat : Nat) : Int) = fr by omega, show ((be.toNat : Nat) : Int) = be by omega, show ((p.toNat : Nat) : Int) = p by omega] at this
          exact this
        have HP : Hid (∀ W, Kept No w W → Calls Tryz.prog 24 #[.slice a xs.length c, .int .i64 (2 * hyp xs : Nat)] W fun e w' => ∃ v, e = .returned v ∧ Oi w' W.heap.size v (Rule.occ (sys xs)) (2 * hyp xs) ∧ Kept No W w') := fun W k => rplay_any hv W (h.keep k) (fun j hj => Nat.lt_of_lt_of_le (hF j hj) k.size) _ (by omega)
        rw [show ((2 * hyp xs : Nat) : Int) = 2 * ((hyp xs : Nat) : Int) by omega] at HP
        have hYz : ((hyp xs : Nat) : Int) ≤ 1048576 := by omega
        have hYz1 : 1 ≤ ((hyp xs : Nat) : Int) := by omega
        clear h hF ht e1 e2 hp hs hv
        generalize (((Rule.cnt (Rule.occ (sys xs)) p.toNat be.toNat : Nat) : Int) - (Rule.cnt (Rule.occ (sys xs)) p.toNat fr.toNat : Nat)) = X at *
        go_enter Tryz.func9, Tryz.ntmps9
        go_wp2_with (first
          | (go_at_call 22; refine hc.mono ?_; rintro e w1 ⟨rfl, hk1⟩; have HK1 : Hid (Kept No w w1) := hk1; clear hk1 hc; have pl := HP.out w1 HK1.out)
          | (go_at_call 23; refine (hsp _).mono ?_; rintro e w2 ⟨rfl, hw2⟩; obtain rfl := hw2.symm)
          | (go_at_call 24; refine pl.mono ?_; rintro e w3 ⟨v3, rfl, ho3, hk3⟩; obtain ⟨a3, c3, rfl, hl3⟩ := Ol.of ho3; have bt := HB.out _ a3 c3 w3 hl3; have HK3 : Hid (Kept No w w3) := HK1.out.trans hk3 (fun _ h => h.elim); clear pl ho3 hk3 hl3)
          | (go_at_call 29; refine bt.mono ?_; rintro e w4 ⟨rfl, hk4⟩; have HK4 : Hid (Kept No w w4) := HK3.out.trans hk4 (fun _ h => h.elim); clear bt hk4))
        go_ret2
        exact ⟨rfl, HK4.out⟩
end Go.Proofs.YtkjnhhoniodbcaaGreatDoor

namespace Go.Proofs.YtkjnhhoniodbcaaGreatDoor
open Go.RowKit Plain
set_option linter.unusedVariables false
set_option maxRecDepth 100000

theorem fold_lt {xs : List Srv} (hv : Vd xs) (T : Nat) : Rule.fold (hyp xs) T < 2 * hyp xs := by
  unfold Rule.fold
  have := hv.hyp1
  split
  · omega
  · have := Nat.mod_lt T (show hyp xs > 0 by omega); omega
theorem fold_occ {xs : List Srv} (hv : Vd xs) (T : Nat) : Rule.occ (sys xs) T = Rule.occ (sys xs) (Rule.fold (hyp xs) T) := Rule.occ_fold hv.bd.ok hv.hyp1 (fun i hi => hv.dvd i hi) T

set_option maxHeartbeats 4000000 in
theorem refNext_any {F : Nat → Prop} {a : Option Addr} {c : Nat} {xs : List Srv} (p fr : Int) (w : World) (h : Sv w F a xs.length c xs) (hF : ∀ k, F k → k < w.heap.size) :
    Calls Tryz.prog 11 #[.slice a xs.length c, .int .i64 p, .int .i64 fr] w fun e w' => e = .returned (.tuple #[.int .i64 (nxV xs p fr), .int .i64 (nxE xs p fr)]) ∧ Kept No w w' := by
  have hc := rHyper_any F a xs.length c xs w h
  have hcap := h.cap
  have hmax := h.max
  cases ht : timF xs xs.length with
  | some q =>
    have e1 : nxE xs p fr = q.1 := (su_none ht).1
    rw [nxV_no (by rw [e1]; exact tim_neQ ht), e1]
    rw [(tim_no ht).1, (tim_no ht).2] at hc
    have hp1 : (q.1 != 0) = true := bne_iff_ne.2 (tim_neQ ht)
    clear h hF ht e1
    generalize q.1 = E at *
    go_enter Tryz.func11, Tryz.ntmps11
    go_wp2_with (go_at_call 22; refine hc.mono ?_; rintro e w1 ⟨rfl, hk1⟩; have HK1 : Hid (Kept No w w1) := hk1; clear hk1 hc)
    go_ret2
    exact ⟨rfl, HK1.out⟩
  | none =>
    rw [(tim_yes ht).1, (tim_yes ht).2] at hc
    have hv := vd_of ht
    cases hp : thO xs.length p with
    | false =>
      have e1 : nxE xs p fr = 220 := (su_not ht hp).1
      rw [nxV_no (by rw [e1]; decide), e1]
      have hp2 := thO_no hp
      clear h hF ht e1 hp hv
      generalize ((hyp xs : Nat) : Int) = Y at *
      rcases hp2 with h1 | ⟨h1, h2⟩
      · go_enter Tryz.func11, Tryz.ntmps11
        go_wp2_with (go_at_call 22; refine hc.mono ?_; rintro e w1 ⟨rfl, hk1⟩; have HK1 : Hid (Kept No w w1) := hk1; clear hk1 hc)
        go_ret2
        exact ⟨rfl, HK1.out⟩
      · go_enter Tryz.func11, Tryz.ntmps11
        go_wp2_with (go_at_call 22; refine hc.mono ?_; rintro e w1 ⟨rfl, hk1⟩; have HK1 : Hid (Kept No w w1) := hk1; clear hk1 hc)
        go_ret2
        exact ⟨rfl, HK1.out⟩
    | true =>
      obtain ⟨p1, p2⟩ := thO_yes hp
      cases hs : spO fr 1099511627776 with
      | false =>
        have e1 : nxE xs p fr = 2 := (su_bad ht hp hs).1
        rw [nxV_no (by rw [e1]; decide), e1]
        have hs2 : fr < 0 ∨ (¬ fr < 0 ∧ 1099511627776 < fr) := by rcases spO_no hs with q | q | q <;> omega
        clear h hF ht e1 hp hs hv
        generalize ((hyp xs : Nat) : Int) = Y at *
        rcases hs2 with h1 | ⟨h1, h2⟩
        · go_enter Tryz.func11, Tryz.ntmps11
          go_wp2_with (go_at_call 22; refine hc.mono ?_; rintro e w1 ⟨rfl, hk1⟩; have HK1 : Hid (Kept No w w1) := hk1; clear hk1 hc)
          go_ret2
          exact ⟨rfl, HK1.out⟩
        · go_enter Tryz.func11, Tryz.ntmps11
          go_wp2_with (go_at_call 22; refine hc.mono ?_; rintro e w1 ⟨rfl, hk1⟩; have HK1 : Hid (Kept No w w1) := hk1; clear hk1 hc)
          go_ret2
          exact ⟨rfl, HK1.out⟩
      | true =>
        obtain ⟨s1, s2, _⟩ := spO_yes hs
        have e1 : nxE xs p fr = 0 := (su_good ht hp hs).1
        rw [e1]
        obtain ⟨P, hP⟩ : ∃ P : Nat, p.toNat = P := ⟨_, rfl⟩
        obtain ⟨A, hA⟩ : ∃ A : Nat, fr.toNat = A := ⟨_, rfl⟩
        have HX : Hid (∀ x, nxI xs P A x → nxV xs p fr = x) := fun x hx => nxV_is e1 (by rw [hP, hA]; exact hx)
        have hy1 := hv.hyp1
        have hy2 := hv.hyp2
        have HV : Hid (Vd xs ∧ (A : Int) = fr ∧ (P : Int) = p) := ⟨hv, by omega, by omega⟩
        have HP : Hid (∀ W, Kept No w W → Calls Tryz.prog 24 #[.slice a xs.length c, .int .i64 (2 * hyp xs : Nat)] W fun e w' => ∃ v, e = .returned v ∧ Oi w' W.heap.size v (Rule.occ (sys xs)) (2 * hyp xs) ∧ Kept No W w') := fun W k => rplay_any hv W (h.keep k) (fun j hj => Nat.lt_of_lt_of_le (hF j hj) k.size) _ (by omega)
        rw [show ((2 * hyp xs : Nat) : Int) = 2 * ((hyp xs : Nat) : Int) by omega] at HP
        have hYz : ((hyp xs : Nat) : Int) ≤ 1048576 := by omega
        have hYz1 : 1 ≤ ((hyp xs : Nat) : Int) := by omega
        clear h hF ht e1 hp hs hv hP hA
        go_enter Tryz.func11, Tryz.ntmps11
        go_wp2_with (first
          | (go_at_call 22; refine hc.mono ?_; rintro e w1 ⟨rfl, hk1⟩; have HK1 : Hid (Kept No w w1) := hk1; clear hk1 hc; have pl := HP.out w1 HK1.out)
          | (go_at_call 24; refine pl.mono ?_; rintro e w3 ⟨v3, rfl, ho3, hk3⟩; obtain ⟨a3, c3, rfl, hl3⟩ := Ol.of ho3; have H3 : Hid (Ol w3 (fun k => w1.heap.size ≤ k ∧ k < w3.heap.size) a3 (2 * hyp xs) c3 (Rule.occ (sys xs)) ∧ Kept No w w3) := ⟨hl3, HK1.out.trans hk3 (fun _ h => h.elim)⟩; clear pl ho3 hk3 hl3))
        have hcp := H3.out.1.cap
        have hmx := H3.out.1.max
        go_loopw [11] (fun x wr => ∃ t : Nat, A ≤ t ∧ t ≤ A + 3 * hyp xs ∧ t ≤ 1099511627776 ∧ x = .int .i64 t ∧ (∀ u, A ≤ u → u < t → Rule.occ (sys xs) u ≠ P) ∧ Kept No w3 wr) (fun x _ => A + 3 * hyp xs - (intOf x).toNat)
        case atStart => exact ⟨A, Nat.le_refl _, by omega, by have := HV.out.2.1; omega, by rw [HV.out.2.1], fun u q1 q2 => by omega, Kept.refl _ _⟩
        case round =>
          obtain ⟨t, ht1, ht2, ht3, rfl, hall, hkr⟩ := hrel
          have HK : Hid ((∀ u, A ≤ u → u < t → Rule.occ (sys xs) u ≠ P) ∧ Kept No w3 wr) := ⟨hall, hkr⟩
          clear hall hkr
          by_cases hlt : t < A + 3 * hyp xs ∧ t < 1099511627776
          · have hl1 : (t : Int) < fr + 3 * ((hyp xs : Nat) : Int) := by have := HV.out.2.1; omega
            have hl2 : (t : Int) < 1099511627776 := by omega
            have fo := fold_any t (hyp xs) wr hy1 hy2 (by omega)
            have hfl := fold_lt HV.out.1 t
            have HFO : Hid (Rule.occ (sys xs) t = Rule.occ (sys xs) (Rule.fold (hyp xs) t)) := fold_occ HV.out.1 t
            obtain ⟨b, rfl, _, c0'⟩ := H3.out.1.at' (Rule.fold (hyp xs) t) hfl
            have c0 := HK.out.2.cell c0' (fun h => h)
            rw [← HFO.out] at c0
            clear c0'
            generalize Rule.fold (hyp xs) t = ff at *
            by_cases he : Rule.occ (sys xs) t = P
            · have HR : Hid (nxV xs p fr = (t : Int)) := HX.out _ (.inr ⟨t, rfl, hlt.2, ht1, he, HK.out.1⟩)
              have hez : ((Rule.occ (sys xs) t : Nat) : Int) = p := by have := HV.out.2.2; omega
              rw [hez] at c0
              clear he hez hlt
              go_wp2_with (go_at_call 26; refine fo.mono ?_; rintro e w5 ⟨rfl, hw5⟩; obtain rfl := hw5.symm; clear fo)
              go_ret2
              exact ⟨by rw [HR.out]; rfl, H3.out.2.trans HK.out.2 (fun _ h => h.elim)⟩
            · have hez : ¬ ((Rule.occ (sys xs) t : Nat) : Int) = p := by have := HV.out.2.2; omega
              have HR : Hid (∀ u, A ≤ u → u < t + 1 → Rule.occ (sys xs) u ≠ P) := fun u q1 q2 => by
                by_cases e : u = t
                · rw [e]; exact he
                · exact HK.out.1 u q1 (by omega)
              have HB : Hid (A ≤ t ∧ t < A + 3 * hyp xs ∧ t < 1099511627776) := ⟨ht1, hlt.1, hlt.2⟩
              clear he ht1 ht2 ht3 hlt
              have hq : (((Rule.occ (sys xs) t : Nat) : Int) == p) = false := beq_eq_false_iff_ne.2 hez
              clear hez
              generalize ((Rule.occ (sys xs) t : Nat) : Int) = ot at *
              clear p1 p2 s1 s2 hcap hmax
              go_wp2_with (go_at_call 26; refine fo.mono ?_; rintro e w5 ⟨rfl, hw5⟩; obtain rfl := hw5.symm; clear fo)
              go_roundw
              case rel => exact ⟨t + 1, by have := HB.out; omega, by have := HB.out; omega, by have := HB.out; omega, by go_num, HR.out, HK.out.2⟩
              case measure => have := HB.out; simp [intOf]; omega
          · have HR : Hid (nxV xs p fr = -1) := HX.out _ (nx_of (b := t) HV.out.1 ht3 (by omega) (.inl ⟨rfl, HK.out.1⟩))
            by_cases hl1 : (t : Int) < fr + 3 * ((hyp xs : Nat) : Int)
            · have hl2 : ¬ (t : Int) < 1099511627776 := by have := HV.out.2.1; omega
              clear hlt
              go_wp2
              go_ret2
              exact ⟨by rw [HR.out]; rfl, H3.out.2.trans HK.out.2 (fun _ h => h.elim)⟩
            · clear hlt
              go_wp2
              go_ret2
              exact ⟨by rw [HR.out]; rfl, H3.out.2.trans HK.out.2 (fun _ h => h.elim)⟩
end Go.Proofs.YtkjnhhoniodbcaaGreatDoor
