/-
  One text: ORuns, ONextOf, QTm, ZUn.
-/
import Derived.Test.YtibmgpinfdcaoaaGreatDoorG26
import Derived.Test.YtibmgpinfdcaoaaGreatDoorHQCnt
import Derived.Test.YtibmgpinfdcaoaaGreatDoorG33
import Derived.Deep.RegionWith
import Derived.Deep.RegionHeld
import Derived.Test.YtibmgpinfdcaoaaGreatDoorG29
namespace Go.Proofs.YtibmgpinfdcaoaaGreatDoor
open Go.RowKit Go.Shelf Plain
set_option linter.unusedVariables false
set_option maxRecDepth 100000

namespace Rule
theorem joinL_len (L : List (Nat × Nat)) (x : Nat × Nat) : L.length ≤ (joinL L x).length ∧ (joinL L x).length ≤ L.length + 1 := by
  rcases List.eq_nil_or_concat L with rfl | ⟨K, y, rfl⟩
  · rw [joinL_nil]; simp
  · rw [List.concat_eq_append, joinL_snoc]
    split <;> simp
theorem runsOf_len (f : Nat → Nat) (a m k : Nat) : (runsOf f a m).length ≤ (runsOf f a (m + k)).length := by
  induction k with
  | zero => exact Nat.le_refl _
  | succ k ih =>
    have := (joinL_len (runsOf f a (m + k)) (1, f (a + (m + k)))).1
    show _ ≤ (joinL (runsOf f a (m + k)) (1, f (a + (m + k)))).length
    omega
end Rule

theorem ow_len {w : World} {base : Nat} {a : Option Addr} {n c : Nat} {L : List (Nat × Nat)} (h : Ow w base (.slice a n c) L) : n = L.length := by
  obtain ⟨_, ⟨h, h0⟩ | ⟨g, cap, cur, h, _⟩⟩ := h
  · injection h with _ h _; omega
  · injection h with _ h _

end Go.Proofs.YtibmgpinfdcaoaaGreatDoor

namespace Go.Proofs.YtibmgpinfdcaoaaGreatDoor
open Go.RowKit Go.Shelf Plain
set_option linter.unusedVariables false
set_option maxRecDepth 100000

/-- t is the first of the ticks from a on, below b, that f gives p -/
def Fst (f : Nat → Nat) (p a t : Nat) : Prop := a ≤ t ∧ f t = p ∧ ∀ u, a ≤ u → u < t → f u ≠ p
/-- not found yet; found -/
def Nyet (f : Nat → Nat) (p a bp bn : Nat) : St := fun q W S => S = (fun k => k = bp ∨ k = bn) ∧ W.heap[bp]? = some (.cells #[.int .i64 p] 3) ∧ W.heap[bn]? = some (.cells #[.int .i64 (-1)] 3) ∧ a ≤ q ∧ ∀ u, a ≤ u → u < q → f u ≠ p
def Nhad (f : Nat → Nat) (p a b bp bn : Nat) : St := fun _ W S => S = (fun k => k = bp ∨ k = bn) ∧ W.heap[bp]? = some (.cells #[.int .i64 p] 3) ∧ ∃ t : Nat, W.heap[bn]? = some (.cells #[.int .i64 t] 3) ∧ t < b ∧ Fst f p a t
theorem Nyet.hangs (f : Nat → Nat) (p a bp bn : Nat) : Hangs (Nyet f p a bp bn) := by
  refine ⟨?_, ?_⟩
  · rintro q W S ⟨rfl, h1, h2, h3⟩ k (rfl | rfl)
    · exact heap_lt h1
    · exact heap_lt h2
  · rintro q W W' S ⟨rfl, h1, h2, h3⟩ hs hk
    exact ⟨rfl, (hk _ (.inl rfl)).trans h1, (hk _ (.inr rfl)).trans h2, h3⟩
theorem Nhad.hangs (f : Nat → Nat) (p a b bp bn : Nat) : Hangs (Nhad f p a b bp bn) := by
  refine ⟨?_, ?_⟩
  · rintro q W S ⟨rfl, h1, t, h2, h3⟩ k (rfl | rfl)
    · exact heap_lt h1
    · exact heap_lt h2
  · rintro q W W' S ⟨rfl, h1, t, h2, h3⟩ hs hk
    exact ⟨rfl, (hk _ (.inl rfl)).trans h1, t, (hk _ (.inr rfl)).trans h2, h3⟩

theorem next_or {f : Nat → Nat} {p a b bp bn : Nat} {W : World} {S : Nat → Prop} (h : Nyet f p a bp bn b W S ∨ ∃ q, Nhad f p a b bp bn q W S) :
    ∃ x : Int, W.heap[bn]? = some (.cells #[.int .i64 x] 3) ∧ ((x = -1 ∧ ∀ u, a ≤ u → u < b → f u ≠ p) ∨ ∃ t : Nat, x = t ∧ t < b ∧ Fst f p a t) := by
  rcases h with ⟨rfl, h1, h2, h3, h4⟩ | ⟨q, rfl, h1, t, h2, h3, h4⟩
  · exact ⟨-1, h2, .inl ⟨rfl, h4⟩⟩
  · exact ⟨t, h2, .inr ⟨t, rfl, h3, h4⟩⟩
/-- where the search ends -/
def nearOf (H fr : Nat) : Nat := min (fr + 2 * H) 1099511627776

end Go.Proofs.YtibmgpinfdcaoaaGreatDoor

namespace Go.Proofs.YtibmgpinfdcaoaaGreatDoor
open Go.RowKit Plain
set_option linter.unusedVariables false
set_option maxRecDepth 100000

theorem eachF_neQ {r : Nat → Int} {first : Int} : ∀ {n : Nat} {p : Int × Int}, eachF r first n = some p → p.1 ≠ 0
  | 0, p, h => by cases h
  | n + 1, p, h => by
    rw [eachF] at h
    cases he : eachF r first n with
    | some q => rw [he] at h; injection h with h; subst h; exact eachF_neQ he
    | none =>
      rw [he] at h
      simp only at h
      by_cases h0 : r n = 0
      · rw [if_pos h0] at h; cases h
      · rw [if_neg h0] at h; injection h with h; subst h; exact h0
theorem tim_neQ {xs : List Srv} {n : Nat} {p : Int × Int} (h : timF xs n = some p) : p.1 ≠ 0 := by
  unfold timF at h
  cases hf : findF xs n with
  | some q =>
    rw [hf] at h
    injection h with h
    subst h
    unfold findF at hf
    by_cases h32 : n ≤ 32
    · rw [if_pos h32] at hf; exact eachF_neQ hf
    · rw [if_neg h32] at hf; injection hf with hf; subst hf; decide
  | none =>
    rw [hf] at h
    unfold togF at h
    by_cases hb : lcmB (zP xs) n 1048576 = true
    · rw [if_pos hb] at h
      by_cases hr : relF (lcmV (zP xs) n 1048576) xs n ≤ 65536
      · rw [if_pos hr] at h; cases h
      · rw [if_neg hr] at h; injection h with h; subst h; decide
    · rw [if_neg hb] at h; injection h with h; subst h; decide
theorem occ_turns {xs : List Srv} (hv : Vd xs) : ∀ t, hyp xs ≤ t → Rule.occ (sys xs) (t + hyp xs) = Rule.occ (sys xs) t := fun t ht => Rule.again hv.bd.ok (fun i hi => hv.dvd i hi) t ht
def Bk9 (a : Option Addr) (k : Nat) : Prop := a = some ⟨k, 0, none⟩

/-- a span that may be -/
def spO (fr be : Int) : Bool := decide (0 ≤ fr) && decide (fr ≤ be) && decide (be ≤ 1099511627776)
theorem spO_yes {fr be : Int} (h : spO fr be = true) : 0 ≤ fr ∧ fr ≤ be ∧ be ≤ 1099511627776 := by simpa [spO, and_assoc] using h
theorem spO_no {fr be : Int} (h : spO fr be = false) : fr < 0 ∨ (0 ≤ fr ∧ be < fr) ∨ (0 ≤ fr ∧ fr ≤ be ∧ 1099511627776 < be) := by
  simp only [spO, Bool.and_eq_false_iff, decide_eq_false_iff_not] at h
  omega
def thO (n : Nat) (p : Int) : Bool := decide (1 ≤ p) && decide (p ≤ n)
theorem thO_yes {n : Nat} {p : Int} (h : thO n p = true) : 1 ≤ p ∧ p ≤ n := by simpa [thO] using h
theorem thO_no {n : Nat} {p : Int} (h : thO n p = false) : p < 1 ∨ (1 ≤ p ∧ (n : Int) < p) := by
  simp only [thO, Bool.and_eq_false_iff, decide_eq_false_iff_not] at h
  omega

def ruN (xs : List Srv) (fr be : Int) : List (Nat × Nat) := Rule.runsOf (Rule.occ (sys xs)) fr.toNat (be.toNat - fr.toNat)
def ruE (xs : List Srv) (fr be : Int) : Int := match timF xs xs.length with
  | some p => p.1
  | none => if spO fr be = true then (if (ruN xs fr be).length ≤ 65536 then 0 else 1) else 2
def ruL (xs : List Srv) (fr be : Int) : List (Nat × Nat) := if ruE xs fr be = 0 then ruN xs fr be else []
theorem ru_none {xs : List Srv} {fr be : Int} {p : Int × Int} (h : timF xs xs.length = some p) : ruE xs fr be = p.1 ∧ ruL xs fr be = [] := by
  have e : ruE xs fr be = p.1 := by unfold ruE; rw [h]
  exact ⟨e, by unfold ruL; rw [e, if_neg (tim_neQ h)]⟩
theorem ru_bad {xs : List Srv} {fr be : Int} (h : timF xs xs.length = none) (hs : spO fr be = false) : ruE xs fr be = 2 ∧ ruL xs fr be = [] := by
  have e : ruE xs fr be = 2 := by unfold ruE; rw [h]; simp [hs]
  exact ⟨e, by unfold ruL; rw [e]; rfl⟩
theorem ru_few {xs : List Srv} {fr be : Int} (h : timF xs xs.length = none) (hs : spO fr be = true) (hl : (ruN xs fr be).length ≤ 65536) : ruE xs fr be = 0 ∧ ruL xs fr be = ruN xs fr be := by
  have e : ruE xs fr be = 0 := by unfold ruE; rw [h]; simp [hs, hl]
  exact ⟨e, by unfold ruL; rw [e]; rfl⟩
theorem ru_many {xs : List Srv} {fr be : Int} (h : timF xs xs.length = none) (hs : spO fr be = true) (hl : 65536 < (ruN xs fr be).length) : ruE xs fr be = 1 ∧ ruL xs fr be = [] := by
  have e : ruE xs fr be = 1 := by unfold ruE; rw [h]; simp [hs]; omega
  exact ⟨e, by unfold ruL; rw [e]; rfl⟩
theorem ruL_len (xs : List Srv) (fr be : Int) : (ruL xs fr be).length ≤ 65536 := by
  cases h : timF xs xs.length with
  | some p => rw [(ru_none h).2]; simp
  | none =>
    cases hs : spO fr be with
    | false => rw [(ru_bad h hs).2]; simp
    | true =>
      by_cases hl : (ruN xs fr be).length ≤ 65536
      · rw [(ru_few h hs hl).2]; exact hl
      · rw [(ru_many h hs (by omega)).2]; simp

def suE (xs : List Srv) (p fr be : Int) : Int := match timF xs xs.length with
  | some q => q.1
  | none => if thO xs.length p = true then (if spO fr be = true then 0 else 2) else 220
def suV (xs : List Srv) (p fr be : Int) : Int := if suE xs p fr be = 0 then (Rule.cnt (Rule.occ (sys xs)) p.toNat be.toNat : Int) - (Rule.cnt (Rule.occ (sys xs)) p.toNat fr.toNat : Int) else 0
theorem su_none {xs : List Srv} {p fr be : Int} {q : Int × Int} (h : timF xs xs.length = some q) : suE xs p fr be = q.1 ∧ suV xs p fr be = 0 := by
  have e : suE xs p fr be = q.1 := by unfold suE; rw [h]
  exact ⟨e, by unfold suV; rw [e, if_neg (tim_neQ h)]⟩
theorem su_not {xs : List Srv} {p fr be : Int} (h : timF xs xs.length = none) (hp : thO xs.length p = false) : suE xs p fr be = 220 ∧ suV xs p fr be = 0 := by
  have e : suE xs p fr be = 220 := by unfold suE; rw [h]; simp [hp]
  exact ⟨e, by unfold suV; rw [e]; rfl⟩
theorem su_bad {xs : List Srv} {p fr be : Int} (h : timF xs xs.length = none) (hp : thO xs.length p = true) (hs : spO fr be = false) : suE xs p fr be = 2 ∧ suV xs p fr be = 0 := by
  have e : suE xs p fr be = 2 := by unfold suE; rw [h]; simp [hp, hs]
  exact ⟨e, by unfold suV; rw [e]; rfl⟩
theorem su_good {xs : List Srv} {p fr be : Int} (h : timF xs xs.length = none) (hp : thO xs.length p = true) (hs : spO fr be = true) : suE xs p fr be = 0 ∧ suV xs p fr be = (Rule.cnt (Rule.occ (sys xs)) p.toNat be.toNat : Int) - (Rule.cnt (Rule.occ (sys xs)) p.toNat fr.toNat : Int) := by
  have e : suE xs p fr be = 0 := by unfold suE; rw [h]; simp [hp, hs]
  exact ⟨e, by unfold suV; rw [e]; rfl⟩

def nxE (xs : List Srv) (p fr : Int) : Int := suE xs p fr 1099511627776
def nxI (xs : List Srv) (p fr : Nat) (x : Int) : Prop := (x = -1 ∧ ∀ u, fr ≤ u → u < 1099511627776 → Rule.occ (sys xs) u ≠ p) ∨ ∃ t : Nat, x = t ∧ t < 1099511627776 ∧ Fst (Rule.occ (sys xs)) p fr t
theorem nxI_one {xs : List Srv} {p fr : Nat} {x y : Int} (h : nxI xs p fr x) (k : nxI xs p fr y) : x = y := by
  rcases h with ⟨rfl, h⟩ | ⟨t, rfl, h1, h2, h3, h4⟩ <;> rcases k with ⟨rfl, k⟩ | ⟨u, rfl, k1, k2, k3, k4⟩
  · rfl
  · exact absurd k3 (h u k2 k1)
  · exact absurd h3 (k t h2 h1)
  · rcases Nat.lt_trichotomy t u with q | q | q
    · exact absurd h3 (k4 t h2 q)
    · rw [q]
    · exact absurd k3 (h4 u k2 q)
open Classical in
noncomputable def nxV (xs : List Srv) (p fr : Int) : Int := if nxE xs p fr = 0 then (if h : ∃ x, nxI xs p.toNat fr.toNat x then h.choose else 0) else 0
theorem nxV_is {xs : List Srv} {p fr x : Int} (he : nxE xs p fr = 0) (h : nxI xs p.toNat fr.toNat x) : nxV xs p fr = x := by
  have hx : ∃ x, nxI xs p.toNat fr.toNat x := ⟨x, h⟩
  unfold nxV
  rw [if_pos he, dif_pos hx]
  exact nxI_one hx.choose_spec h
theorem nxV_no {xs : List Srv} {p fr : Int} (he : nxE xs p fr ≠ 0) : nxV xs p fr = 0 := by
  unfold nxV
  rw [if_neg he]
theorem fst_least {f : Nat → Nat} {p a : Nat} : ∀ u, a ≤ u → f u = p → ∃ t, t ≤ u ∧ Fst f p a t := by
  intro u
  induction u using Nat.strongRecOn with
  | ind u ih =>
    intro h1 h2
    by_cases h : ∃ v, a ≤ v ∧ v < u ∧ f v = p
    · obtain ⟨v, q1, q2, q3⟩ := h
      obtain ⟨t, r1, r2⟩ := ih v q2 q1 q3
      exact ⟨t, by omega, r2⟩
    · exact ⟨u, Nat.le_refl _, h1, h2, fun v q1 q2 q3 => h ⟨v, q1, q2, q3⟩⟩
theorem fst_near {f : Nat → Nat} {p a t H : Nat} (h1 : 0 < H) (hf : ∀ t, H ≤ t → f (t + H) = f t) (h : Fst f p a t) : t < a + 2 * H := by
  apply Decidable.byContradiction
  intro hn
  have := hf (t - H) (by omega)
  rw [show t - H + H = t by omega, h.2.1] at this
  exact h.2.2 (t - H) (by omega) (by omega) this.symm
theorem nx_of {xs : List Srv} {p fr b : Nat} {x : Int} (hv : Vd xs) (hb : b ≤ 1099511627776) (hb2 : min (fr + 2 * hyp xs) 1099511627776 ≤ b) (h : (x = -1 ∧ ∀ u, fr ≤ u → u < b → Rule.occ (sys xs) u ≠ p) ∨ ∃ t : Nat, x = t ∧ t < b ∧ Fst (Rule.occ (sys xs)) p fr t) : nxI xs p fr x := by
  rcases h with ⟨e, h⟩ | ⟨t, e, h1, h2⟩
  · refine .inl ⟨e, fun u q1 q2 q3 => ?_⟩
    obtain ⟨t, r1, r2⟩ := fst_least u q1 q3
    have := fst_near hv.hyp1 (occ_turns hv) r2
    exact h t r2.1 (by omega) r2.2.1
  · exact .inr ⟨t, e, by omega, h2⟩
end Go.Proofs.YtibmgpinfdcaoaaGreatDoor

namespace Go.Proofs.YtibmgpinfdcaoaaGreatDoor
open Go.RowKit Go.Shelf Plain
set_option linter.unusedVariables false
set_option linter.unusedSimpArgs false
set_option maxRecDepth 100000

theorem spanE_tim {F : Nat → Prop} {a : Option Addr} {n c : Nat} {xs : List Srv} (fr be : Int) (w : World) (hg : Gl w) (h : Sv w F a n c xs) {q : Int × Int} (ht : timF xs n = some q) :
    Calls Tryz.prog 18 #[.slice a n c, .int .i64 fr, .int .i64 be] w fun e w' => e = .returned (.int .i64 q.1) ∧ Kept No w w' := by
  have hc := hyper_any F a n c xs w hg h
  rw [show hyE xs n = q.1 by unfold hyE; rw [ht]] at hc
  have g0 := tim_neQ ht
  generalize hyV xs n = v at *
  obtain ⟨z, hz⟩ : ∃ z, z = q.1 := ⟨_, rfl⟩
  rw [← hz] at hc g0
  rw [← hz]
  have g1 : (z != 0) = true := by simpa using g0
  clear h ht hg hz
  go_enter Tryz.func18, Tryz.ntmps18
  go_wp2_with (go_at_call 24; refine hc.mono ?_; rintro e w1 ⟨rfl, hk1⟩; have HK1 : Hid (Kept No w w1) := hk1; clear hk1 hc)
  go_ret
  exact ⟨rfl, HK1.out⟩
theorem spanE_bad {F : Nat → Prop} {a : Option Addr} {c : Nat} {xs : List Srv} (fr be : Int) (w : World) (hg : Gl w) (h : Sv w F a xs.length c xs) (ht : timF xs xs.length = none) (hb : fr < 0 ∨ be < fr ∨ 1099511627776 < be) :
    Calls Tryz.prog 18 #[.slice a xs.length c, .int .i64 fr, .int .i64 be] w fun e w' => e = .returned (.int .i64 2) ∧ Kept No w w' := by
  have hc := hyper_any F a xs.length c xs w hg h
  rw [(tim_yes ht).1, (tim_yes ht).2] at hc
  clear h ht hg
  by_cases h0 : fr < 0
  · have k0 : decide (fr < 0) = true := decide_eq_true h0
    clear hb
    go_enter Tryz.func18, Tryz.ntmps18
    go_wp2_with (go_at_call 24; refine hc.mono ?_; rintro e w1 ⟨rfl, hk1⟩; have HK1 : Hid (Kept No w w1) := hk1; clear hk1 hc)
    go_ret
    exact ⟨rfl, HK1.out⟩
  · have k0 : decide (fr < 0) = false := decide_eq_false h0
    by_cases h1 : be < fr
    · have k1 : decide (be < fr) = true := decide_eq_true h1
      clear hb
      go_enter Tryz.func18, Tryz.ntmps18
      go_wp2_with (go_at_call 24; refine hc.mono ?_; rintro e w1 ⟨rfl, hk1⟩; have HK1 : Hid (Kept No w w1) := hk1; clear hk1 hc)
      go_ret
      exact ⟨rfl, HK1.out⟩
    · have k1 : decide (be < fr) = false := decide_eq_false h1
      have h2 : (1099511627776 : Int) < be := by omega
      have k2 : decide ((1099511627776 : Int) < be) = true := decide_eq_true h2
      clear hb
      go_enter Tryz.func18, Tryz.ntmps18
      go_wp2_with (go_at_call 24; refine hc.mono ?_; rintro e w1 ⟨rfl, hk1⟩; have HK1 : Hid (Kept No w w1) := hk1; clear hk1 hc)
      go_ret
      exact ⟨rfl, HK1.out⟩
theorem used_err {a : Option Addr} {n c : Nat} (fr be z : Int) (w : World) (hz : z ≠ 0) (hs : Calls Tryz.prog 18 #[.slice a n c, .int .i64 fr, .int .i64 be] w fun e w' => e = .returned (.int .i64 z) ∧ Kept No w w') :
    Calls Tryz.prog 5 #[.slice a n c, .int .i64 fr, .int .i64 be] w fun e w' => e = .returned (.tuple #[.slice none 0 0, .int .i64 z]) ∧ Kept No w w' := by
  have g1 : (z != 0) = true := by simpa using hz
  go_enter Tryz.func5, Tryz.ntmps5
  go_wp2_with (go_at_call 18; refine hs.mono ?_; rintro e w1 ⟨rfl, hk1⟩; have HK1 : Hid (Kept No w w1) := hk1; clear hk1 hs)
  go_ret2
  exact ⟨rfl, HK1.out⟩
theorem shares_err {F : Nat → Prop} {a : Option Addr} {n c : Nat} {xs : List Srv} (w : World) (hg : Gl w) (h : Sv w F a n c xs) {q : Int × Int} (ht : timF xs n = some q) :
    Calls Tryz.prog 7 #[.slice a n c] w fun e w' => e = .returned (.tuple #[.slice none 0 0, .int .i64 q.1]) ∧ Kept No w w' := by
  have hc := hyper_any F a n c xs w hg h
  rw [show hyE xs n = q.1 by unfold hyE; rw [ht]] at hc
  have g0 := tim_neQ ht
  generalize hyV xs n = v at *
  obtain ⟨z, hz⟩ : ∃ z, z = q.1 := ⟨_, rfl⟩
  rw [← hz] at hc g0
  rw [← hz]
  have g1 : (z != 0) = true := by simpa using g0
  clear h ht hg hz
  go_enter Tryz.func7, Tryz.ntmps7
  go_wp2_with (go_at_call 24; refine hc.mono ?_; rintro e w1 ⟨rfl, hk1⟩; have HK1 : Hid (Kept No w w1) := hk1; clear hk1 hc)
  go_ret2
  exact ⟨rfl, HK1.out⟩
end Go.Proofs.YtibmgpinfdcaoaaGreatDoor
