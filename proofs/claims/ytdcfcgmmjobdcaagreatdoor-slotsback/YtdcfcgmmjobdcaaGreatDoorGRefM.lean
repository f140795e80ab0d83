/-
  One text: OSrvs, NLcmR, CRef, CRef2, SRefA, SRefB, SRefC, SRefD.
-/
import Derived.Test.YtdcfcgmmjobdcaaGreatDoorCHyp
import Derived.Test.YtdcfcgmmjobdcaaGreatDoorProg
import Derived.Test.YtdcfcgmmjobdcaaGreatDoorNLcm
import Derived.WalkKit
import Derived.WalkSpells
import Derived.WalkLawsBesides
import Derived.WalkMore
import Derived.Deep.QuietTactic
import Derived.BigQuiet
import Derived.Test.YtdcfcgmmjobdcaaGreatDoorCHyp2
import Derived.Test.YtdcfcgmmjobdcaaGreatDoorGMake
import Derived.Deep.RegionHeld
namespace Go.Proofs.YtdcfcgmmjobdcaaGreatDoor
open Go.RowKit Plain
set_option linter.unusedVariables false
set_option linter.unusedSimpArgs false
set_option maxRecDepth 100000

/-- cells of a block by a function -/
def Mf (w : World) (g N : Nat) (f : Nat → Srv) : Prop :=
  ∀ i, i < N → w.cell? ⟨g, i * 4, none⟩ = some (.int .i64 (f i).p) ∧ w.cell? ⟨g, i * 4 + 1, none⟩ = some (.int .i64 (f i).b) ∧ w.cell? ⟨g, i * 4 + 2, none⟩ = some (.int .i64 (f i).o) ∧ w.cell? ⟨g, i * 4 + 3, none⟩ = some (.int .i64 (f i).q)
def Fz (w : World) (g : Nat) : Prop := ∀ i, w.frozen? ⟨g, i, none⟩ = false
theorem Mf.kept {w w' : World} {g N : Nat} {f : Nat → Srv} {G : Nat → Prop} (h : Mf w g N f) (k : Kept G w w') (hg : ¬ G g) : Mf w' g N f := fun i hi => by
  obtain ⟨h0, h1, h2, h3⟩ := h i hi
  exact ⟨k.cell h0 hg, k.cell h1 hg, k.cell h2 hg, k.cell h3 hg⟩
theorem Mf.sv {w : World} {g N : Nat} {f : Nat → Srv} (h : Mf w g N f) (n c : Nat) (hn : n ≤ N) (hc : n ≤ c) (hm : c ≤ 9223372036854775807) (hok : ∀ i, i < n → (f i).ok) : Sv w (fun b => b = g) (some ⟨g, 0, none⟩) n c ((List.range n).map f) :=
  ⟨by simp, hc, hm, fun e => (by cases e), fun i x hx => by
    have hi : i < n := by
      apply Decidable.byContradiction
      intro hn
      rw [List.getElem?_eq_none (by simp; omega)] at hx
      cases hx
    rw [List.getElem?_map, List.getElem?_range hi] at hx
    simp at hx
    subst hx
    obtain ⟨h0, h1, h2, h3⟩ := h i (by omega)
    exact ⟨hok i hi, g, 0, rfl, rfl, by rw [Nat.zero_add]; exact h0, by rw [Nat.zero_add]; exact h1, by rw [Nat.zero_add]; exact h2, by rw [Nat.zero_add]; exact h3⟩⟩
theorem Sv.eq {w : World} {F : Nat → Prop} {a : Option Addr} {n c : Nat} {xs : List Srv} (h : Sv w F a n c xs) : xs = (List.range n).map (fun i => xs.getD i ⟨0, 0, 0, 0⟩) := by
  apply List.ext_getElem?
  intro i
  by_cases hi : i < n
  · rw [List.getElem?_map, List.getElem?_range hi, List.getElem?_eq_getElem (by rw [h.len]; exact hi)]
    simp [h.len, hi]
  · rw [List.getElem?_eq_none (by rw [h.len]; omega), List.getElem?_eq_none (by simp; omega)]
theorem Sv.ok {w : World} {F : Nat → Prop} {a : Option Addr} {n c : Nat} {xs : List Srv} (h : Sv w F a n c xs) (i : Nat) (hi : i < n) : (xs.getD i ⟨0, 0, 0, 0⟩).ok :=
  (h.at' i _ (by rw [List.getD, List.getElem?_eq_getElem (by rw [h.len]; exact hi)]; rfl)).1

/-- the cells of a list, one behind the other -/
def fl : List Srv → List Value
  | [] => []
  | x :: r => .int .i64 x.p :: .int .i64 x.b :: .int .i64 x.o :: .int .i64 x.q :: fl r
theorem fl_len : ∀ xs : List Srv, (fl xs).length = xs.length * 4
  | [] => rfl
  | x :: r => by simp only [fl, List.length_cons, fl_len r]; omega
theorem fl_app : ∀ xs ys : List Srv, fl (xs ++ ys) = fl xs ++ fl ys
  | [], ys => rfl
  | x :: r, ys => by simp only [fl, List.cons_append, fl_app r ys]
theorem fl_one : ∀ xs : List Srv, ∀ u ∈ fl xs, u.oneCell' = true
  | [], u, h => by cases h
  | x :: r, u, h => by
    simp only [fl, List.mem_cons] at h
    rcases h with rfl | rfl | rfl | rfl | h
    · rfl
    · rfl
    · rfl
    · rfl
    · exact fl_one r u h
theorem fl_get : ∀ (xs : List Srv) (i : Nat) (x : Srv), xs[i]? = some x → (fl xs)[i * 4]? = some (.int .i64 x.p) ∧ (fl xs)[i * 4 + 1]? = some (.int .i64 x.b) ∧ (fl xs)[i * 4 + 2]? = some (.int .i64 x.o) ∧ (fl xs)[i * 4 + 3]? = some (.int .i64 x.q)
  | [], i, x, h => by cases h
  | y :: r, 0, x, h => by simp at h; subst h; exact ⟨rfl, rfl, rfl, rfl⟩
  | y :: r, i + 1, x, h => by
    obtain ⟨h0, h1, h2, h3⟩ := fl_get r i x (by simpa using h)
    rw [show (i + 1) * 4 = i * 4 + 4 by omega]
    exact ⟨h0, h1, h2, h3⟩
theorem Sv.news {w : World} {F : Nat → Prop} {ad : Addr} {n c : Nat} {xs : List Srv} (h : Sv w F (some ad) n c xs) : ∀ j u, (fl xs)[j]? = some u → w.cell? (ad.add j) = some u := by
  intro j u hj
  have hlt : j < xs.length * 4 := by
    rw [← fl_len]
    exact (List.getElem?_eq_some_iff.1 hj).1
  obtain ⟨x, hx⟩ : ∃ x, xs[j / 4]? = some x := ⟨_, List.getElem?_eq_getElem (by omega)⟩
  obtain ⟨g0, g1, g2, g3⟩ := fl_get xs (j / 4) x hx
  obtain ⟨_, b, o, e, _, c0, c1, c2, c3⟩ := h.at' (j / 4) x hx
  simp only [Option.some.injEq] at e
  subst e
  rw [add_none]
  have h4 : j % 4 < 4 := Nat.mod_lt _ (by omega)
  rcases (by omega : j % 4 = 0 ∨ j % 4 = 1 ∨ j % 4 = 2 ∨ j % 4 = 3) with h4 | h4 | h4 | h4
  · rw [show j = j / 4 * 4 by omega] at hj; rw [g0] at hj; rw [show o + j = o + j / 4 * 4 by omega, c0]; exact hj
  · rw [show j = j / 4 * 4 + 1 by omega] at hj; rw [g1] at hj; rw [show o + j = o + j / 4 * 4 + 1 by omega, c1]; exact hj
  · rw [show j = j / 4 * 4 + 2 by omega] at hj; rw [g2] at hj; rw [show o + j = o + j / 4 * 4 + 2 by omega, c2]; exact hj
  · rw [show j = j / 4 * 4 + 3 by omega] at hj; rw [g3] at hj; rw [show o + j = o + j / 4 * 4 + 3 by omega, c3]; exact hj

theorem Tryz.infoS : (Tryz.prog.info? 46).map (fun i => (i.zero, i.size, i.bytes)) = some (some (.agg #[.int .i64 0, .int .i64 0, .int .i64 0, .int .i64 0]), 4, 32) := by kernel_rfl

/-- an owned row of servers, as cells -/
theorem own_mf {w : World} {B : Nat} {v : Value} {N : Nat} {xs : List Srv} (h : w.ownsRow B 46 4 v N (fl xs)) (hl : xs.length = N) :
    (v = .slice none 0 0 ∧ N = 0) ∨ ∃ g cap, v = .slice (some ⟨g, 0, none⟩) N cap ∧ B ≤ g ∧ g < w.heap.size ∧ N ≤ cap ∧ cap ≤ 9223372036854775807 ∧ Mf w g N (fun i => xs.getD i ⟨0, 0, 0, 0⟩) ∧ Fz w g := by
  have hc := h
  obtain ⟨_, h1 | ⟨g, cap, cur, rfl, hb, hg, hn, hm, _, _⟩⟩ := h
  · exact .inl h1
  · refine .inr ⟨g, cap, rfl, hb, (hc.lt g rfl).2, hn, Nat.le_trans hm (by unfold maxLen; omega), ?_, fun i => by simp [World.frozen?, hg]⟩
    intro i hi
    have hx : xs[i]? = some (xs.getD i ⟨0, 0, 0, 0⟩) := by rw [List.getD, List.getElem?_eq_getElem (by omega)]; rfl
    obtain ⟨g0, g1, g2, g3⟩ := fl_get xs i _ hx
    have key := hc.cells (g := g) rfl
    have k0 := key _ _ g0
    have k1 := key _ _ g1
    have k2 := key _ _ g2
    have k3 := key _ _ g3
    rw [add_none, Nat.zero_add] at k0 k1 k2 k3
    exact ⟨k0, k1, k2, k3⟩
theorem own_sv {w : World} {B : Nat} {v : Value} {N : Nat} {xs : List Srv} (h : w.ownsRow B 46 4 v N (fl xs)) (hl : xs.length = N) (hok : ∀ i, i < N → (xs.getD i ⟨0, 0, 0, 0⟩).ok) :
    ∃ a c, v = .slice a N c ∧ Sv w (fun g => v.ownBlock = some g) a N c xs := by
  rcases own_mf h hl with ⟨rfl, h0⟩ | ⟨g, cap, rfl, _, _, hn, hm, hf, _⟩
  · refine ⟨none, 0, by rw [h0], ⟨hl, by omega, by omega, fun _ => rfl, fun i x hx => ?_⟩⟩
    have := (List.getElem?_eq_some_iff.1 hx).1
    omega
  · refine ⟨_, cap, rfl, ?_⟩
    have h1 := hf.sv N cap (Nat.le_refl _) hn hm hok
    have h2 : xs = (List.range N).map (fun i => xs.getD i ⟨0, 0, 0, 0⟩) := by
      apply List.ext_getElem?
      intro i
      by_cases hi : i < N
      · rw [List.getElem?_map, List.getElem?_range hi, List.getElem?_eq_getElem (by omega)]
        simp [hl, hi]
      · rw [List.getElem?_eq_none (by omega), List.getElem?_eq_none (by simp; omega)]
    rw [← h2] at h1
    exact ⟨h1.len, h1.cap, h1.max, h1.nil, fun i x hx => by
      obtain ⟨ok, b, o, e, hb, r⟩ := h1.at' i x hx
      exact ⟨ok, b, o, e, by rw [hb]; rfl, r⟩⟩

theorem made0 (w : World) : (w.alloc (.cells #[] 46)).ownsRow w.heap.size 46 4 (.slice (some ⟨w.heap.size, 0, none⟩) 0 0) 0 [] := World.ownsRow_made w #[] 0 (Nat.le_refl _) (by unfold maxLen; omega) rfl
theorem cell_four (w : World) (x : Srv) (t : TypeId) : ∀ j u, (fl [x])[j]? = some u → (w.alloc (.cells #[.int .i64 x.p, .int .i64 x.b, .int .i64 x.o, .int .i64 x.q] t)).cell? (Addr.add ⟨w.heap.size, 0, none⟩ j) = some u := by
  intro j u hj
  match j, hj with
  | 0, hj => simp [fl] at hj; subst hj; simp [Addr.add]
  | 1, hj => simp [fl] at hj; subst hj; simp [Addr.add]
  | 2, hj => simp [fl] at hj; subst hj; simp [Addr.add]
  | 3, hj => simp [fl] at hj; subst hj; simp [Addr.add]
  | j + 4, hj => simp [fl] at hj
end Go.Proofs.YtdcfcgmmjobdcaaGreatDoor

namespace Go.Proofs.YtdcfcgmmjobdcaaGreatDoor
open Go.RowKit Plain
set_option linter.unusedVariables false
set_option maxRecDepth 100000

theorem ret1u {a b : Int} (h : a = b) : Ending.returned (.int .u64 a) = .returned (.int .u64 b) := by rw [h]
theorem ret2' {a b : Int} {x y : Bool} (h : a = b) (h2 : x = y) : Ending.returned (.tuple #[.int .i64 a, .bool x]) = .returned (.tuple #[.int .i64 b, .bool y]) := by rw [h, h2]

theorem away_any (a : Int) (w : World) (ha : I64 a) :
    Calls Tryz.prog 170 #[.int .i64 a] w fun e w' => e = .returned (.int .u64 (a.natAbs : Int)) ∧ w' = w := by
  unfold I64 at ha
  obtain ⟨h1, h2⟩ := ha
  by_cases h : a < 0
  · go_enter Tryz.func170, Tryz.ntmps170
    go_wp2
    go_ret
    exact ⟨ret1u (by omega), rfl⟩
  · go_enter Tryz.func170, Tryz.ntmps170
    go_wp2
    go_ret
    exact ⟨ret1u (by omega), rfl⟩

theorem signed_any (s : Bool) (d : Int) (w : World) (h0 : 0 ≤ d) (h1 : d ≤ 18446744073709551615) :
    Calls Tryz.prog 171 #[.bool s, .int .u64 d] w fun e w' => e = .returned (.tuple #[.int .i64 (sgnV s d), .bool (sgnB s d)]) ∧ w' = w := by
  cases s
  · by_cases h : 9223372036854775807 < d
    · rw [show sgnV false d = 0 from if_pos h, show sgnB false d = false from if_pos h]
      go_enter Tryz.func171, Tryz.ntmps171
      go_wp2
      go_ret2
      exact ⟨rfl, rfl⟩
    · rw [show sgnV false d = d from if_neg h, show sgnB false d = true from if_neg h]
      go_enter Tryz.func171, Tryz.ntmps171
      go_wp2
      go_ret2
      exact ⟨rfl, rfl⟩
  · by_cases h : 9223372036854775808 < d
    · rw [show sgnV true d = 0 from if_pos h, show sgnB true d = false from if_pos h]
      go_enter Tryz.func171, Tryz.ntmps171
      go_wp2
      go_ret2
      exact ⟨rfl, rfl⟩
    · rw [show sgnV true d = -d from if_neg h, show sgnB true d = true from if_neg h]
      by_cases h2 : d = 9223372036854775808
      · have h3 : 9223372036854775808 ≤ d := by omega
        have H2 : Hid (d = 9223372036854775808) := h2
        clear h2
        go_enter Tryz.func171, Tryz.ntmps171
        go_wp2
        all_goals (go_ret2; exact ⟨ret2' (by omega) rfl, rfl⟩)
      · have h3 : d < 9223372036854775808 := by omega
        go_enter Tryz.func171, Tryz.ntmps171
        go_wp2
        go_ret2
        exact ⟨rfl, rfl⟩


set_option maxHeartbeats 1000000 in
theorem rmul_any (a b : Int) (w : World) (ha : I64 a) (hb : I64 b) :
    Calls Tryz.prog 161 #[.int .i64 a, .int .i64 b] w fun e w' => e = .returned (.tuple #[.int .i64 (mulV a b), .bool (mulB a b)]) ∧ w' = w := by
  have n1 : (a.natAbs : Int) ≤ 9223372036854775808 := by unfold I64 at ha; omega
  have n2 : (b.natAbs : Int) ≤ 9223372036854775808 := by unfold I64 at hb; omega
  have p0 : 0 ≤ (a.natAbs : Int) * (b.natAbs : Int) := Int.mul_nonneg (by omega) (by omega)
  by_cases hp : 9223372036854775808 < (a.natAbs : Int) * (b.natAbs : Int)
  · obtain ⟨e1, e2⟩ := mul_ref_no a b hp
    rw [e1, e2]
    have hx : 0 < (a.natAbs : Int) := by
      by_cases h0 : (a.natAbs : Int) = 0
      · rw [h0, Int.zero_mul] at hp; omega
      · omega
    have hd := (fit_div _ _ hx).2 hp
    clear e1 e2
    go_enter Tryz.func161, Tryz.ntmps161
    go_wp2_with (go_at_call 170; refine (away_any _ _ ?_).mono ?_; all_goals first | assumption | rintro e w' ⟨rfl, rfl⟩)
    go_ret2
    exact ⟨rfl, rfl⟩
  · have HM := mul_ref a b hp
    have p1 : (a.natAbs : Int) * (b.natAbs : Int) ≤ 9223372036854775808 := by omega
    have key : ∀ s : Bool, Hid (s = ((decide (a < 0) != decide (b < 0)) && ((a.natAbs : Int) * (b.natAbs : Int) != 0)) → sgnV s ((a.natAbs : Int) * (b.natAbs : Int)) = mulV a b ∧ sgnB s ((a.natAbs : Int) * (b.natAbs : Int)) = mulB a b) := HM
    clear HM
    have hd : 0 < (a.natAbs : Int) → ¬ 9223372036854775808 / (a.natAbs : Int) < (b.natAbs : Int) := fun h => fun h2 => hp ((fit_div _ _ h).1 h2)
    clear hp
    have hz : ((a.natAbs : Int) * (b.natAbs : Int) != 0) = true ∨ ((a.natAbs : Int) * (b.natAbs : Int) != 0) = false := by cases ((a.natAbs : Int) * (b.natAbs : Int) != 0) <;> simp
    have hs : decide (a < 0) = true ∨ decide (a < 0) = false := by cases decide (a < 0) <;> simp
    have ht : decide (b < 0) = true ∨ decide (b < 0) = false := by cases decide (b < 0) <;> simp
    by_cases hx : 0 < (a.natAbs : Int)
    · have hd2 := hd hx
      clear hd
      rcases hz with hz | hz <;> rcases hs with hs | hs <;> rcases ht with ht | ht
      all_goals
        go_enter Tryz.func161, Tryz.ntmps161
        go_wp2_with (first | (go_at_call 170; refine (away_any _ _ ?_).mono ?_; all_goals first | assumption | rintro e w' ⟨rfl, rfl⟩) | (go_at_call 171; refine (signed_any _ _ _ ?_ ?_).mono ?_; all_goals first | omega | rintro e w' ⟨rfl, rfl⟩))
        go_ret2
        exact ⟨ret2' ((key _).out (by simp [hz, hs, ht])).1 ((key _).out (by simp [hz, hs, ht])).2, rfl⟩
    · have hx2 : a = 0 := by omega
      subst hx2
      have e1 : mulV 0 b = 0 := by rw [mulV_yes (by rw [Int.zero_mul]; unfold I64; omega), Int.zero_mul]
      have e2 : mulB 0 b = true := mulB_yes (by rw [Int.zero_mul]; unfold I64; omega)
      rw [e1, e2]
      have e3 : sgnV false 0 = 0 := rfl
      have e4 : sgnB false 0 = true := rfl
      clear hd hx p0 p1 hz hs key n1 e1 e2
      rcases ht with ht | ht
      all_goals
        go_enter Tryz.func161, Tryz.ntmps161
        go_wp2_with (first | (go_at_call 170; refine (away_any _ _ ?_).mono ?_; all_goals first | assumption | rintro e w' ⟨rfl, rfl⟩) | (go_at_call 171; refine (signed_any _ _ _ ?_ ?_).mono ?_; all_goals first | omega | rintro e w' ⟨rfl, rfl⟩))
        go_ret2
        exact ⟨ret2' (by first | rfl | simp [sgnV]) (by first | rfl | simp [sgnB]), rfl⟩


theorem sgn_gcd (a b : Int) (ha : I64 a) (hb : I64 b) : sgnV false (Int.gcd a b : Int) = gcdF a b := by
  unfold gcdF
  by_cases h : (Int.gcd a b : Int) ≤ 9223372036854775807
  · rw [if_pos h]; exact (sgn_up h).1
  · have h2 : 9223372036854775807 < (Int.gcd a b : Int) := by omega
    rw [if_neg h]; exact if_pos h2

theorem u64_mod (X Y : Nat) : Value.int .u64 ((X : Int) % (Y : Int)) = .int .u64 ((X % Y : Nat) : Int) := by rw [Int.natCast_emod]

set_option maxHeartbeats 400000 in
theorem rgcd_any (a b : Int) (w : World) (ha : I64 a) (hb : I64 b) :
    Calls Tryz.prog 162 #[.int .i64 a, .int .i64 b] w fun e w' => e = .returned (.int .i64 (gcdF a b)) ∧ w' = w := by
  have n1 : (a.natAbs : Int) ≤ 9223372036854775808 := by unfold I64 at ha; omega
  have n2 : (b.natAbs : Int) ≤ 9223372036854775808 := by unfold I64 at hb; omega
  have HS : Hid (sgnV false (Int.gcd a b : Int) = gcdF a b) := sgn_gcd a b ha hb
  go_enter Tryz.func162, Tryz.ntmps162
  go_wp2_with (go_at_call 170; refine (away_any _ _ ?_).mono ?_; all_goals first | assumption | (rintro e w' ⟨rfl, hw⟩; obtain rfl := hw.symm))
  go_loop [5, 6] (fun x y => ∃ X Y : Nat, (X : Int) ≤ 9223372036854775808 ∧ (Y : Int) ≤ 9223372036854775808 ∧ x = .int .u64 X ∧ y = .int .u64 Y ∧ Nat.gcd X Y = Int.gcd a b) (fun _ y => (intOf y).toNat)
  case atStart => exact ⟨a.natAbs, b.natAbs, n1, n2, rfl, rfl, rfl⟩
  case round =>
    obtain ⟨X, Y, hX, hY, rfl, rfl, hg⟩ := hrel
    have HG : Hid (Nat.gcd X Y = Int.gcd a b) := hg
    clear hg
    by_cases h0 : Y = 0
    · subst h0
      have H2 : Hid (sgnV false (X : Int) = gcdF a b) := by
        have := HG.out
        rw [Nat.gcd_zero_right] at this
        have e := HS.out
        rw [← this] at e
        exact e
      clear HS HG
      go_wp2_with (go_at_call 171; refine (signed_any _ _ _ ?_ ?_).mono ?_; all_goals first | omega | (rintro e w' ⟨rfl, hw⟩; obtain rfl := hw.symm))
      go_ret
      exact ⟨ret1 H2.out, rfl⟩
    · have h1 : 0 < (Y : Int) := by omega
      have h2 : X % Y < Y := Nat.mod_lt _ (by omega)
      have H3 : Hid (Nat.gcd Y (X % Y) = Int.gcd a b) := by
        have e : Nat.gcd Y (X % Y) = Nat.gcd X Y := by rw [Nat.gcd_comm, ← Nat.gcd_rec, Nat.gcd_comm]
        exact e.trans HG.out
      have h4 : ((X : Int) % (Y : Int)) = ((X % Y : Nat) : Int) := (Int.natCast_emod X Y).symm
      have H4 : Hid (((X : Int) % (Y : Int)) = ((X % Y : Nat) : Int)) := h4
      clear HG h4
      go_wp2
      go_round
      case rel => exact ⟨Y, X % Y, hY, by omega, rfl, by rw [H4.out], H3.out⟩
      case measure => simp [intOf]; omega



theorem lcm_small (z : Nat → Int) (len : Nat) (most : Int) (i : Nat) (hi : i < len) (h : z i < 1) : lcmV z len most = 0 ∧ lcmB z len most = false := by
  obtain ⟨V1, V2, _⟩ := lcmV_facts z len most
  have hv : lcmV z len most = 0 := by
    by_cases hp : 0 < lcmV z len most
    · have := ((V2 hp).2 i hi).1; omega
    · omega
  unfold lcmB; rw [hv]; exact ⟨rfl, rfl⟩

set_option maxHeartbeats 1000000 in
theorem rlcm_any (a0 : Option Addr) (len cap : Nat) (z : Nat → Int) (most : Int) (w : World) (hl : len ≤ 9223372036854775807) (hm : I64 most) (hr : Row w a0 len z) :
    Calls Tryz.prog 136 #[.slice a0 len cap, .int .i64 most] w fun e w' => e = .returned (.tuple #[.int .i64 (lcmV z len most), .bool (lcmB z len most)]) ∧ ∃ n, w' = w.drewN n := by
  have HR : Hid (Row w a0 len z) := hr
  clear hr
  have hm2 := hm.2
  go_enter Tryz.func136, Tryz.ntmps136
  go_wp2
  go_loop [7] (fun i => ∃ k : Nat, i = .int .i64 k ∧ k ≤ len ∧ ∀ i, i < k → 1 ≤ z i) (fun i => len - (intOf i).toNat)
  case atStart => exact ⟨0, rfl, by omega, fun i hi => absurd hi (by omega)⟩
  case round =>
    obtain ⟨k, rfl, hk, hz⟩ := hrel
    have HZ : Hid (∀ i, i < k → 1 ≤ z i) := hz
    clear hz
    by_cases hlt : k < len
    · obtain ⟨bk, off, rfl, hck, hzk⟩ := HR.out k hlt
      by_cases h1 : z k < 1
      · have HE : Hid (lcmV z len most = 0 ∧ lcmB z len most = false) := lcm_small z len most k hlt h1
        go_wp2
        go_ret2
        exact ⟨ret2 HE.out.1.symm HE.out.2.symm, 0, rfl⟩
      · go_wp2
        go_round
        case rel => exact ⟨k + 1, by go_num, by omega, fun i hi => (by
          by_cases e : i = k
          · subst e; omega
          · exact HZ.out i (by omega))⟩
        case measure => simp [intOf]; omega
    · have HZ2 : Hid (∀ i, i < len → 1 ≤ z i) := fun i hi => HZ.out i (by omega)
      clear HZ hk
      by_cases hmost : most < 1
      · have HE : Hid (lcmV z len most = 0 ∧ lcmB z len most = false) := lcm_less z len most hmost
        go_wp2
        go_loopw [6, 8] (fun x i wx => x = .int .i64 1 ∧ i = .int .i64 0 ∧ wx = w) (fun _ i _ => 0)
        case atStart => exact ⟨rfl, rfl, rfl⟩
        case round =>
          obtain ⟨rfl, rfl, hw⟩ := hrel
          obtain rfl := hw.symm
          by_cases h0 : len = 0
          · subst h0
            go_wp2
            go_ret2
            exact ⟨ret2 HE.out.1.symm HE.out.2.symm, 0, rfl⟩
          · have h0' : 0 < len := by omega
            obtain ⟨bk, off, rfl, hck0, hzk⟩ := HR.out 0 h0'
            have hck : w.cell? ⟨bk, off, none⟩ = some (.int .i64 (z 0)) := by simpa using hck0
            clear hck0
            have h1 := HZ2.out 0 h0'
            have hzk2 := hzk.2
            obtain ⟨g1, g2, g3, g4⟩ := lcmGo_ref z 0 1 (by omega) (by omega) h1 hzk.2
            have hI1 : I64 1 := by unfold I64; omega
            have hI2 : I64 (z 0 / gcdF 1 (z 0)) := by unfold I64; omega
            have m1 : mulV 1 (z 0 / gcdF 1 (z 0)) = z 0 / gcdF 1 (z 0) := by rw [mulV_yes (by rw [Int.one_mul]; exact hI2), Int.one_mul]
            have m2 : mulB 1 (z 0 / gcdF 1 (z 0)) = true := mulB_yes (by rw [Int.one_mul]; exact hI2)
            clear g1
            go_wp2
            go_quiet ((first | (go_at_call 162; refine Calls.quiet_of_same (rgcd_any _ _ _ ?_ ?_) <;> assumption) | (go_at_call 161; refine Calls.quiet_of_same (rmul_any _ _ _ ?_ ?_) <;> assumption)))
            go_wp2
            go_ret2
            exact ⟨ret2 HE.out.1.symm HE.out.2.symm, _, rfl⟩
      · have HV : Hid (lcmV z len most = lcmGo most z len 0 1) := if_neg hmost
        go_wp2
        go_loopw [6, 8] (fun x y wx => ∃ (m : Int) (k n : Nat), 1 ≤ m ∧ m ≤ most ∧ k ≤ len ∧ x = .int .i64 m ∧ y = .int .i64 k ∧ lcmGo most z (len - k) k m = lcmV z len most ∧ wx = w.drewN n) (fun _ y _ => len - (intOf y).toNat)
        case atStart => exact ⟨1, 0, 0, by omega, by omega, by omega, rfl, rfl, HV.out.symm, rfl⟩
        case round =>
          obtain ⟨m, k2, n, hm1, hm3, hk2, rfl, rfl, hg, hw⟩ := hrel
          have HW : Hid (_ = w.drewN n) := hw
          clear hw
          by_cases hlt2 : k2 < len
          · obtain ⟨bk, off, rfl, hck0, hzk⟩ := HR.out k2 hlt2
            have hck := hck0
            rw [show w.cell? ⟨bk, off + k2, none⟩ = (w.drewN n).cell? ⟨bk, off + k2, none⟩ from rfl, ← HW.out] at hck
            clear hck0
            have h1 := HZ2.out k2 hlt2
            have hzk2 := hzk.2
            obtain ⟨g1, g2, g3, g4⟩ := lcmGo_ref z k2 m (by omega) (by omega) h1 hzk.2
            have hI1 : I64 m := by unfold I64; omega
            have hI2 : I64 (z k2 / gcdF m (z k2)) := by unfold I64; omega
            have hg' : lcmGo most z ((len - (k2 + 1)) + 1) k2 m = lcmV z len most := by rw [show (len - (k2 + 1)) + 1 = len - k2 by omega]; exact hg
            have hf := lcm_fit most m (z k2 / gcdF m (z k2)) hm1
            have hno : most < m * (z k2 / gcdF m (z k2)) → lcmV z len most = 0 ∧ lcmB z len most = false := fun hn => by
              have hv : lcmV z len most = 0 := hg'.symm.trans (lcmGo_no (by rw [← g1]; exact .inr (hf.2 hn)))
              unfold lcmB; rw [hv]; exact ⟨rfl, rfl⟩
            have hyes : ¬ most < m * (z k2 / gcdF m (z k2)) → lcmGo most z (len - (k2 + 1)) (k2 + 1) (m * (z k2 / gcdF m (z k2))) = lcmV z len most := by
              intro hn
              have h3 : ¬ (z k2 < 1 ∨ most / m < z k2 / (Int.gcd m (z k2) : Int)) := by rw [← g1]; omega
              have h4 := lcmGo_yes (n := len - (k2 + 1)) h3
              rw [← g1] at h4
              exact h4.symm.trans hg'
            have hs := (lcm_step m (z k2) hm1 h1).2.2.1
            rw [← g1] at hs
            have HNO : Hid (most < m * (z k2 / gcdF m (z k2)) → lcmV z len most = 0 ∧ lcmB z len most = false) := hno
            have HYES : Hid (¬ most < m * (z k2 / gcdF m (z k2)) → lcmGo most z (len - (k2 + 1)) (k2 + 1) (m * (z k2 / gcdF m (z k2))) = lcmV z len most) := hyes
            clear hno hyes hf hg hg' g1
            by_cases hI : I64 (m * (z k2 / gcdF m (z k2)))
            · have m1 := mulV_yes hI
              have m2 := mulB_yes hI
              by_cases hb : most < m * (z k2 / gcdF m (z k2))
              · have HE := HNO.out hb
                have HE : Hid (lcmV z len most = 0 ∧ lcmB z len most = false) := HE
                clear HNO HYES hI
                go_wp2
                go_quiet ((first | (go_at_call 162; refine Calls.quiet_of_same (rgcd_any _ _ _ ?_ ?_) <;> assumption) | (go_at_call 161; refine Calls.quiet_of_same (rmul_any _ _ _ ?_ ?_) <;> assumption)))
                go_wp2
                go_ret2
                exact ⟨ret2 HE.out.1.symm HE.out.2.symm, _, by rw [HW.out, World.drewN_drewN]⟩
              · have HG : Hid (lcmGo most z (len - (k2 + 1)) (k2 + 1) (m * (z k2 / gcdF m (z k2))) = lcmV z len most) := HYES.out hb
                clear HNO HYES hI
                go_wp2
                go_quiet ((first | (go_at_call 162; refine Calls.quiet_of_same (rgcd_any _ _ _ ?_ ?_) <;> assumption) | (go_at_call 161; refine Calls.quiet_of_same (rmul_any _ _ _ ?_ ?_) <;> assumption)))
                go_wp2
                go_roundw
                case rel => exact ⟨m * (z k2 / gcdF m (z k2)), k2 + 1, _, hs, by omega, by omega, rfl, by go_num, HG.out, by rw [HW.out, World.drewN_drewN]⟩
                case measure => simp [intOf]; omega
            · have m2 := mulB_no hI
              have HE : Hid (lcmV z len most = 0 ∧ lcmB z len most = false) := HNO.out (by unfold I64 at hI; omega)
              clear HNO HYES hI
              go_wp2
              go_quiet ((first | (go_at_call 162; refine Calls.quiet_of_same (rgcd_any _ _ _ ?_ ?_) <;> assumption) | (go_at_call 161; refine Calls.quiet_of_same (rmul_any _ _ _ ?_ ?_) <;> assumption)))
              go_wp2
              go_ret2
              exact ⟨ret2 HE.out.1.symm HE.out.2.symm, _, by rw [HW.out, World.drewN_drewN]⟩
          · have hk' : k2 = len := by omega
            have hv : m = lcmV z len most := by rw [← hg, hk', Nat.sub_self]; rfl
            have HE : Hid (m = lcmV z len most ∧ true = lcmB z len most) := ⟨hv, by unfold lcmB; rw [← hv]; simp; omega⟩
            clear hv hg HV
            go_wp2
            go_ret2
            exact ⟨ret2 HE.out.1 HE.out.2, _, HW.out⟩

end Go.Proofs.YtdcfcgmmjobdcaaGreatDoor

namespace Go.Proofs.YtdcfcgmmjobdcaaGreatDoor
open Go.RowKit Plain
set_option linter.unusedVariables false
set_option maxRecDepth 100000
set_option linter.unusedSimpArgs false

theorem rwithin_any (n lo hi : Int) (w : World) :
    Calls Tryz.prog 160 #[.int .i64 n, .int .i64 lo, .int .i64 hi] w fun e w' => e = .returned (.bool (inB n lo hi)) ∧ w' = w := by
  by_cases h : lo ≤ n
  · by_cases h2 : n ≤ hi
    · rw [show inB n lo hi = true by simp [inB, h, h2]]
      go_enter Tryz.func160, Tryz.ntmps160
      go_wp2
      go_ret
      exact ⟨rfl, rfl⟩
    · rw [show inB n lo hi = false by simp [inB, h2]]
      go_enter Tryz.func160, Tryz.ntmps160
      go_wp2
      go_ret
      exact ⟨rfl, rfl⟩
  · rw [show inB n lo hi = false by simp [inB, h]]
    go_enter Tryz.func160, Tryz.ntmps160
    go_wp2
    go_ret
    exact ⟨rfl, rfl⟩

theorem idxF_take (xs : List Srv) (q : Int) (i : Nat) : ∀ k, k ≤ i → idxF (xs.take i) q k = idxF xs q k
  | 0, _ => rfl
  | k + 1, h => by
    have e : (xs.take i).getD k ⟨0, 0, 0, 0⟩ = xs.getD k ⟨0, 0, 0, 0⟩ := by
      simp only [List.getD_eq_getElem?_getD, List.getElem?_take]
      rw [if_pos (by omega)]
    rw [idxF, idxF, idxF_take xs q i k (by omega), e]

/-- the document's rule of one server -/
def okF (xs : List Srv) (i : Nat) : Bool :=
  decide (idxF xs (xs.getD i ⟨0, 0, 0, 0⟩).q i = -1) && (inB (xs.getD i ⟨0, 0, 0, 0⟩).p 1 1048576 && (inB (xs.getD i ⟨0, 0, 0, 0⟩).b 1 (xs.getD i ⟨0, 0, 0, 0⟩).p && (inB (xs.getD i ⟨0, 0, 0, 0⟩).o 0 (wrap64 ((xs.getD i ⟨0, 0, 0, 0⟩).p - 1)) && inB (xs.getD i ⟨0, 0, 0, 0⟩).q 0 255)))
theorem rows_ok (xs : List Srv) (i : Nat) : rowsF (fun j => if bS xs i j then 0 else 101) 5 = if okF xs i then 0 else 101 := by
  have e4 : bS xs i 4 = decide (idxF xs (xs.getD i ⟨0, 0, 0, 0⟩).q i = -1) := by
    show (!decide (0 ≤ idxF (xs.take i) (xs.getD i ⟨0, 0, 0, 0⟩).q i)) = _
    rw [idxF_take xs _ i i (Nat.le_refl _)]
    have := idx_ge xs (xs.getD i ⟨0, 0, 0, 0⟩).q i
    generalize idxF xs (xs.getD i ⟨0, 0, 0, 0⟩).q i = z at *
    by_cases h : z = -1
    · subst h; rfl
    · rw [decide_eq_false h, decide_eq_true (show 0 ≤ z by omega)]; rfl
  have e0 : bS xs i 0 = inB (xs.getD i ⟨0, 0, 0, 0⟩).p 1 1048576 := rfl
  have e1 : bS xs i 1 = inB (xs.getD i ⟨0, 0, 0, 0⟩).b 1 (xs.getD i ⟨0, 0, 0, 0⟩).p := rfl
  have e2 : bS xs i 2 = inB (xs.getD i ⟨0, 0, 0, 0⟩).o 0 (wrap64 ((xs.getD i ⟨0, 0, 0, 0⟩).p - 1)) := rfl
  have e3 : bS xs i 3 = inB (xs.getD i ⟨0, 0, 0, 0⟩).q 0 255 := rfl
  unfold okF
  rw [← e0, ← e1, ← e2, ← e3, ← e4]
  simp only [rowsF]
  cases bS xs i 0 <;> cases bS xs i 1 <;> cases bS xs i 2 <;> cases bS xs i 3 <;> cases bS xs i 4 <;> rfl

set_option maxHeartbeats 1000000 in
theorem rserver_any (F : Nat → Prop) (a : Option Addr) (n c : Nat) (xs : List Srv) (i : Nat) (w : World) (h : Sv w F a n c xs) (hi : i < n) :
    Calls Tryz.prog 135 #[.slice a n c, .int .i64 i] w fun e w' => e = .returned (.bool (okF xs i)) ∧ Kept No w w' := by
  have hn : n ≤ 9223372036854775807 := Nat.le_trans h.cap h.max
  have H : Hid (Sv w F a n c xs) := h
  have hx : xs[i]? = some (xs.getD i ⟨0, 0, 0, 0⟩) := by rw [List.getD, List.getElem?_eq_getElem (by rw [h.len]; exact hi)]; rfl
  obtain ⟨hok, b, o, rfl, hb, c0, c1, c2, c3⟩ := h.at' i _ hx
  have HO : Hid (okF xs i = (decide (idxF xs (xs.getD i ⟨0, 0, 0, 0⟩).q i = -1) && (inB (xs.getD i ⟨0, 0, 0, 0⟩).p 1 1048576 && (inB (xs.getD i ⟨0, 0, 0, 0⟩).b 1 (xs.getD i ⟨0, 0, 0, 0⟩).p && (inB (xs.getD i ⟨0, 0, 0, 0⟩).o 0 (wrap64 ((xs.getD i ⟨0, 0, 0, 0⟩).p - 1)) && inB (xs.getD i ⟨0, 0, 0, 0⟩).q 0 255))))) := rfl
  clear h hx hok hb
  generalize xs.getD i ⟨0, 0, 0, 0⟩ = y at *
  obtain ⟨yp, yb, yo, yq⟩ := y
  simp only at c0 c1 c2 c3 HO
  generalize okF xs i = R at *
  have HK1 : Hid (Kept No w (w.alloc (.cells #[.int .i64 yp, .int .i64 yb, .int .i64 yo, .int .i64 yq] 46))) := (Kept.refl No w).alloc _
  obtain ⟨b0, q0⟩ : ∃ z, inB yp 1 1048576 = z := ⟨_, rfl⟩
  obtain ⟨b1, q1⟩ : ∃ z, inB yb 1 yp = z := ⟨_, rfl⟩
  obtain ⟨b2, q2⟩ : ∃ z, inB yo 0 (wrap64 (yp - 1)) = z := ⟨_, rfl⟩
  obtain ⟨b3, q3⟩ : ∃ z, inB yq 0 255 = z := ⟨_, rfl⟩
  rw [q0, q1, q2, q3] at HO
  have Q0 : Hid (inB yp 1 1048576 = b0) := q0
  have Q1 : Hid (inB yb 1 yp = b1) := q1
  have Q2 : Hid (inB yo 0 (wrap64 (yp - 1)) = b2) := q2
  have Q3 : Hid (inB yq 0 255 = b3) := q3
  clear q0 q1 q2 q3
  go_enter Tryz.func135, Tryz.ntmps135
  go_upto_region 2 with fail
  generalize hW1 : w.alloc (.cells #[.int .i64 yp, .int .i64 yb, .int .i64 yo, .int .i64 yq] 46) = w1 at *
  have HCY : Hid (w1.cell? ⟨w.heap.size, 0, none⟩ = some (.int .i64 yp) ∧ w1.cell? ⟨w.heap.size, 1, none⟩ = some (.int .i64 yb) ∧ w1.cell? ⟨w.heap.size, 2, none⟩ = some (.int .i64 yo) ∧ w1.cell? ⟨w.heap.size, 3, none⟩ = some (.int .i64 yq)) := by subst hW1; exact ⟨by simp, by simp, by simp, by simp⟩
  clear hW1 c0 c1 c2 c3
  go_wp2
  go_loopw [6] (fun x wr => ∃ k : Nat, k ≤ i ∧ x = .int .i64 k ∧ (∃ m, wr = w1.drewN m) ∧ idxF xs yq k = -1) (fun x _ => i - (intOf x).toNat)
  case atStart => exact ⟨0, by omega, rfl, ⟨0, rfl⟩, rfl⟩
  case round =>
    obtain ⟨k, hk, rfl, ⟨m, rfl⟩, hno⟩ := hrel
    have HNO : Hid (idxF xs yq k = -1) := hno
    clear hno
    by_cases hlt : k < i
    · have hx : xs[k]? = some (xs.getD k ⟨0, 0, 0, 0⟩) := by rw [List.getD, List.getElem?_eq_getElem (by rw [H.out.len]; omega)]; rfl
      obtain ⟨hok, b', o', he, hb, d0, d1, d2, d3⟩ := (H.out.keep HK1.out).at' k _ hx
      simp only [Option.some.injEq, Addr.mk.injEq, and_true] at he
      obtain ⟨rfl, rfl⟩ := he
      have z3 := HCY.out.2.2.2
      clear d0 d1 d2 hx hok hb
      by_cases hq : (xs.getD k ⟨0, 0, 0, 0⟩).q = yq
      · have HF : Hid (idxF xs yq i = k) := idxF_hit HNO.out hq i hlt
        have HR : Hid (R = false) := by
          have := HO.out
          rw [HF.out, decide_eq_false (show ¬ (k : Int) = -1 by omega), Bool.false_and] at this
          exact this
        rw [hq] at d3
        go_wp2
        go_quiet (fail)
        go_wp2
        go_ret
        exact ⟨by rw [HR.out]; rfl, (HK1.out.drewN _).drewN _⟩
      · have HF : Hid (idxF xs yq (k + 1) = -1) := idxF_miss HNO.out hq
        have hq2 : ¬ (xs.getD k ⟨0, 0, 0, 0⟩).q = yq := hq
        generalize (xs.getD k ⟨0, 0, 0, 0⟩).q = q' at *
        go_wp2
        go_quiet (fail)
        go_wp2
        go_roundw
        case rel => exact ⟨k + 1, by omega, by go_num, ⟨_, rfl⟩, HF.out⟩
        case measure => simp [intOf]; omega
    · have hke : k = i := by omega
      subst hke
      have HR : Hid (R = (b0 && (b1 && (b2 && b3)))) := by
        have := HO.out
        rw [HNO.out] at this
        have t2 : R = (b0 && (b1 && (b2 && b3))) := by simpa using this
        exact t2
      obtain ⟨z0, z1, z2, z3⟩ := HCY.out
      clear HO HNO HCY
      have q0 := Q0.out
      have q1 := Q1.out
      have q2 := Q2.out
      have q3 := Q3.out
      cases b0
      · go_wp2_with (go_at_call 160; refine (rwithin_any _ _ _ _).mono ?_; rintro e w' ⟨rfl, rfl⟩; (try simp only [q0, q1, q2, q3]))
        go_ret
        exact ⟨by rw [HR.out]; rfl, HK1.out.drewN _⟩
      cases b1
      · go_wp2_with (go_at_call 160; refine (rwithin_any _ _ _ _).mono ?_; rintro e w' ⟨rfl, rfl⟩; (try simp only [q0, q1, q2, q3]))
        go_ret
        exact ⟨by rw [HR.out]; rfl, HK1.out.drewN _⟩
      cases b2
      · go_wp2_with (go_at_call 160; refine (rwithin_any _ _ _ _).mono ?_; rintro e w' ⟨rfl, rfl⟩; (try simp only [q0, q1, q2, q3]))
        go_ret
        exact ⟨by rw [HR.out]; rfl, HK1.out.drewN _⟩
      cases b3
      · go_wp2_with (go_at_call 160; refine (rwithin_any _ _ _ _).mono ?_; rintro e w' ⟨rfl, rfl⟩; (try simp only [q0, q1, q2, q3]))
        go_ret
        exact ⟨by rw [HR.out]; rfl, HK1.out.drewN _⟩
      · go_wp2_with (go_at_call 160; refine (rwithin_any _ _ _ _).mono ?_; rintro e w' ⟨rfl, rfl⟩; (try simp only [q0, q1, q2, q3]))
        go_ret
        exact ⟨by rw [HR.out]; rfl, HK1.out.drewN _⟩

theorem servF_ok (xs : List Srv) (n : Nat) : servF xs n = eachF (fun i => if okF xs i then 0 else 101) 1 n := by
  unfold servF
  congr 1
  funext i
  exact rows_ok xs i

set_option maxHeartbeats 2000000 in
theorem rservers_any (F : Nat → Prop) (a : Option Addr) (n c : Nat) (xs : List Srv) (w : World) (h : Sv w F a n c xs) :
    Calls Tryz.prog 94 #[.slice a n c] w fun e w' => e = .returned (.tuple #[.int .i64 (fe (findF xs n)), .int .i64 (fn (findF xs n))]) ∧ Kept No w w' := by
  have hn : n ≤ 9223372036854775807 := Nat.le_trans h.cap h.max
  have H : Hid (Sv w F a n c xs) := h
  clear h
  by_cases h32 : n ≤ 32
  · have HF : Hid (findF xs n = eachF (fun i => if okF xs i then 0 else 101) 1 n) := by show findF xs n = _; unfold findF; rw [if_pos h32, servF_ok]
    rw [HF.out]
    obtain ⟨fe0, hfe⟩ : ∃ z, z = fe (eachF (fun i => if okF xs i then 0 else 101) 1 n) := ⟨_, rfl⟩
    obtain ⟨fn0, hfn⟩ : ∃ z, z = fn (eachF (fun i => if okF xs i then 0 else 101) 1 n) := ⟨_, rfl⟩
    rw [← hfe, ← hfn]
    have HFE : Hid (fe0 = fe (eachF (fun i => if okF xs i then 0 else 101) 1 n)) := hfe
    have HFN : Hid (fn0 = fn (eachF (fun i => if okF xs i then 0 else 101) 1 n)) := hfn
    clear hfe hfn HF
    go_enter Tryz.func94, Tryz.ntmps94
    go_wp2
    go_loopw [4] (fun x wr => ∃ k : Nat, k ≤ n ∧ x = .int .i64 k ∧ Kept No w wr ∧ eachF (fun i => if okF xs i then 0 else 101) 1 k = none) (fun x _ => n - (intOf x).toNat)
    case atStart => exact ⟨0, by omega, rfl, Kept.refl No w, rfl⟩
    case round =>
      obtain ⟨k, hk, rfl, hkr, hno⟩ := hrel
      have HNO : Hid (eachF (fun i => if okF xs i then 0 else 101) 1 k = none) := hno
      have HKR : Hid (Kept No w wr) := hkr
      clear hno
      by_cases hlt : k < n
      · have hc := rserver_any F a n c xs k wr (H.out.keep hkr) hlt
        clear hkr
        cases hb : okF xs k
        · have HE : Hid (fe0 = 101 ∧ fn0 = 1 + k) := by
            have := eachF_hit (r := fun i => if okF xs i then 0 else 101) HNO.out (by simp [hb]) n hlt
            have e1 := HFE.out
            have e2 := HFN.out
            rw [this] at e1 e2
            simp only [hb] at e1 e2
            exact ⟨e1, e2⟩
          rw [hb] at hc
          clear hb
          go_wp2_with (go_at_call 135; refine hc.mono ?_; rintro e w' ⟨rfl, hk1⟩; have HK2 : Hid (Kept No w w') := HKR.out.trans hk1 (fun _ h => h.elim); clear hk1)
          go_ret2
          refine ⟨?_, HK2.out⟩
          rw [HE.out.1, HE.out.2, Int.add_comm]
          rfl
        · have HE : Hid (eachF (fun i => if okF xs i then 0 else 101) 1 (k + 1) = none) := eachF_miss (r := fun i => if okF xs i then 0 else 101) HNO.out (by simp [hb])
          rw [hb] at hc
          clear hb
          go_wp2_with (go_at_call 135; refine hc.mono ?_; rintro e w' ⟨rfl, hk1⟩; have HK2 : Hid (Kept No w w') := HKR.out.trans hk1 (fun _ h => h.elim); clear hk1)
          go_roundw
          case rel => exact ⟨k + 1, by omega, by go_num, HK2.out, HE.out⟩
          case measure => simp [intOf]; omega
      · have hke : k = n := by omega
        subst hke
        have HE : Hid (fe0 = 0 ∧ fn0 = 0) := by
          have e1 := HFE.out
          have e2 := HFN.out
          rw [HNO.out] at e1 e2
          exact ⟨e1, e2⟩
        clear hkr
        go_wp2
        go_ret2
        refine ⟨?_, HKR.out⟩
        rw [HE.out.1, HE.out.2]
        rfl
  · have HF : Hid (findF xs n = some (100, 0)) := by show findF xs n = some (100, 0); unfold findF; rw [if_neg h32]
    rw [HF.out]
    show Calls Tryz.prog 94 #[.slice a n c] w fun e w' => e = .returned (.tuple #[.int .i64 100, .int .i64 0]) ∧ Kept No w w'
    have HK : Hid (Kept No w w) := Kept.refl No w
    go_enter Tryz.func94, Tryz.ntmps94
    go_wp2
    go_ret2
    exact ⟨rfl, HK.out⟩
end Go.Proofs.YtdcfcgmmjobdcaaGreatDoor

namespace Go.Proofs.YtdcfcgmmjobdcaaGreatDoor
open Go.RowKit Plain
set_option linter.unusedVariables false
set_option linter.unusedSimpArgs false
set_option maxRecDepth 100000

set_option maxHeartbeats 4000000 in
theorem rhyper_any (F : Nat → Prop) (a : Option Addr) (n c : Nat) (xs : List Srv) (w : World) (h : Sv w F a n c xs) (hn : n ≤ 70000) :
    Calls Tryz.prog 95 #[.slice a n c] w fun e w' => e = .returned (.tuple #[.int .i64 (lcmV (zP xs) n 1048576), .bool (lcmB (zP xs) n 1048576)]) ∧ Kept No w w' := by
  obtain ⟨i0, hi, hz0, hz1, hz2⟩ := info_parts Tryz.infoL
  have H : Hid (Sv w F a n c xs) := h
  obtain ⟨z1, hz1'⟩ : ∃ z, z = lcmV (zP xs) n 1048576 := ⟨_, rfl⟩
  obtain ⟨z2, hz2'⟩ : ∃ z, z = lcmB (zP xs) n 1048576 := ⟨_, rfl⟩
  rw [← hz1', ← hz2']
  have HZ1 : Hid (z1 = lcmV (zP xs) n 1048576) := hz1'
  have HZ2 : Hid (z2 = lcmB (zP xs) n 1048576) := hz2'
  have hz1b : -9223372036854775808 ≤ z1 ∧ z1 ≤ 9223372036854775807 := by have := lcm_bd xs n; rw [hz1']; omega
  clear h hz1' hz2'
  go_enter Tryz.func95, Tryz.ntmps95
  go_wp2
  go_loopw [4, 5] (fun v x wr => ∃ k : Nat, k ≤ n ∧ x = .int .i64 k ∧ Kept No w wr ∧ wr.ownsRow w.heap.size 2 1 v k ((psP xs k).map iv)) (fun _ x _ => n - (intOf x).toNat)
  case atStart => exact ⟨0, by omega, rfl, Kept.refl No w, ⟨rfl, .inl ⟨rfl, rfl⟩⟩⟩
  case round =>
    obtain ⟨k, hk, rfl, hkr, hown⟩ := hrel
    by_cases hlt : k < n
    · have hx : xs[k]? = some (xs.getD k ⟨0, 0, 0, 0⟩) := by rw [List.getD, List.getElem?_eq_getElem (by rw [H.out.len]; exact hlt)]; rfl
      obtain ⟨hok, b, o, rfl, hb, c0, c1, c2, c3⟩ := (H.out.keep hkr).at' k _ hx
      have HNX : Hid ((psP xs (k + 1)).map iv = (psP xs k).map iv ++ [.int .i64 (xs.getD k ⟨0, 0, 0, 0⟩).p]) := psP_succ xs k
      have hyp : -9223372036854775808 ≤ (xs.getD k ⟨0, 0, 0, 0⟩).p ∧ (xs.getD k ⟨0, 0, 0, 0⟩).p ≤ 9223372036854775807 := hok.1
      clear hx hok
      generalize (psP xs k).map iv = L0 at *
      generalize xs.getD k ⟨0, 0, 0, 0⟩ = y at *
      obtain ⟨yp, yb, yo, yq⟩ := y
      simp only at c0 c1 c2 c3 HNX hyp
      have HOW : Hid (wr.ownsRow w.heap.size 2 1 u4 k L0) := hown
      have HKR : Hid (Kept No w wr) := hkr
      clear hown hkr
      go_wp2_with (at_builtin; refine wpList_append_own_at _ rfl _ _ 184 rfl w.heap.size 2 i0 (.int .i64 0) 1 8 Tryz.underlying184 hi hz0 hz1 hz2 rfl (by decide) _ _ _ rfl (HOW.out.alloc _) ⟨wr.heap.size, 0, none⟩ 1 1 [.int .i64 yp] rfl rfl (cell_one_new _ _ _) (one_one _ _) (by unfold maxLen; omega) (by omega) (by have := HKR.out.size; simp; omega) ?_; intro v1 w6 own1 grow1 _ at1)
      have HK6 : Hid (Kept No w w6 ∧ w6.ownsRow w.heap.size 2 1 v1 (k + 1) ((psP xs (k + 1)).map iv)) := by
        exact ⟨(HKR.out.alloc _).grown grow1 (fun g e => .inr (HOW.out.lt g e).1), by rw [HNX.out]; exact own1⟩
      clear own1 grow1 at1
      go_wp2
      go_roundw
      case rel => exact ⟨k + 1, by omega, by go_num, HK6.out.1, HK6.out.2⟩
      case measure => simp [intOf]; omega
    · have hke : k = n := by omega
      subst hke
      obtain ⟨sa, sc, rfl, hrow⟩ := row_of wr w.heap.size 2 u4 xs k hown (fun i hi => by
        have hx : xs[i]? = some (xs.getD i ⟨0, 0, 0, 0⟩) := by rw [List.getD, List.getElem?_eq_getElem (by rw [H.out.len]; exact hi)]; rfl
        exact (H.out.at' i _ hx).1.1)
      have hc := rlcm_any sa k sc (zP xs) 1048576 wr (by omega) (by unfold I64; omega) hrow
      have HKR : Hid (Kept No w wr) := hkr
      clear hown hkr hrow
      rw [← HZ1.out, ← HZ2.out] at hc
      go_wp2_with (go_at_call 136; refine hc.mono ?_; rintro e w2 ⟨rfl, nn, rfl⟩)
      go_ret2
      exact ⟨rfl, HKR.out.drewN _⟩

theorem fe_of {xs : List Srv} {n : Nat} {p : Int × Int} (h : findF xs n = some p) : p.1 = 100 ∨ p.1 = 101 := by
  unfold findF at h
  by_cases h32 : n ≤ 32
  · rw [if_pos h32, servF_ok] at h
    have key : ∀ m, eachF (fun i => if okF xs i then 0 else 101) 1 m = some p → p.1 = 101 := by
      intro m
      induction m with
      | zero => intro h; cases h
      | succ m ih =>
        intro h
        rw [eachF] at h
        cases he : eachF (fun i => if okF xs i then 0 else 101) 1 m with
        | some q => rw [he] at h; cases h; exact ih he
        | none =>
          rw [he] at h
          cases ho : okF xs m
          · simp [ho] at h; rw [← h]
          · simp [ho] at h
    exact .inr (key n h)
  · rw [if_neg h32] at h; cases h; exact .inl rfl

set_option maxHeartbeats 4000000 in
theorem rHyper_any (F : Nat → Prop) (a : Option Addr) (n c : Nat) (xs : List Srv) (w : World) (h : Sv w F a n c xs) :
    Calls Tryz.prog 52 #[.slice a n c] w fun e w' => e = .returned (.tuple #[.int .i64 (hyV xs n), .int .i64 (hyE xs n)]) ∧ Kept No w w' := by
  have hc := rservers_any F a n c xs w h
  cases hf : findF xs n with
  | some p =>
    have ht : timF xs n = some p := by unfold timF; rw [hf]
    rw [show hyV xs n = 0 by unfold hyV; rw [ht], show hyE xs n = p.1 by unfold hyE; rw [ht]]
    have hp := fe_of hf
    rw [hf] at hc
    simp only [fe, fn] at hc
    obtain ⟨px, py⟩ := p
    simp only at hp hc ⊢
    have hne : ¬ px = 0 := by omega
    clear hf h ht hp
    go_enter Tryz.func52, Tryz.ntmps52
    go_wp2_with (go_at_call 94; refine hc.mono ?_; rintro e w1 ⟨rfl, hk1⟩; have HK1 : Hid (Kept No w w1) := hk1; clear hk1)
    go_ret2
    exact ⟨rfl, HK1.out⟩
  | none =>
    obtain ⟨hn, hp⟩ := findF_none hf
    have ht : timF xs n = togF xs n := by unfold timF; rw [hf]
    rw [hf] at hc
    simp only [fe, fn] at hc
    have H : Hid (Sv w F a n c xs) := h
    have HP : Hid (∀ i, i < n → 1 ≤ zP xs i) := fun i hi => (hp i hi).1
    have H2 : Hid (∀ w', Kept No w w' → Calls Tryz.prog 95 #[.slice a n c] w' fun e w' => e = .returned (.tuple #[.int .i64 (lcmV (zP xs) n 1048576), .bool (lcmB (zP xs) n 1048576)]) ∧ Kept No w w') := fun w' hw => (rhyper_any F a n c xs w' (h.keep hw) (by omega)).mono (fun e w2 he => ⟨he.1, hw.trans he.2 (fun _ h => h.elim)⟩)
    cases hB : lcmB (zP xs) n 1048576
    · have ht2 : timF xs n = some (102, 0) := by rw [ht]; unfold togF; rw [hB]; rfl
      rw [show hyV xs n = 0 by unfold hyV; rw [ht2], show hyE xs n = 102 by unfold hyE; rw [ht2]]
      rw [hB] at H2
      clear hf h ht ht2 hp hB
      generalize lcmV (zP xs) n 1048576 = z1 at *
      go_enter Tryz.func52, Tryz.ntmps52
      go_wp2_with (first
        | (go_at_call 94; refine hc.mono ?_; rintro e w1 ⟨rfl, hk1⟩; have HK1 : Hid (Kept No w w1) := hk1; have hc2 := H2.out w1 hk1; clear hk1)
        | (go_at_call 95; refine hc2.mono ?_; rintro e w2 ⟨rfl, hk1⟩; have HK2 : Hid (Kept No w w2) := hk1; clear hk1))
      go_ret2
      exact ⟨rfl, HK2.out⟩
    · obtain ⟨l0, l1⟩ := lcm_bd xs n
      rw [hB] at H2
      have HV : Hid (relF (lcmV (zP xs) n 1048576) xs n ≤ 65536 → hyV xs n = lcmV (zP xs) n 1048576 ∧ hyE xs n = 0) := fun hle => by
        have ht2 : timF xs n = none := by rw [ht]; unfold togF; rw [hB, if_pos hle]; rfl
        exact ⟨by unfold hyV; rw [ht2], by unfold hyE; rw [ht2]⟩
      have HV2 : Hid (¬ relF (lcmV (zP xs) n 1048576) xs n ≤ 65536 → hyV xs n = 0 ∧ hyE xs n = 103) := fun hle => by
        have ht2 : timF xs n = some (103, 0) := by rw [ht]; unfold togF; rw [hB, if_neg hle]; rfl
        exact ⟨by unfold hyV; rw [ht2], by unfold hyE; rw [ht2]⟩
      clear hf h ht hp hB
      generalize lcmV (zP xs) n 1048576 = z1 at *
      generalize hyV xs n = r1 at *
      generalize hyE xs n = r2 at *
      have HBD : Hid (∀ k, k ≤ n → 0 ≤ relF z1 xs k ∧ relF z1 xs k ≤ k * 2097152) := fun k hk => relF_bd (xs := xs) l0 l1 k (fun i hi => HP.out i (by omega))
      go_enter Tryz.func52, Tryz.ntmps52
      go_wp2_with (first
        | (go_at_call 94; refine hc.mono ?_; rintro e w1 ⟨rfl, hk1⟩; have HK1 : Hid (Kept No w w1) := hk1; have hc2 := H2.out w1 hk1; clear hk1)
        | (go_at_call 95; refine hc2.mono ?_; rintro e w2 ⟨rfl, hk1⟩; have HK2 : Hid (Kept No w w2) := hk1; clear hk1))
      clear hc hc2 H2 HK1
      go_loopw [8, 9] (fun v x wr => ∃ k : Nat, k ≤ n ∧ x = .int .i64 k ∧ Kept No w wr ∧ v = .int .i64 (relF z1 xs k)) (fun _ x _ => n - (intOf x).toNat)
      case atStart => exact ⟨0, by omega, rfl, HK2.out, rfl⟩
      case round =>
        clear HK2
        obtain ⟨k, hk, rfl, hkr, rfl⟩ := hrel
        by_cases hlt : k < n
        · have hx : xs[k]? = some (xs.getD k ⟨0, 0, 0, 0⟩) := by rw [List.getD, List.getElem?_eq_getElem (by rw [H.out.len]; exact hlt)]; rfl
          obtain ⟨hok, b, o, rfl, hb, c0, c1, c2, c3⟩ := (H.out.keep hkr).at' k _ hx
          have hpk : 1 ≤ (xs.getD k ⟨0, 0, 0, 0⟩).p := HP.out k hlt
          have HS : Hid (relF z1 xs (k + 1) = relF z1 xs k + (2 * z1) / (xs.getD k ⟨0, 0, 0, 0⟩).p) := rfl
          have hpm : (xs.getD k ⟨0, 0, 0, 0⟩).p ≤ 9223372036854775807 := hok.1.2
          obtain ⟨r0, r1⟩ := HBD.out k hk
          have r2 : relF z1 xs k ≤ 67108864 := by
            have : (k : Int) * 2097152 ≤ 67108864 := by omega
            omega
          have HKR : Hid (Kept No w wr) := hkr
          clear hx hok hkr r1
          generalize xs.getD k ⟨0, 0, 0, 0⟩ = y at *
          obtain ⟨yp, yb, yo, yq⟩ := y
          simp only at c0 c1 c2 c3 HS hpk hpm
          generalize relF z1 xs k = rk at *
          have hd0 : 0 ≤ (2 * z1) / yp := Int.ediv_nonneg (by omega) (by omega)
          have hd1 : (2 * z1) / yp ≤ 2 * z1 := Int.ediv_le_self _ (by omega)
          go_wp2
          go_roundw
          case rel => exact ⟨k + 1, by omega, by go_num, HKR.out, by rw [HS.out]⟩
          case measure => simp [intOf]; omega
        · have hke : k = n := by omega
          subst hke
          have HKR : Hid (Kept No w wr) := hkr
          clear hkr
          by_cases hle : relF z1 xs k ≤ 65536
          · obtain ⟨e1, e2⟩ := HV.out hle
            have HE : Hid (r1 = z1 ∧ r2 = 0) := ⟨e1, e2⟩
            clear e1 e2
            generalize relF z1 xs k = rk at *
            go_wp2
            go_ret2
            exact ⟨by rw [HE.out.1, HE.out.2]; rfl, HKR.out⟩
          · obtain ⟨e1, e2⟩ := HV2.out (by omega)
            have HE : Hid (r1 = 0 ∧ r2 = 103) := ⟨e1, e2⟩
            clear e1 e2
            generalize relF z1 xs k = rk at *
            go_wp2
            go_ret2
            exact ⟨by rw [HE.out.1, HE.out.2]; rfl, HKR.out⟩
end Go.Proofs.YtdcfcgmmjobdcaaGreatDoor

namespace Go.Proofs.YtdcfcgmmjobdcaaGreatDoor
open Go.RowKit Plain
set_option linter.unusedVariables false
set_option maxRecDepth 100000

/-- a row of numbers that may be written -/
structure Ir (w : World) (g n : Nat) (r : Nat → Nat) : Prop where
  at' : ∀ i, i < n → w.cell? ⟨g, i, none⟩ = some (.int .i64 (r i))
  fz : ∀ i, w.frozen? ⟨g, i, none⟩ = false
  lt : g < w.heap.size
theorem Ir.kept {w w' : World} {g n : Nat} {r : Nat → Nat} {G : Nat → Prop} (h : Ir w g n r) (k : Kept G w w') (hn : ¬ G g) : Ir w' g n r :=
  ⟨fun i hi => k.cell (h.at' i hi) hn, fun i => by
    have e := k.block g h.lt hn
    have := h.fz i
    simp only [World.frozen?] at this ⊢
    rw [e]; exact this, Nat.lt_of_lt_of_le h.lt k.size⟩
theorem Ir.ext {w : World} {g n : Nat} {r r' : Nat → Nat} (h : Ir w g n r) (e : ∀ i, i < n → r i = r' i) : Ir w g n r' :=
  ⟨fun i hi => by rw [← e i hi]; exact h.at' i hi, h.fz, h.lt⟩
theorem Ir.set {w : World} {g n : Nat} {r : Nat → Nat} (h : Ir w g n r) (k v : Nat) : Ir (w.setCell ⟨g, k, none⟩ (.int .i64 v)) g n (fun i => if i = k then v else r i) := by
  refine ⟨fun i hi => ?_, fun i => by rw [World.frozen?_setCell]; exact h.fz i, by simpa [World.setCell] using h.lt⟩
  by_cases e : i = k
  · subst e
    rw [if_pos rfl, cell_set (h.at' i hi), if_pos rfl]
  · rw [if_neg e, cell_set (h.at' i hi), if_neg (by omega)]

/-- the rests behind the releases of a tick -/
def rlN (s : Rule.Sys) (t : Nat) (p : Nat → Nat) (i : Nat) : Nat := if Rule.rel s i t then s.B i else p i

set_option maxHeartbeats 4000000 in
theorem rel13_any {F : Nat → Prop} {a : Option Addr} {c : Nat} {xs : List Srv} {g : Nat} {r : Nat → Nat} (hv : Vd xs) (w : World) (h : Sv w F a xs.length c xs) (hr : Ir w g xs.length r) (hFg : ¬ F g) (t : Nat) (ht : t < 1099511627776) :
    Calls Tryz.prog 96 #[.slice a xs.length c, .slice (some ⟨g, 0, none⟩) xs.length xs.length, .int .i64 t] w fun e w' => e = .returned (.slice (some ⟨g, 0, none⟩) xs.length xs.length) ∧ Ir w' g xs.length (rlN (sys xs) t r) ∧ Kept (fun k => k = g) w w' := by
  have hn := hv.num
  have HV : Hid (Vd xs) := hv
  have HS : Hid (Sv w F a xs.length c xs ∧ ¬ F g) := ⟨h, hFg⟩
  have HR : Hid (Ir w g xs.length r) := hr
  have hcap := h.cap
  have hmax := h.max
  have HT : Hid (t < 1099511627776) := ht
  clear h hr hv hFg
  obtain ⟨zt, ezt⟩ : ∃ z : Int, (t : Int) = z := ⟨_, rfl⟩
  have t0 : 0 ≤ zt := by omega
  have t1 : zt < 1099511627776 := by omega
  have HZ : Hid ((t : Int) = zt) := ezt
  rw [ezt]
  clear ezt ht
  go_enter Tryz.func96, Tryz.ntmps96
  go_wp2
  go_loopw [7] (fun x wr => ∃ k : Nat, k ≤ xs.length ∧ x = .int .i64 k ∧ Ir wr g xs.length (fun i => if i < k then rlN (sys xs) t r i else r i) ∧ Kept (fun k => k = g) w wr) (fun x _ => xs.length - (intOf x).toNat)
  case atStart => exact ⟨0, by omega, rfl, HR.out.ext (fun i hi => by simp), Kept.refl _ w⟩
  case round =>
    obtain ⟨k, hk, rfl, hir, hkr⟩ := hrel
    have HW : Hid (Ir wr g xs.length (fun i => if i < k then rlN (sys xs) t r i else r i) ∧ Kept (fun k => k = g) w wr) := ⟨hir, hkr⟩
    clear hir hkr
    by_cases hlt : k < xs.length
    · have hltz : (k : Int) < (xs.length : Int) := by omega
      obtain ⟨hok, b, o, rfl, hb, e0, e1, e2, e3⟩ := (HS.out.1.kept HW.out.2 (fun b hb e => HS.out.2 (by rw [← e]; exact hb))).at' k _ (by rw [List.getElem?_eq_getElem hlt])
      have eg : xs[k] = gs xs k := by unfold gs; rw [List.getD_eq_getElem?_getD, List.getElem?_eq_getElem hlt]; rfl
      rw [eg] at e0 e1 e2 e3
      have hP := HV.out.per k hlt
      have hB := HV.out.bud k hlt
      have hO := HV.out.off k hlt
      have hPn : (gs xs k).p = ((sys xs).P k : Int) := by show (gs xs k).p = (((gs xs k).p.toNat : Nat) : Int); omega
      have hBn : (gs xs k).b = ((sys xs).B k : Int) := by show (gs xs k).b = (((gs xs k).b.toNat : Nat) : Int); omega
      have hOn : (gs xs k).o = ((sys xs).O k : Int) := by show (gs xs k).o = (((gs xs k).o.toNat : Nat) : Int); omega
      rw [hPn] at e0 hP
      rw [hBn] at e1 hB
      rw [hOn] at e2 hO
      rw [hPn] at hB hO
      have HRL : Hid (Rule.rel (sys xs) k t ↔ ((sys xs).O k ≤ t ∧ (t - (sys xs).O k) % (sys xs).P k = 0)) := Iff.rfl
      have HRN : Hid ((Rule.rel (sys xs) k t → rlN (sys xs) t r k = (sys xs).B k) ∧ (¬ Rule.rel (sys xs) k t → rlN (sys xs) t r k = r k)) := ⟨fun h => if_pos h, fun h => if_neg h⟩
      have c1 := HW.out.1.at' k hlt
      have cf := HW.out.1.fz k
      clear eg hPn hBn hOn hok
      generalize (sys xs).P k = Pk at *
      generalize (sys xs).B k = Bk at *
      generalize (sys xs).O k = Ok at *
      have HNX : Hid (∀ W, Ir W g xs.length (fun i => if i = k then rlN (sys xs) t r k else (if i < k then rlN (sys xs) t r i else r i)) → Ir W g xs.length (fun i => if i < k + 1 then rlN (sys xs) t r i else r i)) := fun W h => h.ext (fun i hi => by
        by_cases e1 : i = k
        · rw [if_pos e1, if_pos (by omega), e1]
        · rw [if_neg e1]
          by_cases e2 : i < k
          · rw [if_pos e2, if_pos (by omega)]
          · rw [if_neg e2, if_neg (by omega)])
      have HNS : Hid (¬ Rule.rel (sys xs) k t → ∀ nq, Ir (wr.drewN nq) g xs.length (fun i => if i < k + 1 then rlN (sys xs) t r i else r i) ∧ Kept (fun k => k = g) w (wr.drewN nq)) := fun hn nq => ⟨HNX.out _ ((HW.out.1.kept ((Kept.refl No wr).drewN nq) (fun h => h)).ext (fun i hi => by
          by_cases e1 : i = k
          · rw [if_pos e1, e1, if_neg (by omega), HRN.out.2 hn]
          · rw [if_neg e1])), HW.out.2.drewN nq⟩
      have hPz : ¬ (Pk : Int) = 0 := by omega
      obtain ⟨zO, ezO⟩ : ∃ z : Int, (Ok : Int) = z := ⟨_, rfl⟩
      obtain ⟨zP, ezP⟩ : ∃ z : Int, (Pk : Int) = z := ⟨_, rfl⟩
      rw [ezP] at e0 hP hPz hO
      rw [ezO] at e2 hO
      have HZ2 : Hid ((Ok : Int) = zO ∧ (Pk : Int) = zP) := ⟨ezO, ezP⟩
      obtain ⟨hP1, hP2⟩ := hP
      obtain ⟨hO1, hO2⟩ := hO
      clear ezO ezP
      by_cases hO : zO ≤ zt
      · have q1 : decide (zO ≤ zt) = true := decide_eq_true hO
        obtain ⟨zm, hzm⟩ : ∃ z : Int, (((t - Ok) % Pk : Nat) : Int) = z := ⟨_, rfl⟩
        have em1 : (zt - zO) % zP = zm := by
          rw [← hzm, ← HZ.out, ← HZ2.out.1, ← HZ2.out.2, show (t : Int) - (Ok : Int) = ((t - Ok : Nat) : Int) by have := HZ.out; have := HZ2.out.1; omega]
          rfl
        have em2 : Int.tmod (zt - zO) zP = zm := by rw [Int.tmod_eq_emod_of_nonneg (by omega)]; exact em1
        by_cases hm : zm = 0
        · have q2 : (zm == 0) = true := by rw [hm]; rfl
          have hrel : Rule.rel (sys xs) k t := HRL.out.2 ⟨by have := HZ.out; have := HZ2.out.1; omega, by omega⟩
          have HF : Hid (∀ nq, Ir ((wr.drewN nq).setCell ⟨g, k, none⟩ (.int .i64 Bk)) g xs.length (fun i => if i < k + 1 then rlN (sys xs) t r i else r i) ∧ Kept (fun k => k = g) w ((wr.drewN nq).setCell ⟨g, k, none⟩ (.int .i64 Bk))) := fun nq => ⟨HNX.out _ (((HW.out.1.kept ((Kept.refl No wr).drewN nq) (fun h => h)).set k Bk).ext (fun i hi => by
              by_cases e1 : i = k
              · rw [if_pos e1, if_pos e1, HRN.out.1 hrel]
              · rw [if_neg e1, if_neg e1])), Kept.setCell (F := fun k => k = g) (p := ⟨g, k, none⟩) (HW.out.2.drewN nq) (.inl rfl) _⟩
          clear hrel hzm hm HNS
          go_upto_region 4 with fail
          go_quiet (fail)
          go_wp2
          go_roundw
          case rel => exact ⟨k + 1, by omega, by go_num, HF.out nq⟩
          case measure => simp [intOf]; omega
        · have q2 : (zm == 0) = false := beq_eq_false_iff_ne.2 hm
          have hrel : ¬ Rule.rel (sys xs) k t := fun h => hm (by have := (HRL.out.1 h).2; omega)
          have HF := HNS.out hrel
          have HF : Hid _ := HF
          clear hrel hzm hm HNS
          go_upto_region 4 with fail
          go_quiet (fail)
          go_wp2
          go_roundw
          case rel => exact ⟨k + 1, by omega, by go_num, HF.out nq⟩
          case measure => simp [intOf]; omega
      · have q1 : decide (zO ≤ zt) = false := decide_eq_false hO
        have hrel : ¬ Rule.rel (sys xs) k t := fun h => hO (by have := (HRL.out.1 h).1; have := HZ.out; have := HZ2.out.1; omega)
        have HF := HNS.out hrel
        have HF : Hid _ := HF
        clear hrel HNS
        go_upto_region 4 with fail
        go_quiet (fail)
        go_wp2
        go_roundw
        case rel => exact ⟨k + 1, by omega, by go_num, HF.out nq⟩
        case measure => simp [intOf]; omega
    · obtain rfl : k = xs.length := by omega
      have hltz : ¬ ((xs.length : Nat) : Int) < (xs.length : Int) := by omega
      clear hk
      go_wp2
      go_ret
      exact ⟨rfl, HW.out.1.ext (fun i hi => if_pos hi), HW.out.2⟩

set_option maxHeartbeats 4000000 in
theorem first13_any {F : Nat → Prop} {a : Option Addr} {c : Nat} {xs : List Srv} {g : Nat} {r : Nat → Nat} (hv : Vd xs) (w : World) (h : Sv w F a xs.length c xs) (hr : Ir w g xs.length r) :
    Calls Tryz.prog 97 #[.slice a xs.length c, .slice (some ⟨g, 0, none⟩) xs.length xs.length] w fun e w' => e = .returned (.int .i64 (Rule.chosen (sys xs) r : Nat)) ∧ Kept No w w' := by
  have hn := hv.num
  have HS : Hid (Sv w F a xs.length c xs ∧ Ir w g xs.length r) := ⟨h, hr⟩
  have hcap := h.cap
  have hmax := h.max
  have HCH : Hid (Rule.chosen (sys xs) r = Rule.pick (sys xs) r xs.length) := rfl
  clear h hr hv
  go_enter Tryz.func97, Tryz.ntmps97
  go_wp2
  go_loopw [5, 6] (fun v x wr => ∃ k : Nat, k ≤ xs.length ∧ x = .int .i64 k ∧ v = .int .i64 (Rule.pick (sys xs) r k : Nat) ∧ Kept No w wr) (fun _ x _ => xs.length - (intOf x).toNat)
  case atStart => exact ⟨0, by omega, rfl, rfl, Kept.refl _ w⟩
  case round =>
    obtain ⟨k, hk, rfl, rfl, hkr⟩ := hrel
    have HK : Hid (Kept No w wr) := hkr
    clear hkr
    by_cases hlt : k < xs.length
    · have hltz : (k : Int) < (xs.length : Int) := by omega
      have hpk := Rule.pick_le (sys xs) r k
      have c1 := (HS.out.2.kept HK.out (fun h => h)).at' k hlt
      have HP0 : Hid (Rule.pick (sys xs) r (k + 1) = if 0 < r k ∧ (Rule.pick (sys xs) r k = 0 ∨ (sys xs).pr (Rule.pick (sys xs) r k - 1) < (sys xs).pr k) then k + 1 else Rule.pick (sys xs) r k) := rfl
      have gsk : ∀ j, j < xs.length → ∃ b o, a = some ⟨b, o, none⟩ ∧ wr.cell? ⟨b, o + j * 4 + 3, none⟩ = some (.int .i64 ((sys xs).pr j)) := fun j hj => by
        obtain ⟨hok, b, o, e, hb, e0, e1, e2, e3⟩ := (HS.out.1.keep HK.out).at' j _ (by rw [List.getElem?_eq_getElem hj])
        have eg : xs[j] = gs xs j := by unfold gs; rw [List.getD_eq_getElem?_getD, List.getElem?_eq_getElem hj]; rfl
        rw [eg] at e3
        exact ⟨b, o, e, e3⟩
      obtain ⟨b, o, rfl, e3⟩ := gsk k hlt
      generalize hm : Rule.pick (sys xs) r k = m at *
      by_cases hr0 : r k = 0
      · have q1 : decide ((0 : Int) < ((r k : Nat) : Int)) = false := decide_eq_false (by omega)
        have q2 : decide (0 < r k) = false := decide_eq_false (by omega)
        have HPK : Hid (Rule.pick (sys xs) r (k + 1) = m) := by show _ = _; rw [HP0.out, if_neg (by omega)]
        clear gsk HP0 hm hr0
        generalize ((r k : Nat) : Int) = zr at *
        go_upto_region 5 with fail
        go_quiet (fail)
        go_wp2
        go_roundw
        case rel => exact ⟨k + 1, by omega, by go_num, by rw [HPK.out], HK.out.drewN nq⟩
        case measure => simp [intOf]; omega
      · have hrp : 0 < r k := by omega
        have q1 : decide ((0 : Int) < ((r k : Nat) : Int)) = true := decide_eq_true (by omega)
        have q2 : decide (0 < r k) = true := decide_eq_true hrp
        by_cases hm0 : m = 0
        · have HPK : Hid (Rule.pick (sys xs) r (k + 1) = k + 1) := by show _ = _; rw [HP0.out, if_pos ⟨hrp, .inl hm0⟩]
          have q3 : (((m : Nat) : Int) == 0) = true := by rw [hm0]; rfl
          clear gsk HP0 hm hr0 hrp hm0
          generalize ((r k : Nat) : Int) = zr at *
          go_upto_region 5 with fail
          go_quiet (fail)
          go_wp2
          go_roundw
          case rel => exact ⟨k + 1, by omega, by go_num, by rw [HPK.out]; go_num, HK.out.drewN nq⟩
          case measure => simp [intOf]; omega
        · obtain ⟨p, hp⟩ : ∃ p, m = p + 1 := ⟨m - 1, by omega⟩
          obtain ⟨b', o', e', d3⟩ := gsk p (by omega)
          injection e' with e'
          injection e' with e1 e2
          subst e1 e2
          have q3 : (((m : Nat) : Int) == 0) = false := beq_eq_false_iff_ne.2 (by omega)
          have q4 : ((m : Nat) : Int) - 1 = (p : Int) := by omega
          have hpl : (p : Int) < (xs.length : Int) := by omega
          by_cases hpr : (sys xs).pr p < (sys xs).pr k
          · have HPK : Hid (Rule.pick (sys xs) r (k + 1) = k + 1) := by show _ = _; rw [HP0.out, if_pos ⟨hrp, .inr (by rw [show m - 1 = p by omega]; exact hpr)⟩]
            have q5 : decide ((sys xs).pr p < (sys xs).pr k) = true := decide_eq_true hpr
            clear gsk HP0 hm hr0 hrp hm0 hpr
            generalize ((r k : Nat) : Int) = zr at *
            generalize (sys xs).pr p = prp at *
            generalize (sys xs).pr k = prk at *
            have hmz : 0 < ((m : Nat) : Int) := by omega
            have HM : Hid (m = p + 1) := hp
            clear hp
            go_upto_region 5 with fail
            go_quiet (fail)
            go_wp2
            go_roundw
            case rel => exact ⟨k + 1, by omega, by go_num, by rw [HPK.out]; go_num, HK.out.drewN nq⟩
            case measure => simp [intOf]; omega
          · have HPK : Hid (Rule.pick (sys xs) r (k + 1) = m) := by show _ = _; rw [HP0.out, if_neg (by rw [show m - 1 = p by omega]; omega)]
            have q5 : decide ((sys xs).pr p < (sys xs).pr k) = false := decide_eq_false hpr
            clear gsk HP0 hm hr0 hrp hm0 hpr
            generalize ((r k : Nat) : Int) = zr at *
            generalize (sys xs).pr p = prp at *
            generalize (sys xs).pr k = prk at *
            have hmz : 0 < ((m : Nat) : Int) := by omega
            have HM : Hid (m = p + 1) := hp
            clear hp
            go_upto_region 5 with fail
            go_quiet (fail)
            go_wp2
            go_roundw
            case rel => exact ⟨k + 1, by omega, by go_num, by rw [HPK.out], HK.out.drewN nq⟩
            case measure => simp [intOf]; omega
    · obtain rfl : k = xs.length := by omega
      have hltz : ¬ ((xs.length : Nat) : Int) < (xs.length : Int) := by omega
      clear hk
      go_wp2
      go_ret
      exact ⟨by rw [HCH.out]; rfl, HK.out⟩
end Go.Proofs.YtdcfcgmmjobdcaaGreatDoor

namespace Go.Proofs.YtdcfcgmmjobdcaaGreatDoor
open Go.RowKit Plain
set_option linter.unusedVariables false
set_option maxRecDepth 100000

theorem Tryz.infoI3 : (Tryz.prog.info? 3).map (fun i => (i.zero, i.size, i.bytes)) = some (some (.int .i64 0), 1, 8) := by kernel_rfl
/-- the first m occupants, as cells -/
def ocL (f : Nat → Nat) (m : Nat) : List Value := (List.range m).map (fun t => .int .i64 (f t : Nat))
theorem ocL_succ (f : Nat → Nat) (m : Nat) : ocL f (m + 1) = ocL f m ++ [.int .i64 (f m : Nat)] := by simp [ocL, List.range_succ]
theorem ocL_len (f : Nat → Nat) (m : Nat) : (ocL f m).length = m := by simp [ocL]
theorem ocL_get (f : Nat → Nat) {m i : Nat} (h : i < m) : (ocL f m)[i]? = some (.int .i64 (f i : Nat)) := by simp [ocL, h]
/-- an owned list of occupants -/
def Oi (w : World) (base : Nat) (v : Value) (f : Nat → Nat) (m : Nat) : Prop := w.ownsRow base 3 1 v m (ocL f m)
/-- the rests behind tick t - 1 -/
def aft (s : Rule.Sys) (t i : Nat) : Nat := match t with
  | 0 => 0
  | t + 1 => Rule.rest s t i - (if Rule.occ s t = i + 1 then 1 else 0)
theorem aft_rel (s : Rule.Sys) (t i : Nat) : rlN s t (aft s t) i = Rule.rest s t i := by
  unfold rlN
  cases t with
  | zero => rfl
  | succ t => rfl
theorem aft_occ (s : Rule.Sys) (t : Nat) : Rule.chosen s (rlN s t (aft s t)) = Rule.occ s t := by
  have e : rlN s t (aft s t) = Rule.rest s t := funext (aft_rel s t)
  rw [e]
  rfl
theorem make_ints (w : World) (n : Nat) (hn : n ≤ 32) : ∃ w1, (Instr.makeSlice 23 (.int .i64 n) (.int .i64 n)).run Tryz.prog w = .ok (.slice (some ⟨w.heap.size, 0, none⟩) n n) w1 ∧ Ir w1 w.heap.size n (fun _ => 0) ∧ Kept No w w1 := by
  obtain ⟨i0, hi, hz0, hz1, hz2⟩ := info_parts Tryz.infoI3
  have hr := run_make (P := Tryz.prog) w 23 3 i0 _ Tryz.underlying23 hi hz0 .i64 .i64 n n (by omega) (Int.le_refl _) (by rw [hz2]; omega) (by omega)
  simp only [Int.toNat_natCast] at hr
  rw [hz1] at hr
  have hb := World.alloc_heap_new w (.cells (madeCells (Value.int .i64 0).cells (n * 1)) 3)
  have e : ∀ i, i < n * 1 → (madeCells (Value.int .i64 0).cells (n * 1))[i]? = some (.int .i64 0) := fun i hi => by
    unfold madeCells
    rw [Array.getElem?_map, Array.getElem?_range, if_pos hi]
    show some (#[Value.int .i64 0][i % 1]!) = _
    rw [Nat.mod_one]
    rfl
  have cell : ∀ i, i < n * 1 → (w.alloc (.cells (madeCells (Value.int .i64 0).cells (n * 1)) 3)).cell? ⟨w.heap.size, i, none⟩ = some (.int .i64 0) := fun i hi => by
    simp only [World.cell?]
    rw [hb]
    simpa using e i hi
  refine ⟨_, hr, ⟨fun i hi => cell i (by omega), fun i => ?_, heap_lt hb⟩, (Kept.refl No w).alloc _⟩
  simp only [World.frozen?]
  rw [hb]
  rfl

theorem cell_one (w : World) (v : Value) (t : TypeId) : ∀ j u, [v][j]? = some u → (w.alloc (.cells #[v] t)).cell? (Addr.add ⟨w.heap.size, 0, none⟩ j) = some u := by
  intro j u hj
  match j, hj with
  | 0, hj => simp at hj; subst hj; simp [Addr.add]
  | j + 1, hj => simp at hj
set_option maxHeartbeats 4000000 in
theorem occs_any {F : Nat → Prop} {a : Option Addr} {c : Nat} {xs : List Srv} (hv : Vd xs) (w : World) (h : Sv w F a xs.length c xs) (hF : ∀ k, F k → k < w.heap.size) (n : Nat) (hn : n ≤ 2097152) :
    Calls Tryz.prog 53 #[.slice a xs.length c, .int .i64 n] w fun e w' => ∃ v, e = .returned v ∧ Oi w' w.heap.size v (Rule.occ (sys xs)) n ∧ Kept No w w' := by
  obtain ⟨i0, hi, hz0, hz1, hz2⟩ := info_parts Tryz.infoI3
  obtain ⟨w1, hmk, hir, hk1⟩ := make_ints w xs.length hv.num
  have HV : Hid (Vd xs) := hv
  have HS : Hid (Sv w F a xs.length c xs ∧ ∀ k, F k → k < w.heap.size) := ⟨h, hF⟩
  have H1 : Hid (Ir w1 w.heap.size xs.length (fun _ => 0) ∧ Kept No w w1) := ⟨hir, hk1⟩
  clear h hF hir hk1 hv
  go_enter Tryz.func53, Tryz.ntmps53
  go_wp2
  have hlt1 := H1.out.1.lt
  go_loopw [5, 6, 7, 8] (fun x v y u wr => ∃ t : Nat, x = .slice (some ⟨w.heap.size, 0, none⟩) xs.length xs.length ∧ y = .int .i64 t ∧ t ≤ n ∧ Oi wr w1.heap.size v (Rule.occ (sys xs)) t ∧ Ir wr w.heap.size xs.length (aft (sys xs) t) ∧ Kept No w wr ∧ w1.heap.size ≤ wr.heap.size) (fun _ _ y _ _ => n - (intOf y).toNat)
  case atStart => exact ⟨0, rfl, rfl, Nat.zero_le _, ⟨rfl, .inl ⟨rfl, rfl⟩⟩, H1.out.1, H1.out.2, Nat.le_refl _⟩
  case round =>
    obtain ⟨t, rfl, rfl, htn, ho, hir, hk, hsz⟩ := hrel
    by_cases hlt : t < n
    · have hltz : (t : Int) < (n : Int) := by omega
      have rl := rel13_any HV.out wr (HS.out.1.keep hk) hir (fun hf => by have := HS.out.2 _ hf; omega) t (by omega)
      have HW : Hid (Oi wr w1.heap.size u6 (Rule.occ (sys xs)) t ∧ Kept No w wr ∧ w1.heap.size ≤ wr.heap.size) := ⟨ho, hk, hsz⟩
      have HOW : Hid (∀ k, u6.ownBlock = some k → w1.heap.size ≤ k) := fun k e => (ho.lt k e).1
      clear ho hir hk
      go_upto_region 7 with (go_at_call 96; refine rl.mono ?_; rintro e w2 ⟨rfl, hr2, hk2⟩; have H2 : Hid (Ir w2 w.heap.size xs.length (rlN (sys xs) t (aft (sys xs) t)) ∧ Kept No w w2 ∧ Oi w2 w1.heap.size u6 (Rule.occ (sys xs)) t ∧ w1.heap.size ≤ w2.heap.size) := ⟨hr2, HW.out.2.1.trans hk2 (fun k e => .inr (by omega)), hk2.owns HW.out.1 (fun k e e' => by have := HOW.out k e; omega), Nat.le_trans HW.out.2.2 hk2.size⟩; clear hr2 hk2 rl)
      have fs := first13_any HV.out w2 (HS.out.1.keep H2.out.2.1) H2.out.1
      rw [aft_occ] at fs
      have HLT : Hid (w.heap.size < w1.heap.size) := hlt1
      have HOO : Hid (∃ q, Rule.occ (sys xs) t = q) := ⟨_, rfl⟩
      obtain ⟨OO, eOO⟩ : ∃ q, Rule.occ (sys xs) t = q := ⟨_, rfl⟩
      rw [eOO] at fs
      have HOO : Hid (Rule.occ (sys xs) t = OO) := eOO
      have hol := Rule.occ_le (sys xs) t
      have ene : (sys xs).n = xs.length := rfl
      go_upto_region 8 with (go_at_call 97; refine fs.mono ?_; rintro e w3 ⟨rfl, hk3⟩; have H3 : Hid (Ir w3 w.heap.size xs.length (rlN (sys xs) t (aft (sys xs) t)) ∧ Kept No w w3 ∧ Oi w3 w1.heap.size u6 (Rule.occ (sys xs)) t ∧ w1.heap.size ≤ w3.heap.size) := ⟨H2.out.1.kept hk3 (fun h => h), H2.out.2.1.trans hk3 (fun _ h => h.elim), hk3.owns H2.out.2.2.1 (fun _ _ h => h), Nat.le_trans H2.out.2.2.2 hk3.size⟩; clear hk3 fs)
      by_cases ho0 : OO = 0
      · have q0 : ¬ (0 : Int) < ((OO : Nat) : Int) := by omega
        have HX : Hid (Ir w3 w.heap.size xs.length (aft (sys xs) (t + 1)) ∧ Kept No w w3 ∧ Oi w3 w1.heap.size u6 (Rule.occ (sys xs)) t ∧ w1.heap.size ≤ w3.heap.size) := ⟨H3.out.1.ext (fun i hi => by
          rw [aft_rel]
          show _ = Rule.rest (sys xs) t i - (if Rule.occ (sys xs) t = i + 1 then 1 else 0)
          rw [eOO, ho0, if_neg (by omega), Nat.sub_zero]), H3.out.2⟩
        clear eOO ho0 hol ene hlt1 hsz
        go_wp2_with (at_builtin; refine wpList_append_own_at _ rfl _ _ 23 rfl w1.heap.size 3 i0 (.int .i64 0) 1 8 Tryz.underlying23 hi hz0 hz1 hz2 rfl (by decide) _ _ _ rfl (HX.out.2.2.1.alloc _) ⟨w3.heap.size, 0, none⟩ 1 1 [.int .i64 (OO : Nat)] rfl rfl (cell_one w3 _ _) (one_one _ _) (by unfold maxLen; omega) (by omega) (by have := HX.out.2.2.2; simp; omega) ?_; intro v9 w10 own10 grow10 _ at10)
        have HN : Hid (Oi w10 w1.heap.size v9 (Rule.occ (sys xs)) (t + 1) ∧ Ir w10 w.heap.size xs.length (aft (sys xs) (t + 1)) ∧ Kept No w w10 ∧ w1.heap.size ≤ w10.heap.size) := by
          have hb : ∀ k, u6.ownBlock = some k → w1.heap.size ≤ k := HOW.out
          have kg : Kept (fun k => u6.ownBlock = some k) w3 w10 := ((Kept.refl _ w3).alloc _).grown grow10 (fun k e => .inl e)
          refine ⟨?_, HX.out.1.kept kg (fun e => by have := hb _ e; have := HLT.out; omega), HX.out.2.1.trans kg (fun k e => .inr (by have := hb _ e; have := HLT.out; omega)), Nat.le_trans HX.out.2.2.2 kg.size⟩
          unfold Oi
          rw [ocL_succ, HOO.out]
          exact own10
        clear own10 grow10 at10
        go_wp2
        go_roundw
        case rel => exact ⟨t + 1, rfl, by go_num, by omega, HN.out⟩
        case measure => simp [intOf]; omega
      · obtain ⟨p, hp⟩ : ∃ p, OO = p + 1 := ⟨OO - 1, by omega⟩
        have hpx : p < xs.length := by omega
        have hpz : (p : Int) < (xs.length : Int) := by omega
        have q0 : (0 : Int) < ((OO : Nat) : Int) := by omega
        have q1 : ((OO : Nat) : Int) - 1 = (p : Int) := by omega
        have c1 := H3.out.1.at' p hpx
        have cf := H3.out.1.fz p
        have hpos : 0 < Rule.rest (sys xs) t p := by
          have := (Rule.pick_pos (sys xs) (Rule.rest (sys xs) t) (sys xs).n (by show Rule.occ (sys xs) t ≠ 0; omega)).1
          have e : Rule.pick (sys xs) (Rule.rest (sys xs) t) (sys xs).n = Rule.occ (sys xs) t := rfl
          rw [e, eOO, hp] at this
          exact this
        rw [aft_rel] at c1
        have HX : Hid (Ir (w3.setCell ⟨w.heap.size, p, none⟩ (.int .i64 ((Rule.rest (sys xs) t p : Nat) - 1 : Int))) w.heap.size xs.length (aft (sys xs) (t + 1)) ∧ Kept No w (w3.setCell ⟨w.heap.size, p, none⟩ (.int .i64 ((Rule.rest (sys xs) t p : Nat) - 1 : Int))) ∧ Oi (w3.setCell ⟨w.heap.size, p, none⟩ (.int .i64 ((Rule.rest (sys xs) t p : Nat) - 1 : Int))) w1.heap.size u6 (Rule.occ (sys xs)) t ∧ w1.heap.size ≤ (w3.setCell ⟨w.heap.size, p, none⟩ (.int .i64 ((Rule.rest (sys xs) t p : Nat) - 1 : Int))).heap.size) := by
          have ks : Kept (fun k => k = w.heap.size) w3 (w3.setCell ⟨w.heap.size, p, none⟩ (.int .i64 ((Rule.rest (sys xs) t p : Nat) - 1 : Int))) := Kept.setCell (F := fun k => k = w.heap.size) (p := ⟨w.heap.size, p, none⟩) (Kept.refl _ w3) (.inl rfl) _
          refine ⟨?_, H3.out.2.1.trans ks (fun k e => .inr (by omega)), ks.owns H3.out.2.2.1 (fun k e e' => by have := HOW.out k e; omega), Nat.le_trans H3.out.2.2.2 ks.size⟩
          have st := H3.out.1.set p (Rule.rest (sys xs) t p - 1)
          rw [show ((Rule.rest (sys xs) t p - 1 : Nat) : Int) = ((Rule.rest (sys xs) t p : Nat) : Int) - 1 by omega] at st
          refine st.ext (fun i hi => ?_)
          show _ = Rule.rest (sys xs) t i - (if Rule.occ (sys xs) t = i + 1 then 1 else 0)
          rw [eOO, hp]
          by_cases ei : i = p
          · rw [if_pos ei, if_pos (by omega), ei]
          · rw [if_neg ei, if_neg (by omega), aft_rel, Nat.sub_zero]
        have hb1 := HV.out.bud p hpx
        have hb2 := HV.out.per p hpx
        have hle := Rule.rest_le (sys xs) t p
        have eB : (sys xs).B p = (gs xs p).b.toNat := rfl
        obtain ⟨zr, ezr⟩ : ∃ z : Int, ((Rule.rest (sys xs) t p : Nat) : Int) = z := ⟨_, rfl⟩
        have r1 : 1 ≤ zr := by omega
        have r2 : zr ≤ 1048576 := by omega
        rw [ezr] at c1 HX
        have HP2 : Hid (OO = p + 1) := hp
        have hn32 := HV.out.num
        have o1 : ((OO : Nat) : Int) ≤ 33 := by omega
        clear eOO ho0 hol ene hlt1 hsz hpos hb1 hb2 hle eB ezr hp
        go_upto_region 10 with fail
        clear c1 cf
        generalize w3.setCell ⟨w.heap.size, p, none⟩ (.int .i64 (zr - 1)) = w4 at *
        go_wp2_with (at_builtin; refine wpList_append_own_at _ rfl _ _ 23 rfl w1.heap.size 3 i0 (.int .i64 0) 1 8 Tryz.underlying23 hi hz0 hz1 hz2 rfl (by decide) _ _ _ rfl (HX.out.2.2.1.alloc _) ⟨w4.heap.size, 0, none⟩ 1 1 [.int .i64 (OO : Nat)] rfl rfl (cell_one w4 _ _) (one_one _ _) (by unfold maxLen; omega) (by omega) (by have := HX.out.2.2.2; simp; omega) ?_; intro v9 w10 own10 grow10 _ at10)
        have HN : Hid (Oi w10 w1.heap.size v9 (Rule.occ (sys xs)) (t + 1) ∧ Ir w10 w.heap.size xs.length (aft (sys xs) (t + 1)) ∧ Kept No w w10 ∧ w1.heap.size ≤ w10.heap.size) := by
          have hb : ∀ k, u6.ownBlock = some k → w1.heap.size ≤ k := HOW.out
          have kg : Kept (fun k => u6.ownBlock = some k) w4 w10 := ((Kept.refl _ w4).alloc _).grown grow10 (fun k e => .inl e)
          refine ⟨?_, HX.out.1.kept kg (fun e => by have := hb _ e; have := HLT.out; omega), HX.out.2.1.trans kg (fun k e => .inr (by have := hb _ e; have := HLT.out; omega)), Nat.le_trans HX.out.2.2.2 kg.size⟩
          unfold Oi
          rw [ocL_succ, HOO.out]
          exact own10
        clear own10 grow10 at10
        go_wp2
        go_roundw
        case rel => exact ⟨t + 1, rfl, by go_num, by omega, HN.out⟩
        case measure => simp [intOf]; omega
    · obtain rfl : t = n := by omega
      have hltz : ¬ ((t : Nat) : Int) < (t : Int) := by omega
      have HW : Hid (Oi wr w1.heap.size u6 (Rule.occ (sys xs)) t ∧ Kept No w wr) := ⟨ho, hk⟩
      clear ho hir hk htn
      go_wp2
      go_ret
      refine ⟨_, rfl, ?_, HW.out.2⟩
      have := HW.out.1
      refine ⟨this.1, ?_⟩
      rcases this.2 with h1 | ⟨g, cap, cur, hv, hb', r⟩
      · exact .inl h1
      · exact .inr ⟨g, cap, cur, hv, by omega, r⟩
end Go.Proofs.YtdcfcgmmjobdcaaGreatDoor

namespace Go.Proofs.YtdcfcgmmjobdcaaGreatDoor
open Go.RowKit Plain
set_option linter.unusedVariables false
set_option maxRecDepth 100000

/-- numbers that are read -/
def Io (w : World) (g o m : Nat) (f : Nat → Nat) (a : Nat) : Prop := ∀ i, i < m → w.cell? ⟨g, o + i, none⟩ = some (.int .i64 (f (a + i) : Nat))
theorem Io.kept {w w' : World} {g o m : Nat} {f : Nat → Nat} {a : Nat} {G : Nat → Prop} (h : Io w g o m f a) (k : Kept G w w') (hn : ¬ G g) : Io w' g o m f a := fun i hi => k.cell (h i hi) hn

set_option maxHeartbeats 4000000 in
theorem joined13_any (f : Nat → Nat) (a g o m c : Nat) (w : World) (h : Io w g o m f a) (hg : g < w.heap.size) (hm : m ≤ 2097152) (hmc : m ≤ c) (hc : c ≤ 9223372036854775807) (hf : ∀ t, f t ≤ 32) :
    Calls Tryz.prog 54 #[.slice (some ⟨g, o, none⟩) m c] w fun e w' => ∃ v, e = .returned v ∧ Ow w' w.heap.size v (Rule.runsOf f a m) ∧ Kept No w w' := by
  obtain ⟨i0, hi, hz0, hz1, hz2⟩ := info_parts Tryz.infoSo
  have HI : Hid (Io w g o m f a ∧ g < w.heap.size ∧ ∀ t, f t ≤ 32) := ⟨h, hg, hf⟩
  clear h hg hf
  go_enter Tryz.func54, Tryz.ntmps54
  go_wp2
  go_loopw [3, 4, 5] (fun v x u wr => ∃ k : Nat, x = .int .i64 k ∧ k ≤ m ∧ Ow wr w.heap.size v (Rule.runsOf f a k) ∧ Kept No w wr) (fun _ x _ _ => m - (intOf x).toNat)
  case atStart => exact ⟨0, rfl, Nat.zero_le _, ⟨rfl, .inl ⟨rfl, rfl⟩⟩, Kept.refl _ _⟩
  case round =>
    obtain ⟨k, rfl, hkm, ho, hk⟩ := hrel
    by_cases hlt : k < m
    · have hltz : (k : Int) < (m : Int) := by omega
      have ce := (HI.out.1.kept hk (fun h => h)) k hlt
      have hfk := HI.out.2.2 (a + k)
      have HJ : Hid (Rule.runsOf f a (k + 1) = Rule.joinL (Rule.runsOf f a k) (1, f (a + k))) := rfl
      have hle := Rule.runsOf_le f a k
      have HK : Hid (Kept No w wr) := hk
      clear hk
      generalize hfe : f (a + k) = q at *
      rcases List.eq_nil_or_concat (Rule.runsOf f a k) with e | ⟨K, y, e⟩
      · rw [e] at ho hle
        have HJ2 : Hid (Rule.runsOf f a (k + 1) = [] ++ [(1, q)]) := by show _ = _; rw [HJ.out, e]; rfl
        obtain ⟨va, vc, hvv⟩ : ∃ va vc, u3 = .slice va 0 vc := by
          obtain ⟨aa, cc, ee, _⟩ := ho.sl
          exact ⟨aa, cc, ee⟩
        subst hvv
        have HO : Hid (Ow wr w.heap.size (.slice va 0 vc) []) := ho
        clear ho e HJ hle
        go_upto_region 6 with fail
        go_quiet (fail)
        have HA : Hid (Kept No w (wr.drewN nq) ∧ Ow (wr.drewN nq) w.heap.size (.slice va 0 vc) []) := ⟨HK.out.drewN nq, HO.out⟩
        have HB : Hid (∀ b, (Value.slice va 0 vc).ownBlock = some b → w.heap.size ≤ b) := fun b e => (HO.out.lt b e).1
        have ce2 : (wr.drewN nq).cell? ⟨g, o + k, none⟩ = some (.int .i64 (q : Nat)) := ce
        clear ce HO
        generalize wr.drewN nq = w2 at *
        go_wp2_with (at_builtin; refine wpList_append_own_at _ rfl _ _ 27 rfl w.heap.size 78 i0 (.agg #[.int .i64 0, .int .i64 0]) 2 16 Tryz.underlying27 hi hz0 hz1 hz2 rfl (by decide) _ _ _ rfl (HA.out.2.alloc _) ⟨w2.heap.size, 0, none⟩ 1 1 (slL [(1, q)]) rfl rfl (cell_two w2 1 q _) (slL_one _) (by unfold maxLen; simp; try omega) (by simp; try omega) (by have := HA.out.1.size; simp; omega) ?_; intro v9 w10 own10 grow10 _ at10)
        have HN : Hid (Ow w10 w.heap.size v9 (Rule.runsOf f a (k + 1)) ∧ Kept No w w10) := by
          refine ⟨?_, (HA.out.1.alloc _).grown grow10 (fun b e => .inr (HB.out b e))⟩
          unfold Ow
          rw [HJ2.out, slL_app, List.length_append]
          exact own10
        clear own10 grow10 at10
        go_wp2
        go_roundw
        case rel => exact ⟨k + 1, by go_num, by omega, HN.out⟩
        case measure => simp [intOf]; omega
      · rw [List.concat_eq_append] at e
        rw [e] at ho hle
        have hlK : (K ++ [y]).length = K.length + 1 := by simp
        obtain ⟨gv, cv, hvv, hcv1, hcv2, hpt⟩ := ow_some ho (by simp)
        subst hvv
        rw [hlK] at ho hle hcv1 ⊢
        have HJ2 : Hid (Rule.runsOf f a (k + 1) = if y.2 = q then K ++ [(y.1 + 1, q)] else (K ++ [y]) ++ [(1, q)]) := by show _ = _; rw [HJ.out, e, Rule.joinL_snoc]
        obtain ⟨C0, C1⟩ := ow_cell ho (i := K.length) (x := y) (by simp)
        have HO : Hid (Ow wr w.heap.size (.slice (some ⟨gv, 0, none⟩) (K.length + 1) cv) (K ++ [y]) ∧ w.heap.size ≤ gv) := ⟨ho, hpt.lo⟩
        have HFZ : Hid (wr.frozen? ⟨gv, K.length * 2, none⟩ = false) := by
          obtain ⟨_, ⟨h1, _⟩ | ⟨g', cap', cur, hv, hb', hg, _⟩⟩ := ho
          · cases h1
          · injection hv with e1 _ _
            injection e1 with e1
            injection e1 with e1 _ _
            subst e1
            show World.frozen? wr _ = false
            simp [World.frozen?, hg]
        have hb1 := runs_bound f a k 1 (by omega) (by omega) y (by rw [e]; simp)
        have Kz : (K.length : Int) ≤ 2097152 := by omega
        clear ho e hpt HJ
        by_cases hyq : y.2 = q
        · subst hyq
          rw [if_pos rfl] at HJ2
          have ybd : (y.1 : Int) ≤ 4611686018427387903 := by omega
          have HS1 : Hid (∀ nq, Ow ((wr.drewN nq).setCell ⟨gv, K.length * 2, none⟩ (.int .i64 ((y.1 : Int) + 1))) w.heap.size (.slice (some ⟨gv, 0, none⟩) (K.length + 1) cv) (K ++ [(y.1 + 1, y.2)]) ∧ Kept No w ((wr.drewN nq).setCell ⟨gv, K.length * 2, none⟩ (.int .i64 ((y.1 : Int) + 1)))) := fun nq => by
            have k1 : Kept No w (wr.drewN nq) := HK.out.drewN nq
            have st := ow_set (w := wr.drewN nq) (z := y.1 + 1) (show Ow (wr.drewN nq) w.heap.size (.slice (some ⟨gv, 0, none⟩) (K.length + 1) cv) (K ++ [y]) from HO.out.1)
            exact ⟨st, k1.setCell (.inr HO.out.2) _⟩
          have cf := HFZ.out
          clear hb1
          go_upto_region 6 with fail
          go_quiet (fail)
          go_wp2
          refine ⟨⟨k + 1, by go_num, by omega, ?_, (HS1.out nq).2⟩, by simp [intOf]; omega⟩
          rw [HJ2.out]
          exact (HS1.out nq).1
        · have hyz : ((y.2 : Nat) : Int) ≠ (q : Int) := by omega
          rw [if_neg hyq] at HJ2
          have eb : (((y.2 : Nat) : Int) == (q : Int)) = false := beq_eq_false_iff_ne.2 hyz
          clear hyq hyz hb1 HFZ
          generalize hy2 : ((y.2 : Nat) : Int) = y2 at *
          go_upto_region 6 with fail
          go_quiet (fail)
          have HA : Hid (Kept No w (wr.drewN nq) ∧ Ow (wr.drewN nq) w.heap.size (.slice (some ⟨gv, 0, none⟩) (K.length + 1) cv) (K ++ [y])) := ⟨HK.out.drewN nq, HO.out.1⟩
          have HB : Hid (∀ b, (Value.slice (some ⟨gv, 0, none⟩) (K.length + 1) cv).ownBlock = some b → w.heap.size ≤ b) := fun b e => by
            have e' : some gv = some b := e
            injection e' with e'
            have := HO.out.2
            omega
          have ce2 : (wr.drewN nq).cell? ⟨g, o + k, none⟩ = some (.int .i64 (q : Nat)) := ce
          clear ce C0 C1 HO hy2
          generalize wr.drewN nq = w2 at *
          go_wp2_with (at_builtin; refine wpList_append_own_at _ rfl _ _ 27 rfl w.heap.size 78 i0 (.agg #[.int .i64 0, .int .i64 0]) 2 16 Tryz.underlying27 hi hz0 hz1 hz2 rfl (by decide) _ _ _ rfl (HA.out.2.alloc _) ⟨w2.heap.size, 0, none⟩ 1 1 (slL [(1, q)]) rfl rfl (cell_two w2 1 q _) (slL_one _) (by unfold maxLen; simp; try omega) (by simp; try omega) (by have := HA.out.1.size; simp; omega) ?_; intro v9 w10 own10 grow10 _ at10)
          have HN : Hid (Ow w10 w.heap.size v9 (Rule.runsOf f a (k + 1)) ∧ Kept No w w10) := by
            refine ⟨?_, (HA.out.1.alloc _).grown grow10 (fun b e => .inr (HB.out b e))⟩
            unfold Ow
            rw [HJ2.out, slL_app, List.length_append]
            exact own10
          clear own10 grow10 at10
          go_wp2
          go_roundw
          case rel => exact ⟨k + 1, by go_num, by omega, HN.out⟩
          case measure => simp [intOf]; omega
    · obtain rfl : k = m := by omega
      have hltz : ¬ ((k : Nat) : Int) < (k : Int) := by omega
      have HK : Hid (Ow wr w.heap.size u3 (Rule.runsOf f a k) ∧ Kept No w wr) := ⟨ho, hk⟩
      clear ho hk hkm
      go_wp2
      go_ret
      exact ⟨_, rfl, HK.out⟩
end Go.Proofs.YtdcfcgmmjobdcaaGreatDoor

namespace Go.Proofs.YtdcfcgmmjobdcaaGreatDoor
open Go.RowKit Plain
set_option linter.unusedVariables false
set_option maxRecDepth 100000

theorem oi_some {w : World} {base : Nat} {v : Value} {f : Nat → Nat} {m : Nat} (h : Oi w base v f m) (hm : 0 < m) : ∃ g c, v = .slice (some ⟨g, 0, none⟩) m c ∧ m ≤ c ∧ c ≤ 9223372036854775807 ∧ base ≤ g ∧ g < w.heap.size ∧ ∀ o n, o + n ≤ m → Io w g o n f o := by
  obtain ⟨hl, ⟨_, e0⟩ | ⟨g, cap, cur, rfl, hb, hg, h4, h5, h6⟩⟩ := h
  · omega
  · have hlt := heap_lt hg
    refine ⟨g, cap, rfl, h4, h5, hb, hlt, fun o n hn i hi => ?_⟩
    have q := ocL_get f (m := m) (i := o + i) (by omega)
    rw [← h6.2] at q
    rw [List.getElem?_take_of_lt (by omega), Array.getElem?_toList] at q
    simp [World.cell?, hg, q]

set_option maxHeartbeats 1000000 in
theorem rmake_no {F : Nat → Prop} {a : Option Addr} {c : Nat} {xs : List Srv} {p : Int × Int} (w : World) (h : Sv w F a xs.length c xs) (ht : timF xs xs.length = some p) :
    Calls Tryz.prog 23 #[.slice a xs.length c] w fun e w' => e = .returned (.tuple #[.agg #[.slice none 0 0, .slice none 0 0], .int .i64 p.1]) ∧ Kept No w w' := by
  have ka : Kept No w (w.alloc (.cells #[.slice none 0 0, .slice none 0 0] 29)) := (Kept.refl No w).alloc _
  have hc := rHyper_any F a xs.length c xs _ (h.keep ka)
  have hE : hyE xs xs.length = p.1 := by unfold hyE; rw [ht]
  have hp := tim_ne ht
  rw [hE] at hc
  have HA : Hid (Kept No w (w.alloc (.cells #[.slice none 0 0, .slice none 0 0] 29)) ∧ (w.alloc (.cells #[.slice none 0 0, .slice none 0 0] 29)).heap[w.heap.size]? = some (.cells #[.slice none 0 0, .slice none 0 0] 29)) := ⟨ka, World.alloc_heap_new _ _⟩
  clear h ka ht hE
  generalize hyV xs xs.length = Y at *
  generalize p.1 = E at *
  go_enter Tryz.func23, Tryz.ntmps23
  go_wp2_with (go_at_call 52; refine hc.mono ?_; rintro e w1 ⟨rfl, hk1⟩; have H1 : Hid (Kept No w w1 ∧ w1.heap[w.heap.size]? = some (.cells #[.slice none 0 0, .slice none 0 0] 29)) := ⟨HA.out.1.trans hk1 (fun _ h => h.elim), hk1.at' HA.out.2 (fun h => h)⟩; clear hk1 hc; obtain ⟨t0, t1⟩ := bx2 H1.out.2; have tf : ∀ k, w1.frozen? ⟨w.heap.size, k, none⟩ = false := (fun k => by simp [World.frozen?, H1.out.2]))
  clear t0 t1 tf
  refine bodyPost_ret (results_ct rfl _ _ w.heap.size (.agg #[.slice none 0 0, .slice none 0 0]) rfl (ldT (set2T H1.out.2 _ _))) rfl ?_
  have kx : Kept (fun k => k = w.heap.size) w1 ((w1.setCell ⟨w.heap.size, 0, none⟩ (.slice none 0 0)).setCell ⟨w.heap.size, 1, none⟩ (.slice none 0 0)) := Kept.setCell (F := fun k => k = w.heap.size) (p := ⟨w.heap.size, 1, none⟩) (Kept.setCell (F := fun k => k = w.heap.size) (p := ⟨w.heap.size, 0, none⟩) (Kept.refl _ w1) (.inl rfl) _) (.inl rfl) _
  exact ⟨rfl, H1.out.1.trans kx (fun k e => .inr (by omega))⟩

set_option maxHeartbeats 4000000 in
theorem rmake_yes {F : Nat → Prop} {a : Option Addr} {c : Nat} {xs : List Srv} (w : World) (h : Sv w F a xs.length c xs) (hF : ∀ k, F k → k < w.heap.size) (ht : timF xs xs.length = none) :
    Calls Tryz.prog 23 #[.slice a xs.length c] w fun e w' => ∃ g0 c0 g1 c1, e = .returned (.tuple #[.agg #[.slice (some ⟨g0, 0, none⟩) (Rule.runsOf (Rule.occ (sys xs)) 0 (hyp xs)).length c0, .slice (some ⟨g1, 0, none⟩) (Rule.runsOf (Rule.occ (sys xs)) (hyp xs) (hyp xs)).length c1], .int .i64 0]) ∧ (Rule.runsOf (Rule.occ (sys xs)) 0 (hyp xs)).length ≤ c0 ∧ c0 ≤ 9223372036854775807 ∧ (Rule.runsOf (Rule.occ (sys xs)) (hyp xs) (hyp xs)).length ≤ c1 ∧ c1 ≤ 9223372036854775807 ∧ Pt w' w.heap.size g0 (Rule.runsOf (Rule.occ (sys xs)) 0 (hyp xs)) ∧ Pt w' w.heap.size g1 (Rule.runsOf (Rule.occ (sys xs)) (hyp xs) (hyp xs)) ∧ Kept No w w' := by
  have hv := vd_of ht
  have ka : Kept No w (w.alloc (.cells #[.slice none 0 0, .slice none 0 0] 29)) := (Kept.refl No w).alloc _
  have hc := rHyper_any F a xs.length c xs _ (h.keep ka)
  rw [(tim_yes ht).1, (tim_yes ht).2] at hc
  have HA : Hid (Kept No w (w.alloc (.cells #[.slice none 0 0, .slice none 0 0] 29)) ∧ (w.alloc (.cells #[.slice none 0 0, .slice none 0 0] 29)).heap[w.heap.size]? = some (.cells #[.slice none 0 0, .slice none 0 0] 29)) := ⟨ka, World.alloc_heap_new _ _⟩
  have hH1 := hv.hyp1
  have hH2 := hv.hyp2
  have HO : Hid (∀ W, Kept No w W → Calls Tryz.prog 53 #[.slice a xs.length c, .int .i64 (2 * (hyp xs : Int))] W fun e w' => ∃ g c0, e = .returned (.slice (some ⟨g, 0, none⟩) (2 * hyp xs) c0) ∧ 2 * hyp xs ≤ c0 ∧ c0 ≤ 9223372036854775807 ∧ W.heap.size ≤ g ∧ g < w'.heap.size ∧ Io w' g 0 (hyp xs) (Rule.occ (sys xs)) 0 ∧ Io w' g (hyp xs) (hyp xs) (Rule.occ (sys xs)) (hyp xs) ∧ Kept No W w') := fun W k => by
    have := occs_any hv W (h.keep k) (fun j hj => Nat.lt_of_lt_of_le (hF j hj) k.size) (2 * hyp xs) (by omega)
    rw [show ((2 * hyp xs : Nat) : Int) = 2 * (hyp xs : Int) by omega] at this
    refine this.mono ?_
    rintro e w' ⟨v, rfl, ho, hk⟩
    obtain ⟨g, c0, rfl, q1, q2, q3, q4, q5⟩ := oi_some ho (by omega)
    exact ⟨g, c0, rfl, q1, q2, q3, q4, q5 0 _ (by omega), q5 _ _ (by omega), hk⟩
  have HJ : Hid (∀ (a0 g o cc : Nat) (W : World), Io W g o (hyp xs) (Rule.occ (sys xs)) a0 → g < W.heap.size → hyp xs ≤ cc → cc ≤ 9223372036854775807 → Calls Tryz.prog 54 #[.slice (some ⟨g, o, none⟩) (hyp xs) cc] W fun e w' => ∃ g9 c9, e = .returned (.slice (some ⟨g9, 0, none⟩) (Rule.runsOf (Rule.occ (sys xs)) a0 (hyp xs)).length c9) ∧ (Rule.runsOf (Rule.occ (sys xs)) a0 (hyp xs)).length ≤ c9 ∧ c9 ≤ 9223372036854775807 ∧ Pt w' W.heap.size g9 (Rule.runsOf (Rule.occ (sys xs)) a0 (hyp xs)) ∧ Kept No W w') := fun a0 g o cc W h1 h2 h3 h4 => by
    refine (joined13_any _ a0 g o _ cc W h1 h2 (by omega) h3 h4 (fun t => by
      have := Rule.occ_le (sys xs) t
      have := hv.num
      have e : (sys xs).n = xs.length := rfl
      omega)).mono ?_
    rintro e w' ⟨v, rfl, ho, hk⟩
    obtain ⟨g9, c9, rfl, q1, q2, q3⟩ := ow_some ho (Rule.runsOf_pos _ a0 hH1)
    exact ⟨g9, c9, rfl, q1, q2, q3, hk⟩
  clear h hF ka hv ht
  generalize Rule.occ (sys xs) = f at *
  generalize hyp xs = H at *
  have hH3 : (H : Int) ≤ 1048576 := by omega
  have hH4 : 1 ≤ (H : Int) := by omega
  go_enter Tryz.func23, Tryz.ntmps23
  go_upto_region 4 with (go_at_call 52; refine hc.mono ?_; rintro e w1 ⟨rfl, hk1⟩; have H1 : Hid (Kept No w w1 ∧ w1.heap[w.heap.size]? = some (.cells #[.slice none 0 0, .slice none 0 0] 29)) := ⟨HA.out.1.trans hk1 (fun _ h => h.elim), hk1.at' HA.out.2 (fun h => h)⟩; clear hk1 hc)
  have o1 := HO.out w1 H1.out.1
  go_upto_region 5 with (go_at_call 53; refine o1.mono ?_; rintro e w2 ⟨g, c0, rfl, q1, q2, q3, q4, q5, q6, hk2⟩; have H2 : Hid (g < w2.heap.size ∧ Io w2 g 0 H f 0 ∧ Io w2 g H H f H ∧ Kept No w w2 ∧ w2.heap[w.heap.size]? = some (.cells #[.slice none 0 0, .slice none 0 0] 29) ∧ 2 * H ≤ c0 ∧ c0 ≤ 9223372036854775807) := ⟨q4, q5, q6, H1.out.1.trans hk2 (fun _ h => h.elim), hk2.at' H1.out.2 (fun h => h), q1, q2⟩; clear hk2 o1 q3 q4 q5 q6)
  have z1 : (H : Int) ≤ ((2 * H : Nat) : Int) := by omega
  have z2 : (2 * (H : Int)) ≤ (c0 : Int) := by omega
  have z3 : (H : Int) ≤ (c0 : Int) := by omega
  obtain ⟨d0, d1⟩ := bx2 H2.out.2.2.2.2.1
  have kd : Kept No w w2.drew := H2.out.2.2.2.1.drew
  have HD : Hid (w2.drew.heap[w.heap.size]? = some (.cells #[.slice none 0 0, .slice none 0 0] 29)) := H2.out.2.2.2.2.1
  have j1 := HJ.out 0 g 0 c0 w2.drew H2.out.2.1 H2.out.1 (by omega) (by omega)
  have J2 : Hid (∀ W, Kept No w2.drew W → Calls Tryz.prog 54 #[.slice (some ⟨g, H, none⟩) H (c0 - H)] W fun e w' => ∃ g9 c9, e = .returned (.slice (some ⟨g9, 0, none⟩) (Rule.runsOf f H H).length c9) ∧ (Rule.runsOf f H H).length ≤ c9 ∧ c9 ≤ 9223372036854775807 ∧ Pt w' W.heap.size g9 (Rule.runsOf f H H) ∧ Kept No W w') := fun W k => HJ.out H g H (c0 - H) W (Io.kept (G := No) (w := w2.drew) H2.out.2.2.1 k (fun h => h)) (Nat.lt_of_lt_of_le H2.out.1 k.size) (by omega) (by omega)
  have e2 : 2 * H - H = H := by omega
  go_region_held (fun w' => True) (go_keep) (first
      | (go_at_call 54; refine j1.mono ?_; rintro e w3 ⟨g3, c3, rfl, r1, r2, ho3, hk3⟩; have H3 : Hid (Pt w3 w2.heap.size g3 (Rule.runsOf f 0 H) ∧ Kept No w w3 ∧ w3.heap[w.heap.size]? = some (.cells #[.slice none 0 0, .slice none 0 0] 29)) := ⟨ho3, kd.trans hk3 (fun _ h => h.elim), hk3.at' HD.out (fun h => h)⟩; have j2 := J2.out w3 hk3; clear ho3 hk3 j1)
      | (go_at_call 54; refine j2.mono ?_; rintro e w4 ⟨g4, c4, rfl, r3, r4, ho4, hk4⟩; have H4 : Hid (Pt w4 w2.heap.size g3 (Rule.runsOf f 0 H) ∧ Pt w4 w3.heap.size g4 (Rule.runsOf f H H) ∧ Kept No w w4 ∧ w4.heap[w.heap.size]? = some (.cells #[.slice none 0 0, .slice none 0 0] 29) ∧ w3.heap.size ≤ w4.heap.size) := ⟨H3.out.1.kept hk4 (fun h => h), ho4, H3.out.2.1.trans hk4 (fun _ h => h.elim), hk4.at' H3.out.2.2 (fun h => h), hk4.size⟩; clear ho4 hk4 j2 d0 d1; obtain ⟨d0, d1⟩ := bx2 H4.out.2.2.2.1; have tf : ∀ k, w4.frozen? ⟨w.heap.size, k, none⟩ = false := (fun k => by simp [World.frozen?, H4.out.2.2.2.1])))
  all_goals (try go_wp2)
  all_goals (
    clear d0 d1 tf
    refine bodyPost_ret (results_ct rfl _ _ w.heap.size (.agg #[.slice (some ⟨g3, 0, none⟩) (Rule.runsOf f 0 H).length c3, .slice (some ⟨g4, 0, none⟩) (Rule.runsOf f H H).length c4]) rfl (ldT (set2T H4.out.2.2.2.1 _ _))) rfl ?_
    have kx : Kept (fun k => k = w.heap.size) w4 ((w4.setCell ⟨w.heap.size, 0, none⟩ (.slice (some ⟨g3, 0, none⟩) (Rule.runsOf f 0 H).length c3)).setCell ⟨w.heap.size, 1, none⟩ (.slice (some ⟨g4, 0, none⟩) (Rule.runsOf f H H).length c4)) := Kept.setCell (F := fun k => k = w.heap.size) (p := ⟨w.heap.size, 1, none⟩) (Kept.setCell (F := fun k => k = w.heap.size) (p := ⟨w.heap.size, 0, none⟩) (Kept.refl _ w4) (.inl rfl) _) (.inl rfl) _
    have z2 := heap_lt H2.out.2.2.2.2.1
    have z3 := heap_lt H3.out.2.2
    have y0 := H4.out.1.lo
    have y1 := H4.out.2.1.lo
    have mono : ∀ {W : World} {b g : Nat} {L : List (Nat × Nat)}, w.heap.size ≤ b → Pt W b g L → Pt W w.heap.size g L := fun hb h => by
      obtain ⟨⟨c, h1⟩, h2, h3⟩ := h
      exact ⟨⟨c, ow_base h1 hb⟩, by omega, h3⟩
    exact ⟨g3, c3, g4, c4, rfl, r1, r2, r3, r4, mono (by omega) (H4.out.1.kept kx (fun e => by omega)), mono (by omega) (H4.out.2.1.kept kx (fun e => by omega)), H4.out.2.2.1.trans kx (fun k e => .inr (by omega))⟩)
end Go.Proofs.YtdcfcgmmjobdcaaGreatDoor
