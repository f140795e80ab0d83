/-
  port: find, Own, queuing, fits, isTick, Count.
-/
import Derived.Test.YthebokkogeigoaaPCopy
namespace Go.Proofs.Ythebokkogeigoaa
open Go.RowKit
set_option linter.unusedVariables false
set_option maxRecDepth 100000
set_option maxHeartbeats 400000

section
variable {B b mb c : Nat} {S : Pd}
theorem find_any (w : World) (h : Pt w B b mb c S) {x : Int} (hx : I6 x) : Calls Try.prog 29 #[.pointer (some ⟨b, 0, none⟩), .int .i64 x] w fun e w' => e = .returned (ptV ((S.idx x).map (fun i => (S.en i).eb))) ∧ w' = w := by
  obtain ⟨c0, _⟩ := h.cells
  have hl := h.map.look hx
  clear h hx
  generalize ptV (Option.map (fun i => (S.en i).eb) (S.idx x)) = v at *
  go_enter Try.func29, Try.ntmps29
  go_wp2
  go_ret
  exact ⟨rfl, rfl⟩
theorem find_no (w : World) (h : Pt w B b mb c S) {x : Int} (hx : I6 x) (hn : S.idx x = none) : Calls Try.prog 29 #[.pointer (some ⟨b, 0, none⟩), .int .i64 x] w fun e w' => e = .returned (.pointer none) ∧ w' = w := by
  have := find_any w h hx
  rw [hn] at this
  exact this
theorem find_yes (w : World) (h : Pt w B b mb c S) {x : Int} (hx : I6 x) {i : Nat} (hn : S.idx x = some i) : Calls Try.prog 29 #[.pointer (some ⟨b, 0, none⟩), .int .i64 x] w fun e w' => e = .returned (.pointer (some ⟨(S.en i).eb, 0, none⟩)) ∧ w' = w := by
  have := find_any w h hx
  rw [hn] at this
  exact this
/-- Own, as it is answered -/
def Pd.ownB (S : Pd) (x k : Int) (o : Bool) : Bool := match S.idx x with
  | none => false
  | some i => ((S.en i).kd == k) && ((S.en i).out == o)
theorem own_any (w : World) (h : Pt w B b mb c S) {x : Int} (hx : I6 x) (k : Int) (o : Bool) : Calls Try.prog 28 #[.pointer (some ⟨b, 0, none⟩), .int .i64 x, .int .i64 k, .bool o] w fun e w' => e = .returned (.bool (S.ownB x k o)) ∧ w' = w := by
  cases hi : S.idx x with
  | none =>
    have fi := find_no w h hx hi
    have e0 : S.ownB x k o = false := by unfold Pd.ownB; rw [hi]
    rw [e0]
    clear h hx hi e0
    go_enter Try.func28, Try.ntmps28
    go_wp2_with (go_at_call 29; refine fi.mono ?_; rintro e w1 ⟨rfl, hw⟩; obtain rfl := hw.symm)
    go_ret
    exact ⟨rfl, rfl⟩
  | some i =>
    have fi := find_yes w h hx hi
    obtain ⟨h1, h2, h3⟩ := Pd.idx_some hi
    clear h3
    have hE := h.ends i h1 h2
    have c1 : w.cell? ⟨(S.en i).eb, 1, none⟩ = some (.int .i64 (S.en i).kd) := (hE.cell 1).trans rfl
    have c2 : w.cell? ⟨(S.en i).eb, 2, none⟩ = some (.bool (S.en i).out) := (hE.cell 2).trans rfl
    have e0 : S.ownB x k o = (((S.en i).kd == k) && ((S.en i).out == o)) := by unfold Pd.ownB; rw [hi]
    rw [e0]
    clear h hx hi e0 hE h1 h2
    generalize (S.en i).kd = kd at *
    generalize (S.en i).out = ou at *
    generalize (S.en i).eb = eb at *
    cases hk : (kd == k) with
    | false =>
      go_enter Try.func28, Try.ntmps28
      go_wp2_with (go_at_call 29; refine fi.mono ?_; rintro e w1 ⟨rfl, hw⟩; obtain rfl := hw.symm)
      go_ret
      exact ⟨rfl, rfl⟩
    | true =>
      go_enter Try.func28, Try.ntmps28
      go_wp2_with (go_at_call 29; refine fi.mono ?_; rintro e w1 ⟨rfl, hw⟩; obtain rfl := hw.symm)
      go_ret
      exact ⟨by simp, rfl⟩
def Pd.queB (S : Pd) (x : Int) : Bool := match S.idx x with
  | none => false
  | some i => (S.en i).kd == 1
theorem Pd.queB_or (S : Pd) (x : Int) : S.queB x = (S.ownB x 1 false || S.ownB x 1 true) := by
  unfold Pd.queB Pd.ownB
  cases S.idx x with
  | none => rfl
  | some i =>
    cases h : ((S.en i).kd == 1) <;> cases h2 : (S.en i).out <;> simp [h, h2]
theorem queuing_any (w : World) (h : Pt w B b mb c S) {x : Int} (hx : I6 x) : Calls Try.prog 33 #[.pointer (some ⟨b, 0, none⟩), .int .i64 x] w fun e w' => e = .returned (.bool (S.queB x)) ∧ w' = w := by
  have o1 := own_any w h hx 1 false
  have o2 := own_any w h hx 1 true
  rw [S.queB_or]
  clear h hx
  generalize S.ownB x 1 true = u2 at *
  generalize S.ownB x 1 false = u1 at *
  cases u1 with
  | true =>
    go_enter Try.func33, Try.ntmps33
    go_wp2_with (go_at_call 28; refine o1.mono ?_; rintro e w1 ⟨rfl, hw⟩; obtain rfl := hw.symm)
    go_ret
    exact ⟨rfl, rfl⟩
  | false =>
    go_enter Try.func33, Try.ntmps33
    go_wp2_with (first
      | (go_at_call 28; refine o1.mono ?_; rintro e w1 ⟨rfl, hw⟩; obtain rfl := hw.symm; clear o1)
      | (go_at_call 28; refine o2.mono ?_; rintro e w1 ⟨rfl, hw⟩; obtain rfl := hw.symm))
    go_ret
    exact ⟨by simp, rfl⟩
end
section
variable {B : Nat} {e : En}
theorem fits_any (w : World) (h : Ep w B e) (da : Option Addr) (dn dc : Nat) : Calls Try.prog 32 #[.pointer (some ⟨e.eb, 0, none⟩), .slice da dn dc] w fun r w' => r = .returned (.bool ((dn : Int) == e.sz)) ∧ w' = w := by
  have c3 : w.cell? ⟨e.eb, 3, none⟩ = some (.int .i64 e.sz) := (h.cell 3).trans rfl
  clear h
  generalize e.sz = z at *
  generalize e.eb = eb at *
  go_enter Try.func32, Try.ntmps32
  go_wp2
  go_ret
  exact ⟨rfl, rfl⟩
end
def tickB (x : Int) : Bool := decide (0 ≤ x) && decide (x < 1099511627776)
theorem isTick_any (w : World) (x : Int) : Calls Try.prog 30 #[.int .i64 x] w fun r w' => r = .returned (.bool (tickB x)) ∧ w' = w := by
  unfold tickB
  by_cases h : 0 ≤ x
  · rw [show decide (0 ≤ x) = true by simp [h], Bool.true_and]
    go_enter Try.func30, Try.ntmps30
    go_wp2
    go_ret
    exact ⟨rfl, rfl⟩
  · rw [show decide (0 ≤ x) = false by simp [h], Bool.false_and]
    go_enter Try.func30, Try.ntmps30
    go_wp2
    go_ret
    exact ⟨rfl, rfl⟩
section
variable {B b mb c : Nat} {S : Pd}
theorem count_no (w : World) (h : Pt w B b mb c S) {x : Int} (hx : I6 x) (hn : S.idx x = none) : Calls Try.prog 17 #[.pointer (some ⟨b, 0, none⟩), .int .i64 x] w fun e w' => e = .returned (.tuple #[.int .i64 0, .int .i64 0, .int .i64 107]) ∧ Kept No w w' := by
  have fi := find_no w h hx hn
  clear h hx hn
  go_enter Try.func17, Try.ntmps17
  go_wp2_with (go_at_call 29; refine fi.mono ?_; rintro e w1 ⟨rfl, hw⟩; obtain rfl := hw.symm)
  go_ret3
  exact ⟨rfl, Kept.refl No w⟩
def En.cnt (e : En) : Int := if e.has = true then 1 else (e.ms.length : Int)
theorem count_yes (w : World) (h : Pt w B b mb c S) {x : Int} (hx : I6 x) {i : Nat} (hn : S.idx x = some i) : Calls Try.prog 17 #[.pointer (some ⟨b, 0, none⟩), .int .i64 x] w fun e w' => e = .returned (.tuple #[.int .i64 (S.en i).cnt, .int .i64 (S.en i).lost, .int .i64 0]) ∧ Kept No w w' := by
  have fi := find_yes w h hx hn
  obtain ⟨h1, h2, h3⟩ := Pd.idx_some hn
  clear h3
  have hE := h.ends i h1 h2
  clear h hx hn h1 h2
  generalize S.en i = d at *
  obtain ⟨ia, ic, hia, hc1, hc2⟩ := hE.que.shape
  have c6 : w.cell? ⟨d.eb, 6, none⟩ = some (.slice ia d.ms.length ic) := (hE.cell 6).trans (by show some d.it = _; rw [hia])
  have c7 : w.cell? ⟨d.eb, 7, none⟩ = some (.bool d.has) := (hE.cell 7).trans rfl
  have c10 : w.cell? ⟨d.eb, 10, none⟩ = some (.int .i64 d.lost) := (hE.cell 10).trans rfl
  unfold En.cnt
  clear hE hia
  generalize d.ms.length = n at *
  generalize d.lost = lo at *
  generalize d.eb = eb at *
  cases hh : d.has with
  | true =>
    rw [hh] at c7
    rw [if_pos rfl]
    go_enter Try.func17, Try.ntmps17
    go_upto_region 5 with (go_at_call 29; refine fi.mono ?_; rintro e w1 ⟨rfl, hw⟩; obtain rfl := hw.symm)
    go_region
    go_wp2
    go_ret3
    exact ⟨rfl, (Kept.refl No w).drew⟩
  | false =>
    rw [hh] at c7
    rw [if_neg (by decide)]
    go_enter Try.func17, Try.ntmps17
    go_upto_region 6 with (go_at_call 29; refine fi.mono ?_; rintro e w1 ⟨rfl, hw⟩; obtain rfl := hw.symm)
    go_region
    go_wp2
    go_ret3
    exact ⟨rfl, (Kept.refl No w).drew⟩
end
end Go.Proofs.Ythebokkogeigoaa
