/-
  known.
-/
import Derived.Test.YtfjaajjljmbmbaaGreatDoorCPts
import Derived.Test.YtfjaajjljmbmbaaGreatDoorCLeast
import Derived.Test.YtfjaajjljmbmbaaGreatDoorCSame
namespace Go.Proofs.YtfjaajjljmbmbaaGreatDoor
open Go.RowKit Plain
set_option linter.unusedVariables false
set_option maxRecDepth 100000

def KnownY : Prop := ∀ w : World, Calls Tryz.prog 4 #[] w fun e w' => e = .returned (.bool true) ∧ Kept No w w'
def knP : List Po := [⟨2, 0, true, 0, 0, 0⟩, ⟨3, 0, false, 0, 0, 0⟩]
def knC : List Ch := [⟨1, 1, [2], 3, 10⟩]
theorem kn_due1 : dueB 1 1 3 10 13 = true := by decide
theorem kn_due2 : dueB 1 1 3 10 12 = false := by decide
theorem kn_next : nxtV 1 1 3 10 4 = 13 := by decide
theorem kn_from : leastN (fun c => numB 1 c.fr) knC = 1 := by decide
theorem kn_to : leastN (fun c => c.dst.any (numB 2)) knC = 1 := by decide
theorem kn_part : partV knP 1 = 2 := by decide
theorem kn_parts : partsL knP [2] = [3] := by
  have e : toL knP [2] = [3] := by decide
  unfold partsL
  rw [e]
  unfold sortL
  rw [List.mergeSort_singleton]
  exact Lib.compact_all [3] (fun j hj => by
    have h0 : j = 0 := by simp at hj; omega
    subst h0
    rfl)

/-- what known has laid -/
structure Kn (w W : World) (b : Nat) : Prop where
  k : Kept No w W
  c1 : W.heap[b + 1]? = some (.cells #[.int .i64 1, .int .i64 1, .slice (some ⟨b, 0, none⟩) 1 1, .int .i64 3, .int .i64 10] 39)
  c4 : W.heap[b + 1 + 1 + 1 + 1]? = some (.cells #[.slice none 0 0, .slice (some ⟨b + 1 + 1, 0, none⟩) 2 2, .slice (some ⟨b + 1 + 1 + 1, 0, none⟩) 1 1] 26)
  qs : Ls 6 elPo W (fun _ => True) (some ⟨b + 1 + 1, 0, none⟩) 2 2 knP
  cs : Ls 5 elCh W (fun _ => True) (some ⟨b + 1 + 1 + 1, 0, none⟩) 1 1 knC
theorem Kn.on {w W W' : World} {b : Nat} (h : Kn w W b) (k : Kept No W W') : Kn w W' b :=
  ⟨h.k.trans k (fun _ h => .inl h), k.at' h.c1 (fun h => h), k.at' h.c4 (fun h => h), h.qs.kept k (fun _ _ h => h) (elPo_kept k (fun _ _ h => h)), h.cs.kept k (fun _ _ h => h) (elCh_kept k (fun _ _ h => h))⟩

theorem kn_start {w W : World} {b : Nat} (k : Kept No w W) (h0 : W.heap[b]? = some (.cells #[.int .i64 2] 3))
    (c1 : W.heap[b + 1]? = some (.cells #[.int .i64 1, .int .i64 1, .slice (some ⟨b, 0, none⟩) 1 1, .int .i64 3, .int .i64 10] 39))
    (h2 : W.heap[b + 1 + 1]? = some (.cells #[.int .i64 2, .int .i64 0, .bool true, .int .i64 0, .int .i64 0, .int .i64 0, .int .i64 3, .int .i64 0, .bool false, .int .i64 0, .int .i64 0, .int .i64 0] 42))
    (h3 : W.heap[b + 1 + 1 + 1]? = some (.cells #[.int .i64 1, .int .i64 1, .slice (some ⟨b, 0, none⟩) 1 1, .int .i64 3, .int .i64 10] 39))
    (c4 : W.heap[b + 1 + 1 + 1 + 1]? = some (.cells #[.slice none 0 0, .slice (some ⟨b + 1 + 1, 0, none⟩) 2 2, .slice (some ⟨b + 1 + 1 + 1, 0, none⟩) 1 1] 26)) : Kn w W b := by
  have i6 : ∀ n : Nat, n ≤ 100 → I6 (n : Int) := fun n hn => by unfold I6; omega
  have z : I6 0 := by unfold I6; omega
  have o2 : I6 2 := by unfold I6; omega
  have o3 : I6 3 := by unfold I6; omega
  have o1 : I6 1 := by unfold I6; omega
  have o10 : I6 10 := by unfold I6; omega
  refine ⟨k, c1, c4, ⟨rfl, by omega, by omega, fun h => (by cases h), fun i x hx => ?_⟩, ⟨rfl, by omega, by omega, fun h => (by cases h), fun i x hx => ?_⟩⟩
  · have hi : i < 2 := (List.getElem?_eq_some_iff.1 hx).1
    rcases (show i = 0 ∨ i = 1 by omega) with rfl | rfl
    · have e : x = ⟨2, 0, true, 0, 0, 0⟩ := by simpa [knP] using hx.symm
      subst e
      refine ⟨b + 1 + 1, 0, [.int .i64 2, .int .i64 0, .bool true, .int .i64 0, .int .i64 0, .int .i64 0], rfl, trivial, rfl, fun j u hj => ?_, rfl, o2, z, trivial, z, z, z⟩
      have hjl : j < 6 := (List.getElem?_eq_some_iff.1 hj).1
      rw [cell_blk h2]
      rcases (show j = 0 ∨ j = 1 ∨ j = 2 ∨ j = 3 ∨ j = 4 ∨ j = 5 by omega) with rfl | rfl | rfl | rfl | rfl | rfl <;> exact hj
    · have e : x = ⟨3, 0, false, 0, 0, 0⟩ := by simpa [knP] using hx.symm
      subst e
      refine ⟨b + 1 + 1, 0, [.int .i64 3, .int .i64 0, .bool false, .int .i64 0, .int .i64 0, .int .i64 0], rfl, trivial, rfl, fun j u hj => ?_, rfl, o3, z, trivial, z, z, z⟩
      have hjl : j < 6 := (List.getElem?_eq_some_iff.1 hj).1
      rw [cell_blk h2]
      rcases (show j = 0 ∨ j = 1 ∨ j = 2 ∨ j = 3 ∨ j = 4 ∨ j = 5 by omega) with rfl | rfl | rfl | rfl | rfl | rfl <;> exact hj
  · have hi : i < 1 := (List.getElem?_eq_some_iff.1 hx).1
    obtain rfl : i = 0 := by omega
    have e : x = ⟨1, 1, [2], 3, 10⟩ := by simpa [knC] using hx.symm
    subst e
    refine ⟨b + 1 + 1 + 1, 0, [.int .i64 1, .int .i64 1, .slice (some ⟨b, 0, none⟩) 1 1, .int .i64 3, .int .i64 10], rfl, trivial, rfl, fun j u hj => ?_, ⟨some ⟨b, 0, none⟩, 1, 1, rfl, ⟨rfl, by omega, by omega, fun h => (by cases h), fun j y hy => ?_⟩⟩, o1, o1, fun y hy => ?_, o3, o10⟩
    · have hjl : j < 5 := (List.getElem?_eq_some_iff.1 hj).1
      rw [cell_blk h3]
      rcases (show j = 0 ∨ j = 1 ∨ j = 2 ∨ j = 3 ∨ j = 4 by omega) with rfl | rfl | rfl | rfl | rfl <;> exact hj
    · have hjl : j < 1 := (List.getElem?_eq_some_iff.1 hy).1
      obtain rfl : j = 0 := by omega
      have e : y = 2 := by simpa using hy.symm
      subst e
      refine ⟨b, 0, [.int .i64 2], rfl, trivial, rfl, fun i u hu => ?_, rfl, o2⟩
      have hil : i < 1 := (List.getElem?_eq_some_iff.1 hu).1
      obtain rfl : i = 0 := by omega
      rw [cell_blk h0]
      exact hu
    · have : y = 2 := by simpa using hy
      rw [this]; exact o2

theorem zs_new (w : World) (x : Int) : Zs (w.alloc (.cells #[.int .i64 x] 3)) (fun _ => True) (some ⟨w.heap.size, 0, none⟩) 1 1 [x] :=
  ⟨rfl, by omega, by omega, fun h => (by cases h), fun i hi => ⟨w.heap.size, 0, rfl, trivial, by
    obtain rfl : i = 0 := by omega
    exact one (alloc_new w _)⟩⟩

set_option maxHeartbeats 8000000 in
theorem known_yes : KnownY := by
  intro w
  go_enter Tryz.func4, Tryz.ntmps4
  go_upto_region 3 with fail
  have K0 : Hid (Kn w (((((w.alloc (.cells #[.int .i64 2] 3)).alloc (.cells #[.int .i64 1, .int .i64 1, .slice (some ⟨w.heap.size, 0, none⟩) 1 1, .int .i64 3, .int .i64 10] 39)).alloc (.cells #[.int .i64 2, .int .i64 0, .bool true, .int .i64 0, .int .i64 0, .int .i64 0, .int .i64 3, .int .i64 0, .bool false, .int .i64 0, .int .i64 0, .int .i64 0] 42)).alloc (.cells #[.int .i64 1, .int .i64 1, .slice (some ⟨w.heap.size, 0, none⟩) 1 1, .int .i64 3, .int .i64 10] 39)).alloc (.cells #[.slice none 0 0, .slice (some ⟨w.heap.size + 1 + 1, 0, none⟩) 2 2, .slice (some ⟨w.heap.size + 1 + 1 + 1, 0, none⟩) 1 1] 26)) w.heap.size) := by
    have k1 : Kept No w (w.alloc (.cells #[.int .i64 2] 3)) := (Kept.refl No w).alloc _
    have k2 : Kept No (w.alloc (.cells #[.int .i64 2] 3)) ((w.alloc (.cells #[.int .i64 2] 3)).alloc (.cells #[.int .i64 1, .int .i64 1, .slice (some ⟨w.heap.size, 0, none⟩) 1 1, .int .i64 3, .int .i64 10] 39)) := (Kept.refl No _).alloc _
    have k3 : Kept No ((w.alloc (.cells #[.int .i64 2] 3)).alloc (.cells #[.int .i64 1, .int .i64 1, .slice (some ⟨w.heap.size, 0, none⟩) 1 1, .int .i64 3, .int .i64 10] 39)) (((w.alloc (.cells #[.int .i64 2] 3)).alloc (.cells #[.int .i64 1, .int .i64 1, .slice (some ⟨w.heap.size, 0, none⟩) 1 1, .int .i64 3, .int .i64 10] 39)).alloc (.cells #[.int .i64 2, .int .i64 0, .bool true, .int .i64 0, .int .i64 0, .int .i64 0, .int .i64 3, .int .i64 0, .bool false, .int .i64 0, .int .i64 0, .int .i64 0] 42)) := (Kept.refl No _).alloc _
    have k4 : Kept No (((w.alloc (.cells #[.int .i64 2] 3)).alloc (.cells #[.int .i64 1, .int .i64 1, .slice (some ⟨w.heap.size, 0, none⟩) 1 1, .int .i64 3, .int .i64 10] 39)).alloc (.cells #[.int .i64 2, .int .i64 0, .bool true, .int .i64 0, .int .i64 0, .int .i64 0, .int .i64 3, .int .i64 0, .bool false, .int .i64 0, .int .i64 0, .int .i64 0] 42)) ((((w.alloc (.cells #[.int .i64 2] 3)).alloc (.cells #[.int .i64 1, .int .i64 1, .slice (some ⟨w.heap.size, 0, none⟩) 1 1, .int .i64 3, .int .i64 10] 39)).alloc (.cells #[.int .i64 2, .int .i64 0, .bool true, .int .i64 0, .int .i64 0, .int .i64 0, .int .i64 3, .int .i64 0, .bool false, .int .i64 0, .int .i64 0, .int .i64 0] 42)).alloc (.cells #[.int .i64 1, .int .i64 1, .slice (some ⟨w.heap.size, 0, none⟩) 1 1, .int .i64 3, .int .i64 10] 39)) := (Kept.refl No _).alloc _
    have k5 : Kept No ((((w.alloc (.cells #[.int .i64 2] 3)).alloc (.cells #[.int .i64 1, .int .i64 1, .slice (some ⟨w.heap.size, 0, none⟩) 1 1, .int .i64 3, .int .i64 10] 39)).alloc (.cells #[.int .i64 2, .int .i64 0, .bool true, .int .i64 0, .int .i64 0, .int .i64 0, .int .i64 3, .int .i64 0, .bool false, .int .i64 0, .int .i64 0, .int .i64 0] 42)).alloc (.cells #[.int .i64 1, .int .i64 1, .slice (some ⟨w.heap.size, 0, none⟩) 1 1, .int .i64 3, .int .i64 10] 39)) (((((w.alloc (.cells #[.int .i64 2] 3)).alloc (.cells #[.int .i64 1, .int .i64 1, .slice (some ⟨w.heap.size, 0, none⟩) 1 1, .int .i64 3, .int .i64 10] 39)).alloc (.cells #[.int .i64 2, .int .i64 0, .bool true, .int .i64 0, .int .i64 0, .int .i64 0, .int .i64 3, .int .i64 0, .bool false, .int .i64 0, .int .i64 0, .int .i64 0] 42)).alloc (.cells #[.int .i64 1, .int .i64 1, .slice (some ⟨w.heap.size, 0, none⟩) 1 1, .int .i64 3, .int .i64 10] 39)).alloc (.cells #[.slice none 0 0, .slice (some ⟨w.heap.size + 1 + 1, 0, none⟩) 2 2, .slice (some ⟨w.heap.size + 1 + 1 + 1, 0, none⟩) 1 1] 26)) := (Kept.refl No _).alloc _
    have e1 := alloc_new w (.cells #[.int .i64 2] 3)
    have e2 := alloc_new (w.alloc (.cells #[.int .i64 2] 3)) (.cells #[.int .i64 1, .int .i64 1, .slice (some ⟨w.heap.size, 0, none⟩) 1 1, .int .i64 3, .int .i64 10] 39)
    have e3 := alloc_new ((w.alloc (.cells #[.int .i64 2] 3)).alloc (.cells #[.int .i64 1, .int .i64 1, .slice (some ⟨w.heap.size, 0, none⟩) 1 1, .int .i64 3, .int .i64 10] 39)) (.cells #[.int .i64 2, .int .i64 0, .bool true, .int .i64 0, .int .i64 0, .int .i64 0, .int .i64 3, .int .i64 0, .bool false, .int .i64 0, .int .i64 0, .int .i64 0] 42)
    have e4 := alloc_new (((w.alloc (.cells #[.int .i64 2] 3)).alloc (.cells #[.int .i64 1, .int .i64 1, .slice (some ⟨w.heap.size, 0, none⟩) 1 1, .int .i64 3, .int .i64 10] 39)).alloc (.cells #[.int .i64 2, .int .i64 0, .bool true, .int .i64 0, .int .i64 0, .int .i64 0, .int .i64 3, .int .i64 0, .bool false, .int .i64 0, .int .i64 0, .int .i64 0] 42)) (.cells #[.int .i64 1, .int .i64 1, .slice (some ⟨w.heap.size, 0, none⟩) 1 1, .int .i64 3, .int .i64 10] 39)
    have e5 := alloc_new ((((w.alloc (.cells #[.int .i64 2] 3)).alloc (.cells #[.int .i64 1, .int .i64 1, .slice (some ⟨w.heap.size, 0, none⟩) 1 1, .int .i64 3, .int .i64 10] 39)).alloc (.cells #[.int .i64 2, .int .i64 0, .bool true, .int .i64 0, .int .i64 0, .int .i64 0, .int .i64 3, .int .i64 0, .bool false, .int .i64 0, .int .i64 0, .int .i64 0] 42)).alloc (.cells #[.int .i64 1, .int .i64 1, .slice (some ⟨w.heap.size, 0, none⟩) 1 1, .int .i64 3, .int .i64 10] 39)) (.cells #[.slice none 0 0, .slice (some ⟨w.heap.size + 1 + 1, 0, none⟩) 2 2, .slice (some ⟨w.heap.size + 1 + 1 + 1, 0, none⟩) 1 1] 26)
    simp only [World.size_alloc] at e2 e3 e4 e5
    have k45 := k4.trans k5 (fun _ h => .inl h)
    have k345 := k3.trans k45 (fun _ h => .inl h)
    have k2345 := k2.trans k345 (fun _ h => .inl h)
    exact kn_start (k1.trans k2345 (fun _ h => .inl h)) (k2345.at' e1 (fun h => h)) (k345.at' e2 (fun h => h)) (k45.at' e3 (fun h => h)) (k5.at' e4 (fun h => h)) e5
  obtain ⟨b, hb⟩ : ∃ b, w.heap.size = b := ⟨_, rfl⟩
  rw [hb] at K0 ⊢
  generalize hw5 : ((((w.alloc (.cells #[.int .i64 2] 3)).alloc (.cells #[.int .i64 1, .int .i64 1, .slice (some ⟨b, 0, none⟩) 1 1, .int .i64 3, .int .i64 10] 39)).alloc (.cells #[.int .i64 2, .int .i64 0, .bool true, .int .i64 0, .int .i64 0, .int .i64 0, .int .i64 3, .int .i64 0, .bool false, .int .i64 0, .int .i64 0, .int .i64 0] 42)).alloc (.cells #[.int .i64 1, .int .i64 1, .slice (some ⟨b, 0, none⟩) 1 1, .int .i64 3, .int .i64 10] 39)).alloc (.cells #[.slice none 0 0, .slice (some ⟨b + 1 + 1, 0, none⟩) 2 2, .slice (some ⟨b + 1 + 1 + 1, 0, none⟩) 1 1] 26) = w5 at *
  clear hw5 hb
  obtain ⟨i0, i1, i2⟩ := three K0.out.c4
  have I0 : I64 13 ∧ I64 12 ∧ I64 4 ∧ I64 3 ∧ I64 10 := by unfold I64; omega
  have cP := parts_yes (a0 := none) (n0 := 0) (c0 := 0) (k := 0) (x := ⟨1, 1, [2], 3, 10⟩) w5 K0.out.qs K0.out.cs rfl (by simp)
  have ePV : partV knP (Ch.fr ⟨1, 1, [2], 3, 10⟩) = 2 := kn_part
  have ePL : partsL knP (Ch.dst ⟨1, 1, [2], 3, 10⟩) = [3] := kn_parts
  rw [ePV, ePL] at cP
  have cD1 := fun w => due_any 1 1 3 10 13 (some ⟨b, 0, none⟩) 1 1 w I0.2.2.2.1 I0.2.2.2.2 I0.1
  have cD2 := fun w => due_any 1 1 3 10 12 (some ⟨b, 0, none⟩) 1 1 w I0.2.2.2.1 I0.2.2.2.2 I0.2.1
  have cN := fun w => nxt_any 1 1 3 10 4 (some ⟨b, 0, none⟩) 1 1 w I0.2.2.2.1 I0.2.2.2.2 I0.2.2.1
  rw [kn_due1] at cD1
  rw [kn_due2] at cD2
  rw [kn_next] at cN
  clear ePV ePL I0
  go_upto_region 4 with (go_at_call 9; refine cP.mono ?_; rintro e w6 ⟨g, cap, rfl, hg1, hg2, hg3, hg4, hd6, k6⟩)
  have K6 := hid (K0.out.on k6)
  have D6 : Hid (Hd w6 g [3] ∧ g < w6.heap.size ∧ [(3 : Int)].length ≤ cap ∧ cap ≤ 9223372036854775807) := ⟨hd6, hg2, hg3, hg4⟩
  clear cP K0 i0 i1 i2 hd6 hg1 hg2 hg3 hg4 k6
  obtain ⟨q0, q1, q2, q3, q4⟩ := five K6.out.c1
  have KC : Hid (Kept No w6 w6) := Kept.refl _ _
  have cD := fun u hu w => due_any 1 1 3 10 u (some ⟨b, 0, none⟩) 1 1 w (show I64 3 by unfold I64; omega) (show I64 10 by unfold I64; omega) hu
  have e33 : decide (([3] : List Int) = [3]) = true := by decide
  have cE : ∀ W, Kept No w6 W → Calls Tryz.prog 16 #[.slice (some ⟨g, 0, none⟩) 1 cap, .slice (some ⟨W.heap.size, 0, none⟩) 1 1] (W.alloc (.cells #[.int .i64 3] 3)) fun e w' => e = .returned (.bool true) ∧ Kept No (W.alloc (.cells #[.int .i64 3] 3)) w' := fun W k => by
    have z1 := (D6.out.1.kept (k.alloc (.cells #[.int .i64 3] 3)) (fun h => h) D6.out.2.1).zs D6.out.2.2.1 D6.out.2.2.2
    have h := sameI_any (W.alloc (.cells #[.int .i64 3] 3)) z1 (zs_new W 3)
    rw [e33] at h
    exact h
  obtain ⟨r0, r1, r2⟩ := three K6.out.c4
  clear cD1 cD2 e33
  go_wp2_with (first
    | (go_at_call 14; refine (cD _ ?_ _).mono ?_; (unfold I64; omega); rintro e w7 ⟨rfl, k7⟩; (first | rw [kn_due1] | rw [kn_due2]); replace K6 := hid (K6.out.on k7); replace KC := hid (KC.out.trans k7 (fun _ h => .inl h)); obtain ⟨q0, q1, q2, q3, q4⟩ := five K6.out.c1; obtain ⟨r0, r1, r2⟩ := three K6.out.c4; clear k7)
    | (go_at_call 15; refine (cN _).mono ?_; rintro e w7 ⟨rfl, k7⟩; replace K6 := hid (K6.out.on k7); replace KC := hid (KC.out.trans k7 (fun _ h => .inl h)); obtain ⟨q0, q1, q2, q3, q4⟩ := five K6.out.c1; obtain ⟨r0, r1, r2⟩ := three K6.out.c4; clear k7)
    | (go_at_call 16; refine (cE _ KC.out).mono ?_; rintro e w7 ⟨rfl, k7⟩; replace k7 := ((Kept.refl No _).alloc _).trans k7 (fun _ h => .inl h); replace K6 := hid (K6.out.on k7); replace KC := hid (KC.out.trans k7 (fun _ h => .inl h)); obtain ⟨q0, q1, q2, q3, q4⟩ := five K6.out.c1; obtain ⟨r0, r1, r2⟩ := three K6.out.c4; clear k7)
    | (go_at_call 13; refine (toPort_any 2 K6.out.cs).mono ?_; rintro e w7 ⟨rfl, k7⟩; rw [kn_to]; replace K6 := hid (K6.out.on k7); replace KC := hid (KC.out.trans k7 (fun _ h => .inl h)); obtain ⟨q0, q1, q2, q3, q4⟩ := five K6.out.c1; obtain ⟨r0, r1, r2⟩ := three K6.out.c4; clear k7)
    | (go_at_call 12; refine (fromPort_any 1 K6.out.cs).mono ?_; rintro e w7 ⟨rfl, k7⟩; rw [kn_from]; replace K6 := hid (K6.out.on k7); replace KC := hid (KC.out.trans k7 (fun _ h => .inl h)); obtain ⟨q0, q1, q2, q3, q4⟩ := five K6.out.c1; obtain ⟨r0, r1, r2⟩ := three K6.out.c4; clear k7))
  go_ret
  exact ⟨rfl, K6.out.k⟩
end Go.Proofs.YtfjaajjljmbmbaaGreatDoor
