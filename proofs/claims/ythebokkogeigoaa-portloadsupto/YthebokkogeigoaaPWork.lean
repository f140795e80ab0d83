/-
  same, works.
-/
import Derived.Test.YthebokkogeigoaaPImg
namespace Go.Proofs.Ythebokkogeigoaa
open Go.RowKit
set_option linter.unusedVariables false
set_option maxRecDepth 100000

theorem same_any {F G : Nat → Prop} {a a' : Option Addr} {n c c' : Nat} {xs : List Int} (w : World) (h : Zs w F a n c xs) (h' : Zs w G a' n c' xs) :
    Calls Try.prog 12 #[.slice a n c, .slice a' n c'] w fun e w' => e = .returned (.bool true) ∧ Kept No w w' := by
  have hn : n ≤ 9223372036854775807 := Nat.le_trans h.cap h.max
  have hc := h.cap
  have hm := h.max
  have hc' := h'.cap
  have hm' := h'.max
  have HH : Hid (Zs w F a n c xs ∧ Zs w G a' n c' xs) := ⟨h, h'⟩
  clear h h'
  have hne : ((n : Int) != (n : Int)) = false := by simp
  go_enter Try.func12, Try.ntmps12
  go_upto_region 4 with fail
  clear hne
  go_loopw [5] (fun x wr => ∃ (k : Nat), k ≤ n ∧ x = .int .i64 k ∧ Kept No w wr) (fun x _ => n - (intOf x).toNat)
  case atStart => exact ⟨0, Nat.zero_le _, rfl, Kept.refl No w⟩
  case round =>
    obtain ⟨k, hk, rfl, kk⟩ := hrel
    have HK := hid kk
    clear kk
    by_cases hlt : k < n
    · have hltz : (k : Int) < (n : Int) := by omega
      obtain ⟨b, o, rfl, _, e0⟩ := (HH.out.1.kept HK.out (fun _ _ e => e)).at' k hlt
      obtain ⟨b', o', rfl, _, e1⟩ := (HH.out.2.kept HK.out (fun _ _ e => e)).at' k hlt
      have e0' : wr.cell? ⟨b, o + k, none⟩ = some (.int .i64 (xs.getD k 0)) := e0
      have e1' : wr.cell? ⟨b', o' + k, none⟩ = some (.int .i64 (xs.getD k 0)) := e1
      clear e0 e1
      generalize xs.getD k 0 = x at *
      have hx : (x != x) = false := by simp
      go_upto_region 6 with fail
      go_region
      go_wp2
      go_roundw
      case rel => exact ⟨k + 1, by omega, by go_num, HK.out.drew⟩
      case measure => simp [intOf]; omega
    · have hltz : ¬ (k : Int) < (n : Int) := by omega
      go_wp2
      go_ret
      exact ⟨rfl, HK.out⟩


theorem same_yes {F G : Nat → Prop} {a a' : Option Addr} {n c c' : Nat} {xs : List Int} (w : World) (h : Zs w F a n c xs) (h' : Zs w G a' n c' xs) (hn : n ≤ 17592186044416) :
    Calls Try.prog 12 #[.slice a n c, .slice a' n c'] w fun e w' => e = .returned (.bool true) ∧ Kept No w w' := same_any w h h'
theorem pl_one {w : World} {g : Nat} {p : Pr} (h : w.heap[g]? = some (.cells (pc p).toArray 30)) : Pl w (fun k => k = g) (some ⟨g, 0, none⟩) 1 1 (fun _ => p) :=
  ⟨Nat.le_refl _, by omega, fun i hi => ⟨g, 0, rfl, rfl, by
    have hi0 : i = 0 := by omega
    subst hi0
    exact ⟨(cell_blk h 0).trans rfl, (cell_blk h 1).trans rfl, (cell_blk h 2).trans rfl, (cell_blk h 3).trans rfl, (cell_blk h 4).trans rfl, (cell_blk h 5).trans rfl⟩⟩⟩
/-- the image of one port, and New of it -/
theorem new_one {w : World} {pv lv : Value} {B : Nat} {z1 z2 : Nat → Nat} {p : Pr} (hp : Pts w B pv 3 z1 z2) (ho : w.ownsRow B 30 6 lv 1 (cat (fun _ => pc (fitP p)) 1)) (part : Int) :
    Calls Try.prog 8 #[.agg #[pv, lv, .slice none 0 0], .int .i64 part] w fun r w' => ∃ b mb eb, r = .returned (.pointer (some ⟨b, 0, none⟩)) ∧ Pt w' w.heap.size b mb 1 (pdNew 1 (fun _ => fitP p) part 1 eb) ∧ Kept No w w' := by
  obtain ⟨pa, pn, pc', rfl⟩ := own_slice hp.own
  obtain ⟨a, c, rfl, hl⟩ := Pl.of_owns ho
  exact new_any w pa none pn pc' 0 0 part hl (by omega)
theorem image_one (w : World) {g : Nat} {p : Pr} (h : w.heap[g]? = some (.cells (pc p).toArray 30)) : Calls Try.prog 7 #[.slice (some ⟨g, 0, none⟩) 1 1] w fun r w' => ∃ (pa la : Option Addr) (pn pc' ln lc : Nat), r = .returned (.agg #[.slice pa pn pc', .slice la ln lc, .slice none 0 0]) ∧ (∀ (part : Int) (W : World), Kept No w' W → Calls Try.prog 8 #[.agg #[.slice pa pn pc', .slice la ln lc, .slice none 0 0], .int .i64 part] W fun r w'' => ∃ b mb eb, r = .returned (.pointer (some ⟨b, 0, none⟩)) ∧ Pt w'' W.heap.size b mb 1 (pdNew 1 (fun _ => fitP p) part 1 eb) ∧ Kept No W w'') ∧ Kept No w w' := by
  refine (image_any w (pl_one h)).mono ?_
  rintro r w' ⟨pv, lv, z1, z2, rfl, hp, ho, hk⟩
  obtain ⟨pa, pn, pc', rfl⟩ := own_slice hp.own
  obtain ⟨la, ln, lc, rfl⟩ := own_slice ho
  exact ⟨pa, la, pn, pc', ln, lc, rfl, fun part W k => new_one (hp.keep k) (k.owns ho (fun _ _ e => e)) part, hk⟩
theorem one_idx {p : Pr} {part : Int} {eb : Nat → Nat} (h : p.pt = part) : (pdNew 1 (fun _ => p) part 1 eb).idx 1 = some 0 :=
  Pd.idx_of (S := pdNew 1 (fun _ => p) part 1 eb) (i := 0) (by show 0 < 1; omega) (by show (decide (0 < 1) && (p.pt == part)) = true; simp [h])
theorem i6_1 : I6 1 := by unfold I6; omega
theorem zs2 {w : World} {g : Nat} {x y : Int} (h : w.heap[g]? = some (.cells #[.int .i64 x, .int .i64 y] 2)) : Zs w (fun k => k = g) (some ⟨g, 0, none⟩) 2 2 [x, y] :=
  ⟨rfl, Nat.le_refl _, by omega, fun h => (by cases h), fun i hi => ⟨g, 0, rfl, rfl, by
    rw [Nat.zero_add, cell_blk h]
    have : i = 0 ∨ i = 1 := by omega
    rcases this with rfl | rfl <;> rfl⟩⟩
set_option maxHeartbeats 8000000 in
theorem works_any (w : World) : Calls Try.prog 11 #[] w fun r w' => r = .returned (.bool true) ∧ Kept No w w' := by
  have K1 : Kept No w (w.alloc (.cells #[.int .i64 0, .int .i64 1, .bool false, .int .i64 1, .int .i64 1, .int .i64 0] 30)) := (Kept.refl No w).alloc _
  have IM := hid (image_one (p := ⟨0, 1, false, 1, 1, 0⟩) (w.alloc (.cells #[.int .i64 0, .int .i64 1, .bool false, .int .i64 1, .int .i64 1, .int .i64 0] 30)) (alloc_new w _))
  have HK1 := hid K1
  clear K1
  go_enter Try.func11, Try.ntmps11
  go_upto_region 2 with (go_at_call 7; refine IM.out.mono ?_; rintro e w2 ⟨pa, la, pn, pc', ln, lc, rfl, nw, k2⟩; have NW := hid nw; have K2 := hid (HK1.out.trans k2 (fun _ e => e.elim)); clear nw k2 IM HK1)
  have NX := hid (NW.out 1 _ ((Kept.refl No w2).alloc (.cells #[.slice pa pn pc', .slice la ln lc, .slice none 0 0] 27)))
  have K3 := hid (K2.out.alloc (.cells #[.slice pa pn pc', .slice la ln lc, .slice none 0 0] 27))
  have c0 : (w2.alloc (.cells #[.slice pa pn pc', .slice la ln lc, .slice none 0 0] 27)).cell? ⟨w2.heap.size, 0, none⟩ = some (.slice pa pn pc') := (cell_blk (alloc_new w2 _) 0).trans rfl
  have c1 : (w2.alloc (.cells #[.slice pa pn pc', .slice la ln lc, .slice none 0 0] 27)).cell? ⟨w2.heap.size, 1, none⟩ = some (.slice la ln lc) := (cell_blk (alloc_new w2 _) 1).trans rfl
  have c2 : (w2.alloc (.cells #[.slice pa pn pc', .slice la ln lc, .slice none 0 0] 27)).cell? ⟨w2.heap.size, 2, none⟩ = some (.slice none 0 0) := (cell_blk (alloc_new w2 _) 2).trans rfl
  clear NW K2
  generalize (w2.alloc (.cells #[.slice pa pn pc', .slice la ln lc, .slice none 0 0] 27)) = w3 at *
  generalize w2.heap.size = z at *
  go_upto_region 5 with (go_at_call 8; refine NX.out.mono ?_; rintro e w4 ⟨b, mb, eb, rfl, hp, k4⟩; have HP := hid (⟨hp.base K3.out.size, K3.out.trans k4 (fun _ e => e.elim)⟩ : _ ∧ Kept No w w4); clear hp k4 NX K3 c0 c1 c2)
  have KA : Kept No w4 (w4.alloc (.cells #[.int .i64 4, .int .i64 5] 2)) := (Kept.refl No w4).alloc _
  have hp5 := HP.out.1.keep KA
  have PU := hid (push_in (y := [4, 5]) _ hp5 i6_1 (one_idx rfl) rfl (zs2 (alloc_new w4 _)) rfl (by show (0 : Int) < 2; omega) (by show 0 + 1 ≤ _; omega) (by omega))
  have HP5 := hid (⟨hp5, HP.out.2.trans KA (fun _ e => e.elim)⟩ : _ ∧ _)
  clear hp5 KA HP
  go_upto_region 6 with (go_at_call 13; refine PU.out.mono ?_; rintro e w6 ⟨rfl, it, m, d⟩; have P6 := hid (⟨(HP5.out.1.did (by show 0 < 1; omega) rfl d).1, HP5.out.2.trans (HP5.out.1.did (by show 0 < 1; omega) rfl d).2.1 (fun k hk => .inr (HP5.out.1.pw_blk hk).1)⟩ : _ ∧ Kept No w w6); clear d PU HP5)
  have PO := hid (pop_one w6 P6.out.1 i6_1 (one_idx (eb := eb) rfl) rfl (m := m) (y := [4, 5]) (ms := []) (xs := []) rfl rfl (by show 0 + 1 ≤ _; omega))
  go_upto_region 7 with (go_at_call 15; refine PO.out.mono ?_; rintro e w7 ⟨rfl, it', d, om, _⟩; have P7 : Hid (w7.ownsRow w.heap.size 2 1 m 2 ([4, 5].map iv) ∧ Kept No w w7) := ⟨om, P6.out.2.trans (P6.out.1.did (by show 0 < 1; omega) rfl d).2.1 (fun k hk => .inr (P6.out.1.pw_blk hk).1)⟩; clear d om PO P6)
  obtain ⟨ma, mc, hm, hz⟩ := Zs.of_owns (xs := [4, 5]) P7.out.1
  subst hm
  have KB : Kept No w7 (w7.alloc (.cells #[.int .i64 4, .int .i64 5] 2)) := (Kept.refl No w7).alloc _
  have SA := hid (same_yes (n := 2) _ (hz.kept KB (fun _ _ e => e)) (zs2 (alloc_new w7 _)) (by omega))
  have K7 := hid (P7.out.2.trans KB (fun _ e => e.elim))
  clear hz KB P7
  go_wp2_with (go_at_call 12; refine SA.out.mono ?_; rintro e w9 ⟨rfl, k9⟩; have K9 := hid (K7.out.trans k9 (fun _ e => e.elim)); clear k9)
  go_ret
  exact ⟨rfl, K9.out⟩
end Go.Proofs.Ythebokkogeigoaa
