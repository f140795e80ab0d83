/-
  The document's Write and Store.
-/
import Derived.Test.YtgapljgnedbkiaaRefs
import Derived.Test.YtgapljgnedbkiaaWorks
namespace Go.Proofs.Ytgapljgnedbkiaa
open Go.RowKit
set_option linter.unusedVariables false

theorem wrX_get (xs : List Int) (fx A : Int) (ds : List Int) (k : Nat) : (wrX xs fx A ds).getD k 0 = if wb xs.length fx A ds.length = true ∧ A ≤ k ∧ (k : Int) < A + ds.length then ds.getD (k - A.toNat) 0 else xs.getD k 0 := by
  unfold wrX
  by_cases h : wb xs.length fx A ds.length = true
  · rw [if_pos h]
    have h2 := h
    unfold wb at h2
    rw [Bool.and_eq_true, wi_iff] at h2
    rw [laid_get (by omega)]
    by_cases h3 : A.toNat ≤ k ∧ k < A.toNat + ds.length
    · rw [if_pos h3, if_pos ⟨h, by omega, by omega⟩]
    · rw [if_neg h3, if_neg (by omega)]
  · rw [if_neg h, if_neg (fun h' => h h'.1)]

/-- the step of the loop: one word more -/
theorem more_row {w wr w1 : World} {u v1 : Value} {X : List Int} {j : Nat} {x : Int} {o : Obj} (hs : w.heap.size ≤ wr.heap.size) (HBE : Below w.heap.size w wr) (HOW : wr.ownsRow w.heap.size 2 1 u j ((X.take j).map iv)) (hx : X.take (j + 1) = X.take j ++ [x])
    (own1 : w1.ownsRow w.heap.size 2 1 v1 (j + 1) ((X.take j).map iv ++ [.int .i64 x])) (grow1 : (wr.alloc o).grownBy w1 u.ownBlock) : w1.ownsRow w.heap.size 2 1 v1 (j + 1) ((X.take (j + 1)).map iv) ∧ Below w.heap.size w w1 := by
  refine ⟨?_, (HBE.alloc hs _).grown grow1 (by simp; omega) (fun k hk => (HOW.lt k hk).1)⟩
  rw [hx, List.map_append]; exact own1

set_option maxHeartbeats 4000000 in
theorem refWrite_any (F G : Nat → Prop) (fx A : Int) (a ad : Option Addr) (n c nd cd : Nat) (xs ds : List Int) (w : World) (hz : Zs w F a n c xs) (hzd : Zs w G ad nd cd ds) (hn : n ≤ 4096) :
    Calls Try.prog 25 #[.slice a n c, .int .i64 fx, .int .i64 A, .slice ad nd cd] w fun ex w' => ∃ v, ex = .returned (.tuple #[v, .bool (wb n fx A nd)]) ∧ w'.ownsRow w.heap.size 2 1 v (wrX xs fx A ds).length ((wrX xs fx A ds).map iv) ∧ Kept No w w' := by
  obtain ⟨i0, hi, hz0, hz1, hz2⟩ := info_parts Try.info2
  have hl := hz.len
  have hld := hzd.len
  have hnc := hz.cap
  have hnm := hz.max
  have hdc := hzd.cap
  have hdm := hzd.max
  have cw := refWritable_any n fx A nd w (by omega)
  obtain ⟨dB, hdB⟩ : ∃ dB, dB = wb n fx A nd := ⟨_, rfl⟩
  rw [← hdB] at cw ⊢
  have HDB : Hid (dB = wb n fx A nd) := hdB
  obtain ⟨X, hX⟩ : ∃ X, X = wrX xs fx A ds := ⟨_, rfl⟩
  rw [← hX]
  have HXL : Hid (X.length = n) := by show X.length = n; rw [hX, wrX_length, hl]
  have HX : Hid (∀ k : Nat, X.getD k 0 = if dB = true ∧ A ≤ k ∧ (k : Int) < A + nd then ds.getD (k - A.toNat) 0 else xs.getD k 0) := by
    intro k
    rw [hX, wrX_get, hl, hld, hdB]
  have HZ : Hid (Zs w F a n c xs) := hz
  have HZD : Hid (Zs w G ad nd cd ds) := hzd
  clear hz hzd hl hld hdB hX
  go_enter Try.func25, Try.ntmps25
  go_wp2_with (go_at_call 26; refine cw.mono ?_; rintro ex w1 ⟨rfl, hw⟩; obtain rfl := hw.symm)
  clear cw
  go_loopw [11, 12] (fun l i wr => ∃ j : Nat, j ≤ n ∧ i = .int .i64 j ∧ wr.ownsRow w.heap.size 2 1 l j ((X.take j).map iv) ∧ Below w.heap.size w wr) (fun _ i _ => n - (intOf i).toNat)
  case atStart => exact ⟨0, by omega, rfl, World.ownsRow_nil _ _ _ _, Below.refl _ _⟩
  case round =>
    obtain ⟨j, hj, rfl, hown, hbel⟩ := hrel
    have HOW : Hid (wr.ownsRow w.heap.size 2 1 u11 j ((X.take j).map iv)) := hown
    have hs := hbel.size
    have HBE : Hid (Below w.heap.size w wr) := hbel
    clear hown hbel
    by_cases hlt : j < n
    · obtain ⟨x, hx⟩ : ∃ x, x = X.getD j 0 := ⟨_, rfl⟩
      have HXJ : Hid (X.take (j + 1) = X.take j ++ [x]) := by
        show X.take (j + 1) = X.take j ++ [x]
        rw [hx]; exact take_more X j (by rw [HXL.out]; exact hlt)
      have HK : Hid (Kept No w wr) := Kept.of_below HBE.out
      rw [HX.out] at hx
      by_cases hin : dB = true ∧ A ≤ j ∧ (j : Int) < A + nd
      · rw [if_pos hin] at hx
        obtain ⟨hdT, hA1, hA2⟩ := hin
        subst hdT
        have hwb := HDB.out.symm
        unfold wb at hwb
        rw [Bool.and_eq_true, wi_iff, decide_eq_true_eq] at hwb
        obtain ⟨t, ht⟩ : ∃ t : Nat, (j : Int) - A = t := ⟨((j : Int) - A).toNat, by omega⟩
        have e : wrap64 ((j : Int) - A) = (t : Int) := by unfold wrap64; omega
        have ht2 : t < nd := by omega
        rw [show j - A.toNat = t by omega] at hx
        obtain ⟨b, o, rfl, _, hc⟩ := (HZD.out.kept HK.out (fun _ _ h => h)).at' t ht2
        have hc2 : wr.cell? ⟨b, o + t, none⟩ = some (.int .i64 x) := by rw [hc, hx]; rfl
        clear hx hwb ht hA1 hA2 hc
        go_wp2_with (at_builtin; refine wpList_append_own _ rfl _ _ 22 rfl w.heap.size 2 i0 (.int .i64 0) 1 8 Try.underlying22 hi hz0 hz1 hz2 rfl (by decide) _ _ _ rfl (HOW.out.alloc _) ⟨wr.heap.size, 0, none⟩ 1 1 [.int .i64 x] rfl rfl (cell_one_new _ _ _) (one_one _ _) (by unfold maxLen; omega) (by omega) (by simp; omega) ?_; intro v1 w1 own1 grow1 _)
        have HN : Hid (w1.ownsRow w.heap.size 2 1 v1 (j + 1) ((X.take (j + 1)).map iv) ∧ Below w.heap.size w w1) := more_row hs HBE.out HOW.out HXJ.out own1 grow1
        clear grow1 own1
        go_wp2
        go_roundw
        case rel => exact ⟨j + 1, by omega, by go_num, HN.out.1, HN.out.2⟩
        case measure => simp [intOf]; omega
      · rw [if_neg hin] at hx
        obtain ⟨b, o, rfl, _, hc⟩ := (HZ.out.kept HK.out (fun _ _ h => h)).at' j hlt
        have hc2 : wr.cell? ⟨b, o + j, none⟩ = some (.int .i64 x) := by rw [hc, hx]; rfl
        clear hx hc
        cases hB : dB with
        | false =>
          clear hin
          subst hB
          go_wp2_with (at_builtin; refine wpList_append_own _ rfl _ _ 22 rfl w.heap.size 2 i0 (.int .i64 0) 1 8 Try.underlying22 hi hz0 hz1 hz2 rfl (by decide) _ _ _ rfl (HOW.out.alloc _) ⟨wr.heap.size, 0, none⟩ 1 1 [.int .i64 x] rfl rfl (cell_one_new _ _ _) (one_one _ _) (by unfold maxLen; omega) (by omega) (by simp; omega) ?_; intro v1 w1 own1 grow1 _)
          have HN : Hid (w1.ownsRow w.heap.size 2 1 v1 (j + 1) ((X.take (j + 1)).map iv) ∧ Below w.heap.size w w1) := more_row hs HBE.out HOW.out HXJ.out own1 grow1
          clear grow1 own1
          go_wp2
          go_roundw
          case rel => exact ⟨j + 1, by omega, by go_num, HN.out.1, HN.out.2⟩
          case measure => simp [intOf]; omega
        | true =>
          subst hB
          have hwb := HDB.out.symm
          unfold wb at hwb
          rw [Bool.and_eq_true, wi_iff, decide_eq_true_eq] at hwb
          obtain ⟨u, hu⟩ : ∃ u : Int, u = (j : Int) - A := ⟨_, rfl⟩
          have e : wrap64 ((j : Int) - A) = u := by rw [hu]; unfold wrap64; omega
          have ho : u < 0 ∨ (0 ≤ u ∧ (nd : Int) ≤ u) := by
            by_cases h0 : u < 0
            · exact .inl h0
            · refine .inr ⟨by omega, ?_⟩
              apply Decidable.byContradiction
              intro hn
              exact hin ⟨rfl, by omega, by omega⟩
          clear hin hwb hu
          rcases ho with ho | ⟨ho1, ho2⟩
          · go_wp2_with (at_builtin; refine wpList_append_own _ rfl _ _ 22 rfl w.heap.size 2 i0 (.int .i64 0) 1 8 Try.underlying22 hi hz0 hz1 hz2 rfl (by decide) _ _ _ rfl (HOW.out.alloc _) ⟨wr.heap.size, 0, none⟩ 1 1 [.int .i64 x] rfl rfl (cell_one_new _ _ _) (one_one _ _) (by unfold maxLen; omega) (by omega) (by simp; omega) ?_; intro v1 w1 own1 grow1 _)
            have HN : Hid (w1.ownsRow w.heap.size 2 1 v1 (j + 1) ((X.take (j + 1)).map iv) ∧ Below w.heap.size w w1) := more_row hs HBE.out HOW.out HXJ.out own1 grow1
            clear grow1 own1
            go_wp2
            go_roundw
            case rel => exact ⟨j + 1, by omega, by go_num, HN.out.1, HN.out.2⟩
            case measure => simp [intOf]; omega
          · go_wp2_with (at_builtin; refine wpList_append_own _ rfl _ _ 22 rfl w.heap.size 2 i0 (.int .i64 0) 1 8 Try.underlying22 hi hz0 hz1 hz2 rfl (by decide) _ _ _ rfl (HOW.out.alloc _) ⟨wr.heap.size, 0, none⟩ 1 1 [.int .i64 x] rfl rfl (cell_one_new _ _ _) (one_one _ _) (by unfold maxLen; omega) (by omega) (by simp; omega) ?_; intro v1 w1 own1 grow1 _)
            have HN : Hid (w1.ownsRow w.heap.size 2 1 v1 (j + 1) ((X.take (j + 1)).map iv) ∧ Below w.heap.size w w1) := more_row hs HBE.out HOW.out HXJ.out own1 grow1
            clear grow1 own1
            go_wp2
            go_roundw
            case rel => exact ⟨j + 1, by omega, by go_num, HN.out.1, HN.out.2⟩
            case measure => simp [intOf]; omega
    · have hjM : j = n := by omega
      subst hjM
      go_wp2
      go_ret2
      refine ⟨_, rfl, ?_, Kept.of_below HBE.out⟩
      have := HOW.out
      rw [List.take_of_length_le (by rw [HXL.out]; exact Nat.le_refl _)] at this
      rw [HXL.out]
      exact this

theorem refStore_any (F : Nat → Prop) (fx A V : Int) (a : Option Addr) (n c : Nat) (xs : List Int) (w : World) (hz : Zs w F a n c xs) (hn : n ≤ 4096) :
    Calls Try.prog 23 #[.slice a n c, .int .i64 fx, .int .i64 A, .int .i64 V] w fun ex w' => ∃ v, ex = .returned (.tuple #[v, .bool (wb n fx A 1)]) ∧ w'.ownsRow w.heap.size 2 1 v (wrX xs fx A [V]).length ((wrX xs fx A [V]).map iv) ∧ Kept No w w' := by
  have c25 := refWrite_any _ _ fx A a _ n c 1 1 xs [V] _ (hz.kept ((Kept.refl No w).alloc (.cells ([V].map iv).toArray 2)) (fun _ _ h => h)) (zs_new w [V] (by simp) 2) hn
  clear hz
  go_enter Try.func23, Try.ntmps23
  go_wp2_with (go_at_call 25; refine c25.mono ?_; rintro ex w1 ⟨v, rfl, own, kp⟩; have HO : Hid (w1.ownsRow w.heap.size 2 1 v (wrX xs fx A [V]).length ((wrX xs fx A [V]).map iv) ∧ Kept No w w1) := ⟨⟨own.1, own.2.imp id (fun ⟨g, cap, cur, hv, hb, r⟩ => ⟨g, cap, cur, hv, by simp at hb; omega, r⟩)⟩, ((Kept.refl No w).alloc _).trans kp (fun k h => h.elim)⟩; clear own kp)
  go_ret2
  exact ⟨v, rfl, HO.out.1, HO.out.2⟩

end Go.Proofs.Ytgapljgnedbkiaa
