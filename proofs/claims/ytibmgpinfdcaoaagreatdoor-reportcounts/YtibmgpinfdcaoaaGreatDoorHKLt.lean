/-
  One text: KLt.
-/
import Derived.Test.YtibmgpinfdcaoaaGreatDoorG36
import Derived.ArgAppend
namespace Go.Proofs.YtibmgpinfdcaoaaGreatDoor
open Go.RowKit Plain
set_option linter.unusedVariables false
set_option linter.unusedSimpArgs false
set_option maxRecDepth 100000

set_option maxHeartbeats 4000000 in
/-- seventy numbers behind a list that fills its row -/
theorem grown_raw {a : Option Addr} {n : Nat} {f : Nat → Int} (w : World) (h0 : a = none → n = 0) (h : ∀ i, i < n → ∃ b, a = some ⟨b, 0, none⟩ ∧ w.cell? ⟨b, i, none⟩ = some (.int .i64 (f i))) (hn : n ≤ 100000) :
    Calls Tryz.prog 28 #[.slice a n n] w fun e w' => e = .returned (.int .i64 ((n : Int) + 70)) ∧ Kept No w w' := by
  obtain ⟨j0, hj, hy0, hy1, hy2⟩ := info_parts Tryz.infoI
  have HV := hid (And.intro h0 h)
  clear h h0
  go_enter Tryz.func28, Tryz.ntmps28
  go_wp2
  go_loopw [3, 4] (fun z y wr => ∃ q : Nat, q ≤ 70 ∧ y = .int .i64 q ∧ ((q = 0 ∧ z = .slice a n n) ∨ (0 < q ∧ ∃ ys bs, w.heap.size ≤ bs ∧ bs ≤ wr.heap.size ∧ wr.ownsRow bs 3 1 z (n + q) ys)) ∧ Kept No w wr) (fun _ y _ => 70 - (intOf y).toNat)
  case atStart => exact ⟨0, Nat.zero_le _, rfl, .inl ⟨rfl, rfl⟩, Kept.refl _ _⟩
  case round =>
    obtain ⟨q, hq, rfl, hz, hkr⟩ := hrel
    by_cases hq64 : q < 70
    · have hqz : (q : Int) < 70 := by omega
      rcases hz with ⟨rfl, rfl⟩ | ⟨hq0, ys, bs, hb1, hb2, hown⟩
      · have HY : Hid (Kept No w wr) := hkr
        clear hkr
        go_wp2_with (at_builtin; refine wpList_append_grows _ rfl _ _ 25 rfl 3 j0 (.int .i64 0) 1 8 Tryz.underlying25 hj hy0 hy1 hy2 rfl (by decide) a n n (ncL f n) rfl (fun e => by
              have h0 := HV.out.1 e
              exact ⟨h0, h0⟩) (by simp [ncL]) (fun b hb j u hj => by
              have hjn : j < n := by have := (List.getElem?_eq_some_iff.1 hj).1; simpa [ncL] using this
              obtain ⟨b', e', h3⟩ := HV.out.2 j hjn
              rw [hb] at e'
              injection e' with e'
              subst e'
              rw [ncL_get _ hjn] at hj
              injection hj with hj
              subst hj
              rw [add_none, Nat.zero_add]
              exact ((HY.out).alloc _).cell h3 (fun h => h)) ⟨wr.heap.size, 0, none⟩ 1 1 [.int .i64 9000] rfl rfl (cell_one_new _ _ _) (one_one _ _) (by omega) (by unfold maxLen; omega) (by omega) ?_; intro v1 w6 own1 grow1)
        have HN : Hid (∃ ys bs, w.heap.size ≤ bs ∧ bs ≤ w6.heap.size ∧ w6.ownsRow bs 3 1 v1 (n + 1) ys) := ⟨_, _, by have := HY.out.size; simp; omega, ((Kept.refl No _).grown grow1 (fun j e => by cases e)).size, own1⟩
        have HM : Hid (Kept No w w6) := (HY.out.alloc _).grown grow1 (fun j e => by cases e)
        clear own1 grow1
        go_wp2
        go_roundw
        case rel => exact ⟨1, by omega, rfl, .inr ⟨by omega, HN.out⟩, HM.out⟩
        case measure => simp [intOf]
      · have HY : Hid (Kept No w wr ∧ wr.ownsRow bs 3 1 u3 (n + q) ys) := ⟨hkr, hown⟩
        clear hkr hown
        have hw9 : wrap64 (9000 + (q : Int)) = 9000 + (q : Int) := by unfold wrap64; omega
        go_wp2_with (at_builtin; refine wpList_append_own _ rfl _ _ 25 rfl bs 3 j0 (.int .i64 0) 1 8 Tryz.underlying25 hj hy0 hy1 hy2 rfl (by decide) u3 (n + q) ys rfl (HY.out.2.alloc _) ⟨wr.heap.size, 0, none⟩ 1 1 [.int .i64 (9000 + (q : Int))] rfl rfl (cell_one_new _ _ _) (one_one _ _) (by unfold maxLen; omega) (by omega) (by simp; omega) ?_; intro v1 w6 own1 grow1 _)
        have HN : Hid (∃ ys bs, w.heap.size ≤ bs ∧ bs ≤ w6.heap.size ∧ w6.ownsRow bs 3 1 v1 (n + (q + 1)) ys) := ⟨_, bs, hb1, by have := ((Kept.refl (fun _ => True) (wr.alloc _)).grown grow1 (fun j e => .inl trivial)).size; simp at this; omega, own1⟩
        have HM : Hid (Kept No w w6) := (HY.out.1.alloc _).grown grow1 (fun j e => .inr (by have := (HY.out.2.lt j e).1; omega))
        clear own1 grow1
        go_wp2
        go_roundw
        case rel => exact ⟨q + 1, by omega, by go_num, .inr ⟨by omega, HN.out⟩, HM.out⟩
        case measure => simp [intOf]; omega
    · obtain rfl : q = 70 := by omega
      rcases hz with ⟨h0, _⟩ | ⟨_, ys, bs, _, _, hown⟩
      · omega
      rcases owns_cells hown with ⟨_, h0⟩ | ⟨gg, cc, rfl, _, _, hg1, hg2, _, _⟩
      · omega
      have HX : Hid (Kept No w wr) := hkr
      clear hown hkr hg2
      rw [show ((70 : Nat) : Int) = 70 from rfl]
      go_wp2
      go_ret
      exact ⟨by congr 1, HX.out⟩

set_option maxHeartbeats 4000000 in
theorem let_any {a : Option Addr} {n lo : Nat} {f : Nat → Int} (w : World) (h : Rw9 w lo a n f) (hn : n ≤ 100000) :
    Calls Tryz.prog 13 #[.slice a n n] w fun e w' => (∃ v, e = .returned v) ∧ Kept (fun j => Bk9 a j) w w' := by
  obtain ⟨j0, hj, hy0, hy1, hy2⟩ := info_parts Tryz.infoI
  have HV := hid h
  clear h
  go_enter Tryz.func13, Tryz.ntmps13
  go_wp2
  go_loopw [3] (fun x wr => ∃ k : Nat, k ≤ n ∧ x = .int .i64 k ∧ Rw9 wr lo a n (fun i => if i < k then -3 else f i) ∧ Kept (fun j => Bk9 a j) w wr) (fun x _ => n - (intOf x).toNat)
  case atStart => exact ⟨0, Nat.zero_le _, rfl, HV.out.ext (fun i hi => by simp), Kept.refl _ _⟩
  case round =>
    obtain ⟨k, hk, rfl, hr, hkr⟩ := hrel
    by_cases hlt : k < n
    · have hlz : (k : Int) < (n : Int) := by omega
      rcases hr.sh with ⟨_, h0⟩ | ⟨g, rfl, h1, h2, h3, h4⟩
      · omega
      have c0 := h3 k hlt
      have f0 := h4 k
      have HN := hid (show Rw9 (wr.setCell ⟨g, k, none⟩ (.int .i64 (-3))) lo (some ⟨g, 0, none⟩) n (fun i => if i < k + 1 then -3 else f i) ∧ Kept (fun j => Bk9 (some ⟨g, 0, none⟩) j) w (wr.setCell ⟨g, k, none⟩ (.int .i64 (-3))) from
        ⟨(hr.set k (-3) hlt).ext (fun i hi => by
          by_cases e : i = k
          · simp [e]
          · have : (i < k + 1) ↔ i < k := by omega
            simp [e, this]), hkr.setCell (p := ⟨g, k, none⟩) (.inl rfl) _⟩)
      clear hr hkr h3 h4
      generalize (if k < k then (-3 : Int) else f k) = old at *
      go_wp2
      go_roundw
      case rel => exact ⟨k + 1, by omega, by go_num, HN.out⟩
      case measure => simp [intOf]; omega
    · have hlz : ¬ (k : Int) < (n : Int) := by omega
      obtain rfl : k = n := by omega
      have HK := hid (And.intro hr hkr)
      clear hr hkr hk hlt
      generalize wr = wo at *
      go_wp2
      go_loopw [4, 5] (fun z y wr => ∃ q : Nat, q ≤ 70 ∧ y = .int .i64 q ∧ ((q = 0 ∧ z = .slice a k k) ∨ (0 < q ∧ ∃ ys bs, wo.heap.size ≤ bs ∧ bs ≤ wr.heap.size ∧ wr.ownsRow bs 3 1 z (k + q) ys)) ∧ Kept No wo wr) (fun _ y _ => 70 - (intOf y).toNat)
      case atStart => exact ⟨0, Nat.zero_le _, rfl, .inl ⟨rfl, rfl⟩, Kept.refl _ _⟩
      case round =>
        obtain ⟨q, hq, rfl, hz, hkr⟩ := hrel
        by_cases hq64 : q < 70
        · have hqz : (q : Int) < 70 := by omega
          rcases hz with ⟨rfl, rfl⟩ | ⟨hq0, ys, bs, hb1, hb2, hown⟩
          · have HY : Hid (Kept No wo wr) := hkr
            clear hkr
            go_wp2_with (at_builtin; refine wpList_append_grows _ rfl _ _ 25 rfl 3 j0 (.int .i64 0) 1 8 Tryz.underlying25 hj hy0 hy1 hy2 rfl (by decide) a k k (ncL (fun i => if i < k then -3 else f i) k) rfl (fun e => by
                  rcases HK.out.1.sh with ⟨_, h0⟩ | ⟨b, h0, _⟩
                  · exact ⟨h0, h0⟩
                  · rw [e] at h0; cases h0) (by simp [ncL]) (fun b hb j u hj => by
                  have hjn : j < k := by have := (List.getElem?_eq_some_iff.1 hj).1; simpa [ncL] using this
                  obtain ⟨b', e', _, h3⟩ := HK.out.1.nm.at' j hjn
                  rw [hb] at e'
                  injection e' with e'
                  subst e'
                  rw [ncL_get _ hjn] at hj
                  injection hj with hj
                  subst hj
                  rw [add_none, Nat.zero_add]
                  exact ((HY.out).alloc _).cell h3 (fun h => h)) ⟨wr.heap.size, 0, none⟩ 1 1 [.int .i64 (-4)] rfl rfl (cell_one_new _ _ _) (one_one _ _) (by omega) (by unfold maxLen; omega) (by omega) ?_; intro v1 w6 own1 grow1)
            have HN : Hid (∃ ys bs, wo.heap.size ≤ bs ∧ bs ≤ w6.heap.size ∧ w6.ownsRow bs 3 1 v1 (k + 1) ys) := ⟨_, _, by have := HY.out.size; simp; omega, ((Kept.refl No _).grown grow1 (fun j e => by cases e)).size, own1⟩
            have HM : Hid (Kept No wo w6) := (HY.out.alloc _).grown grow1 (fun j e => by cases e)
            clear own1 grow1
            go_wp2
            go_roundw
            case rel => exact ⟨1, by omega, rfl, .inr ⟨by omega, HN.out⟩, HM.out⟩
            case measure => simp [intOf]
          · have HY : Hid (Kept No wo wr ∧ wr.ownsRow bs 3 1 u4 (k + q) ys) := ⟨hkr, hown⟩
            clear hkr hown
            go_wp2_with (at_builtin; refine wpList_append_own _ rfl _ _ 25 rfl bs 3 j0 (.int .i64 0) 1 8 Tryz.underlying25 hj hy0 hy1 hy2 rfl (by decide) u4 (k + q) ys rfl (HY.out.2.alloc _) ⟨wr.heap.size, 0, none⟩ 1 1 [.int .i64 (-4)] rfl rfl (cell_one_new _ _ _) (one_one _ _) (by unfold maxLen; omega) (by omega) (by simp; omega) ?_; intro v1 w6 own1 grow1 _)
            have HN : Hid (∃ ys bs, wo.heap.size ≤ bs ∧ bs ≤ w6.heap.size ∧ w6.ownsRow bs 3 1 v1 (k + (q + 1)) ys) := ⟨_, bs, hb1, by have := ((Kept.refl (fun _ => True) (wr.alloc _)).grown grow1 (fun j e => .inl trivial)).size; simp at this; omega, own1⟩
            have HM : Hid (Kept No wo w6) := (HY.out.1.alloc _).grown grow1 (fun j e => .inr (by have := (HY.out.2.lt j e).1; omega))
            clear own1 grow1
            go_wp2
            go_roundw
            case rel => exact ⟨q + 1, by omega, by go_num, .inr ⟨by omega, HN.out⟩, HM.out⟩
            case measure => simp [intOf]; omega
        · obtain rfl : q = 70 := by omega
          rcases hz with ⟨h0, _⟩ | ⟨_, ys, bs, _, _, hown⟩
          · omega
          rcases owns_cells hown with ⟨_, h0⟩ | ⟨gg, cc, rfl, _, _, hg1, hg2, _, _⟩
          · omega
          have HX : Hid (Kept (fun j => Bk9 a j) w wr) := HK.out.2.trans hkr (fun _ h => h.elim)
          clear hown hkr hg2
          rw [show ((70 : Nat) : Int) = 70 from rfl]
          go_wp2
          go_ret
          exact ⟨⟨_, rfl⟩, HX.out⟩
end Go.Proofs.YtibmgpinfdcaoaaGreatDoor
