/-
  The document's answers.
-/
import Derived.Test.YtgapljgnedbkiaaMarks
namespace Go.Proofs.Ytgapljgnedbkiaa
open Go.RowKit
set_option linter.unusedVariables false

theorem take_more (xs : List Int) (j : Nat) (h : j < xs.length) : xs.take (j + 1) = xs.take j ++ [xs.getD j 0] := by
  rw [List.take_add_one]
  simp [List.getD, h]
theorem nwX_get {N : Int} {xs : List Int} {j : Nat} (h : j < xs.length) : (nwX N xs).getD j 0 = xs.getD j 0 := by
  simp [nwX, List.getD, List.getElem?_append, h]
theorem nwX_get0 {N : Int} {xs : List Int} {j : Nat} (h : ¬ j < xs.length) : (nwX N xs).getD j 0 = 0 := by
  simp [nwX, List.getD, List.getElem?_append, h]
  by_cases h2 : j - xs.length < N.toNat - xs.length
  · simp [h2]
  · simp [h2]

set_option maxHeartbeats 2000000 in
theorem refNew_yes (F : Nat → Prop) (N : Int) (a : Option Addr) (n c : Nat) (xs : List Int) (w : World) (hz : Zs w F a n c xs) (hok : nwOk N xs.length = true) :
    Calls Try.prog 15 #[.int .i64 N, .slice a n c] w fun ex w' => ∃ v, ex = .returned (.tuple #[v, .bool true]) ∧ w'.ownsRow w.heap.size 2 1 v (nwX N xs).length ((nwX N xs).map iv) ∧ Kept No w w' := by
  obtain ⟨i0, hi, hz0, hz1, hz2⟩ := info_parts Try.info2
  obtain ⟨h1, h2, h3⟩ : 0 ≤ N ∧ N ≤ 4096 ∧ (xs.length : Int) ≤ N := by simpa [nwOk] using hok
  obtain ⟨hX1, hX2⟩ := nwX_length hok
  obtain ⟨M, rfl⟩ : ∃ M : Nat, N = M := ⟨N.toNat, by omega⟩
  obtain ⟨X, hX⟩ : ∃ X, X = nwX M xs := ⟨_, rfl⟩
  rw [← hX] at hX1 hX2 ⊢
  have hl := hz.len
  rw [hl] at h3
  have hnc := hz.cap
  have hnm := hz.max
  have HZ : Hid (Zs w F a n c xs) := hz
  have HL : Hid (xs.length = n) := hl
  have HX : Hid (X = nwX M xs) := hX
  have HXL : Hid (X.length = M) := by show X.length = M; omega
  clear hz hl hok hX hX1 hX2
  have f1 : ¬ (M < n) := by omega
  go_enter Try.func15, Try.ntmps15
  go_wp2_with fail
  go_loopw [6, 7] (fun l i wr => ∃ j : Nat, j ≤ M ∧ i = .int .i64 j ∧ wr.ownsRow w.heap.size 2 1 l j ((X.take j).map iv) ∧ Below w.heap.size w wr) (fun _ i _ => M - (intOf i).toNat)
  case atStart => exact ⟨0, by omega, rfl, World.ownsRow_nil _ _ _ _, Below.refl _ _⟩
  case round =>
    obtain ⟨j, hj, rfl, hown, hbel⟩ := hrel
    have HOW : Hid (wr.ownsRow w.heap.size 2 1 u6 j ((X.take j).map iv)) := hown
    have hs := hbel.size
    have HBE : Hid (Below w.heap.size w wr) := hbel
    clear hown hbel
    by_cases hlt : j < M
    · obtain ⟨x, hx⟩ : ∃ x, x = X.getD j 0 := ⟨_, rfl⟩
      have HXJ : Hid (X.take (j + 1) = X.take j ++ [x]) := by
        show X.take (j + 1) = X.take j ++ [x]
        rw [hx]; exact take_more X j (by rw [HXL.out]; exact hlt)
      by_cases hjn : j < n
      · obtain ⟨b, o, rfl, _, hc⟩ := (HZ.out.kept (Kept.of_below (F := No) HBE.out) (fun _ _ h => h)).at' j hjn
        have hc2 : wr.cell? ⟨b, o + j, none⟩ = some (.int .i64 x) := by rw [hc, hx, HX.out, nwX_get (by rw [HL.out]; exact hjn)]; rfl
        clear hc hx
        go_wp2_with (at_builtin; refine wpList_append_own _ rfl _ _ 22 rfl w.heap.size 2 i0 (.int .i64 0) 1 8 Try.underlying22 hi hz0 hz1 hz2 rfl (by decide) _ _ _ rfl (HOW.out.alloc _) ⟨wr.heap.size, 0, none⟩ 1 1 [.int .i64 x] rfl rfl (cell_one_new _ _ _) (one_one _ _) (by unfold maxLen; omega) (by omega) (by simp; omega) ?_; intro v1 w1 own1 grow1 _)
        have hb1 : Below w.heap.size w w1 := (HBE.out.alloc hs _).grown grow1 (by simp; omega) (fun k hk => (HOW.out.lt k hk).1)
        have own2 : w1.ownsRow w.heap.size 2 1 v1 (j + 1) ((X.take (j + 1)).map iv) := by
          rw [HXJ.out, List.map_append]; exact own1
        clear grow1 own1
        go_wp2
        go_roundw
        case rel => exact ⟨j + 1, by omega, by go_num, own2, hb1⟩
        case measure => simp [intOf]; omega
      · have h0 : x = 0 := by rw [hx, HX.out, nwX_get0 (by rw [HL.out]; exact hjn)]
        subst h0
        clear hx
        go_wp2_with (at_builtin; refine wpList_append_own _ rfl _ _ 22 rfl w.heap.size 2 i0 (.int .i64 0) 1 8 Try.underlying22 hi hz0 hz1 hz2 rfl (by decide) _ _ _ rfl (HOW.out.alloc _) ⟨wr.heap.size, 0, none⟩ 1 1 [.int .i64 0] rfl rfl (cell_one_new _ _ _) (one_one _ _) (by unfold maxLen; omega) (by omega) (by simp; omega) ?_; intro v1 w1 own1 grow1 _)
        have hb1 : Below w.heap.size w w1 := (HBE.out.alloc hs _).grown grow1 (by simp; omega) (fun k hk => (HOW.out.lt k hk).1)
        have own2 : w1.ownsRow w.heap.size 2 1 v1 (j + 1) ((X.take (j + 1)).map iv) := by
          rw [HXJ.out, List.map_append]; exact own1
        clear grow1 own1
        go_wp2
        go_roundw
        case rel => exact ⟨j + 1, by omega, by go_num, own2, hb1⟩
        case measure => simp [intOf]; omega
    · have hjM : j = M := by omega
      subst hjM
      go_wp2
      go_ret2
      refine ⟨_, rfl, ?_, Kept.of_below HBE.out⟩
      have := HOW.out
      rw [List.take_of_length_le (by rw [HXL.out]; exact Nat.le_refl _)] at this
      rw [HXL.out]
      exact this

theorem refNew_no (N : Int) (a : Option Addr) (n c : Nat) (w : World) (hok : nwOk N n = false) :
    Calls Try.prog 15 #[.int .i64 N, .slice a n c] w fun ex w' => ex = .returned (.tuple #[.slice none 0 0, .bool false]) ∧ w' = w := by
  have h : ¬ (0 ≤ N ∧ N ≤ 4096 ∧ (n : Int) ≤ N) := by simpa [nwOk] using hok
  clear hok
  by_cases h1 : N < 0
  · go_enter Try.func15, Try.ntmps15
    go_wp2
    go_ret2
    exact ⟨rfl, rfl⟩
  · by_cases h2 : N > 4096
    · go_enter Try.func15, Try.ntmps15
      go_wp2
      go_ret2
      exact ⟨rfl, rfl⟩
    · have h3 : N < (n : Int) := by omega
      clear h
      go_enter Try.func15, Try.ntmps15
      go_wp2
      go_ret2
      exact ⟨rfl, rfl⟩

set_option maxHeartbeats 1000000 in
theorem refLoad_any (F : Nat → Prop) (A : Int) (a : Option Addr) (n c : Nat) (xs : List Int) (w : World) (hz : Zs w F a n c xs) :
    Calls Try.prog 22 #[.slice a n c, .int .i64 A] w fun ex w' => ex = .returned (.tuple #[.int .i64 (mmVal xs A), .bool (wi xs.length A 1)]) ∧ w' = w := by
  have hl := hz.len
  have hnc := hz.cap
  have hnm := hz.max
  have cw := refWithin_any n A 1 w (by omega)
  unfold mmVal
  rw [hl]
  cases hk : wi n A 1 with
  | false =>
    rw [hk] at cw
    clear hk hl hz
    go_enter Try.func22, Try.ntmps22
    go_wp2_with (go_at_call 30; refine cw.mono ?_; rintro ex w1 ⟨rfl, hw⟩; obtain rfl := hw.symm)
    go_ret2
    exact ⟨rfl, rfl⟩
  | true =>
    rw [hk] at cw
    have hk2 := wi_iff.1 hk
    obtain ⟨d, rfl⟩ : ∃ d : Nat, A = d := ⟨A.toNat, by omega⟩
    have hd : d < n := by omega
    obtain ⟨b, o, rfl, _, hc⟩ := hz.at' d hd
    rw [Int.toNat_natCast]
    obtain ⟨x, hx⟩ : ∃ x, x = xs.getD d 0 := ⟨_, rfl⟩
    rw [← hx] at hc ⊢
    have hc2 : w.cell? ⟨b, o + d, none⟩ = some (.int .i64 x) := hc
    clear hk hk2 hl hz hx hc
    go_enter Try.func22, Try.ntmps22
    go_wp2_with (go_at_call 30; refine cw.mono ?_; rintro ex w1 ⟨rfl, hw⟩; obtain rfl := hw.symm)
    go_ret2
    exact ⟨rfl, rfl⟩

set_option maxHeartbeats 2000000 in
theorem refRead_yes (F : Nat → Prop) (A N : Int) (a : Option Addr) (n c : Nat) (xs : List Int) (w : World) (hz : Zs w F a n c xs) (hn : n ≤ 4096) (hok : wi n A N = true) :
    Calls Try.prog 24 #[.slice a n c, .int .i64 A, .int .i64 N] w fun ex w' => ∃ v, ex = .returned (.tuple #[v, .bool true]) ∧ w'.ownsRow w.heap.size 2 1 v (rdX xs A N).length ((rdX xs A N).map iv) ∧ Kept No w w' := by
  obtain ⟨i0, hi, hz0, hz1, hz2⟩ := info_parts Try.info2
  have hl := hz.len
  have hnc := hz.cap
  have hnm := hz.max
  have cw := refWithin_any n A N w (by omega)
  rw [hok] at cw
  have hk := wi_iff.1 hok
  obtain ⟨d, rfl⟩ : ∃ d : Nat, A = d := ⟨A.toNat, by omega⟩
  obtain ⟨M, rfl⟩ : ∃ M : Nat, N = M := ⟨N.toNat, by omega⟩
  have h1 : d + M ≤ n := by omega
  obtain ⟨X, hX⟩ : ∃ X, X = rdX xs d M := ⟨_, rfl⟩
  rw [← hX]
  have hXl : X.length = M := by rw [hX]; simp [rdX]; omega
  have HXL : Hid (X.length = M) := hXl
  have HX : Hid (∀ j, j < M → X.getD j 0 = xs.getD (d + j) 0) := fun j hj => by rw [hX]; simp [rdX, List.getD, hj, List.getElem?_drop]
  have HZ : Hid (Zs w F a n c xs) := hz
  clear hz hl hok hk hX hXl
  go_enter Try.func24, Try.ntmps24
  go_wp2_with (go_at_call 30; refine cw.mono ?_; rintro ex w1 ⟨rfl, hw⟩; obtain rfl := hw.symm)
  go_loopw [8, 9] (fun l i wr => ∃ j : Nat, j ≤ M ∧ i = .int .i64 j ∧ wr.ownsRow w.heap.size 2 1 l j ((X.take j).map iv) ∧ Below w.heap.size w wr) (fun _ i _ => M - (intOf i).toNat)
  case atStart => exact ⟨0, by omega, rfl, World.ownsRow_nil _ _ _ _, Below.refl _ _⟩
  case round =>
    obtain ⟨j, hj, rfl, hown, hbel⟩ := hrel
    have HOW : Hid (wr.ownsRow w.heap.size 2 1 u8 j ((X.take j).map iv)) := hown
    have hs := hbel.size
    have HBE : Hid (Below w.heap.size w wr) := hbel
    clear hown hbel
    by_cases hlt : j < M
    · obtain ⟨x, hx⟩ : ∃ x, x = X.getD j 0 := ⟨_, rfl⟩
      have HXJ : Hid (X.take (j + 1) = X.take j ++ [x]) := by
        show X.take (j + 1) = X.take j ++ [x]
        rw [hx]; exact take_more X j (by rw [HXL.out]; exact hlt)
      have e1 : wrap64 ((d : Int) + (j : Int)) = ((d + j : Nat) : Int) := by unfold wrap64; omega
      obtain ⟨b, o, rfl, _, hc⟩ := (HZ.out.kept (Kept.of_below (F := No) HBE.out) (fun _ _ h => h)).at' (d + j) (Nat.lt_of_lt_of_le (Nat.add_lt_add_left hlt d) h1)
      have hc2 : wr.cell? ⟨b, o + (d + j), none⟩ = some (.int .i64 x) := by rw [hc, hx, HX.out j hlt]; rfl
      clear hc hx
      go_wp2_with (at_builtin; refine wpList_append_own _ rfl _ _ 22 rfl w.heap.size 2 i0 (.int .i64 0) 1 8 Try.underlying22 hi hz0 hz1 hz2 rfl (by decide) _ _ _ rfl (HOW.out.alloc _) ⟨wr.heap.size, 0, none⟩ 1 1 [.int .i64 x] rfl rfl (cell_one_new _ _ _) (one_one _ _) (by unfold maxLen; omega) (by omega) (by simp; omega) ?_; intro v1 w1 own1 grow1 _)
      have hb1 : Below w.heap.size w w1 := (HBE.out.alloc hs _).grown grow1 (by simp; omega) (fun k hk => (HOW.out.lt k hk).1)
      have own2 : w1.ownsRow w.heap.size 2 1 v1 (j + 1) ((X.take (j + 1)).map iv) := by
        rw [HXJ.out, List.map_append]; exact own1
      clear grow1 own1
      go_wp2
      go_roundw
      case rel => exact ⟨j + 1, by omega, by go_num, own2, hb1⟩
      case measure => simp [intOf]; omega
    · have hjM : j = M := by omega
      subst hjM
      go_wp2
      go_ret2
      refine ⟨_, rfl, ?_, Kept.of_below HBE.out⟩
      have := HOW.out
      rw [List.take_of_length_le (by rw [HXL.out]; exact Nat.le_refl _)] at this
      rw [HXL.out]
      exact this

theorem refRead_no (A N : Int) (a : Option Addr) (n c : Nat) (w : World) (hn : n ≤ 9223372036854775807) (hok : wi n A N = false) :
    Calls Try.prog 24 #[.slice a n c, .int .i64 A, .int .i64 N] w fun ex w' => ex = .returned (.tuple #[.slice none 0 0, .bool false]) ∧ w' = w := by
  have cw := refWithin_any n A N w (by omega)
  rw [hok] at cw
  clear hok
  go_enter Try.func24, Try.ntmps24
  go_wp2_with (go_at_call 30; refine cw.mono ?_; rintro ex w1 ⟨rfl, hw⟩; obtain rfl := hw.symm)
  go_ret2
  exact ⟨rfl, rfl⟩

end Go.Proofs.Ytgapljgnedbkiaa
