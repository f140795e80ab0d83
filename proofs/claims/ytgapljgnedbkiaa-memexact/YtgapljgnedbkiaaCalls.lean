/-
  The calls of package mem.
-/
import Derived.Test.YtgapljgnedbkiaaRange
import Derived.Test.YtgapljgnedbkiaaCopy
namespace Go.Proofs.Ytgapljgnedbkiaa
open Go.RowKit
set_option linter.unusedVariables false

/-- New: may it be; its words -/
def nwOk (N : Int) (k : Nat) : Bool := decide (0 ≤ N ∧ N ≤ 4096 ∧ (k : Int) ≤ N)
def nwX (N : Int) (xs : List Int) : List Int := xs ++ List.replicate (N.toNat - xs.length) 0
theorem nwX_length {N : Int} {xs : List Int} (h : nwOk N xs.length = true) : ((nwX N xs).length : Int) = N ∧ (nwX N xs).length ≤ 4096 := by
  simp [nwOk] at h
  simp [nwX]
  omega
theorem laid_new (n : Nat) (xs : List Int) (h : xs.length ≤ n) : laid (List.replicate n 0) 0 xs = xs ++ List.replicate (n - xs.length) 0 := by
  simp [laid]

/-- what a read answers -/
def rdX (xs : List Int) (A n : Int) : List Int := (xs.drop A.toNat).take n.toNat
def mmVal (xs : List Int) (A : Int) : Int := if wi xs.length A 1 then xs.getD A.toNat 0 else 0
/-- what a write leaves -/
def wrX (xs : List Int) (fx A : Int) (ds : List Int) : List Int := if wb xs.length fx A ds.length then laid xs A.toNat ds else xs
theorem wrX_length (xs : List Int) (fx A : Int) (ds : List Int) : (wrX xs fx A ds).length = xs.length := by
  unfold wrX
  split
  · rename_i h
    unfold wb at h
    rw [Bool.and_eq_true, wi_iff] at h
    exact laid_length (by omega)
  · rfl

theorem zeros (n : Nat) : (madeCells (Value.int .i64 0).cells (n * 1)).toList = (List.replicate n (0 : Int)).map iv := by
  rw [Nat.mul_one, show (Value.int .i64 0).cells = #[Value.int .i64 0] from rfl, toList_madeCells_one, List.map_replicate]; rfl

theorem made {w w1 : World} {M : Nat} (own1 : w1.ownsRow w.heap.size 2 1 (.slice (some ⟨w.heap.size, 0, none⟩) M M) M (madeCells (Value.int .i64 0).cells (M * 1)).toList) (grow1 : w.grownBy w1 none) :
    Mm w1 w.heap.size (.slice (some ⟨w.heap.size, 0, none⟩) M M) (List.replicate M 0) [] ∧ Kept No w w1 := by
  rw [zeros] at own1
  refine ⟨Mm.of_owns ?_, (Kept.refl No w).grown grow1 (fun k e => by cases e)⟩
  rw [List.length_replicate]
  exact own1
theorem size2 : (Try.prog.info? 2).map (·.size) = some 1 := by kernel_rfl

set_option maxHeartbeats 1000000 in
theorem new_yes (F : Nat → Prop) (N : Int) (a : Option Addr) (n c : Nat) (xs : List Int) (w : World) (hz : Zs w F a n c xs) (hok : nwOk N xs.length = true) :
    Calls Try.prog 6 #[.int .i64 N, .slice a n c] w fun ex w' => ∃ v, ex = .returned (.tuple #[v, .bool true]) ∧ w'.ownsRow w.heap.size 2 1 v (nwX N xs).length ((nwX N xs).map iv) ∧ Kept No w w' := by
  obtain ⟨i0, hi, hz0, hz1, hz2⟩ := info_parts Try.info2
  obtain ⟨h1, h2, h3⟩ : 0 ≤ N ∧ N ≤ 4096 ∧ (xs.length : Int) ≤ N := by simpa [nwOk] using hok
  obtain ⟨M, rfl⟩ : ∃ M : Nat, N = M := ⟨N.toNat, by omega⟩
  have hl := hz.len
  rw [hl] at h3
  have hnc := hz.cap
  have hnm := hz.max
  have HZ : Hid (Zs w F a n c xs) := hz
  have HL : Hid (xs.length = n) := hl
  clear hz hl hok
  go_enter Try.func6, Try.ntmps6
  go_wp2_with (first
    | (at_make; refine wpList_make_full w rfl (.tmp 19) (.tmp 19) 22 rfl w.heap.size 2 i0 (.int .i64 0) 1 Try.underlying22 hi hz0 hz1 .i64 .i64 M M M rfl rfl rfl rfl (by rw [hz2]; omega) (by unfold maxLen; omega) (Nat.le_refl _) ?_; intro w1 own1 grow1; have HM : Hid (Mm w1 w.heap.size (.slice (some ⟨w.heap.size, 0, none⟩) M M) (List.replicate M 0) [] ∧ Kept No w w1) := made own1 grow1; clear own1 grow1)
    | (go_at_call 20; refine (piece_any (some ⟨w.heap.size, 0, none⟩) M M 0 n _ (by omega) (Nat.le_refl _) (by omega)).mono ?_; rintro ex w2 ⟨a', rfl, ha1, ha2, hw⟩; obtain rfl := hw.symm; have HA : Hid (0 < n → a' = some ⟨w.heap.size, 0, none⟩) := (fun h => by rw [ha1 h]; simp [add_none]); clear ha1 ha2))
  obtain ⟨w3, hr3, hmk⟩ := copy_run (P := Try.prog) (w := w1) 22 22 3 2 Try.underlying22 size2 a' a n n n c w.heap.size (.slice (some ⟨w.heap.size, 0, none⟩) M M) (List.replicate M 0) [] HM.out.1 0 xs (by rw [HL.out]; simp) F (HZ.out.kept HM.out.2 (fun _ _ h => h)) (fun h => ⟨w.heap.size, M, by rw [List.length_replicate], HA.out (by rw [HL.out] at h; exact h)⟩) (by rw [HL.out, List.length_replicate]; omega)
  rw [hr3]
  clear hr3
  have HM3 : Hid (Mm w3 w.heap.size (.slice (some ⟨w.heap.size, 0, none⟩) M M) (laid (List.replicate M 0) 0 xs) [] ∧ Kept No w w3) := ⟨hmk.out.1, HM.out.2.trans hmk.out.2 (fun k e => by simp [Value.ownBlock] at e; exact .inr (by omega))⟩
  clear hmk
  go_wp2
  go_ret2
  refine ⟨_, rfl, ?_, HM3.out.2⟩
  have := HM3.out.1
  rw [laid_new M xs (by rw [HL.out]; omega)] at this
  exact this.owns

theorem new_no (N : Int) (a : Option Addr) (n c : Nat) (w : World) (hok : nwOk N n = false) :
    Calls Try.prog 6 #[.int .i64 N, .slice a n c] w fun ex w' => ex = .returned (.tuple #[.slice none 0 0, .bool false]) ∧ w' = w := by
  have h : ¬ (0 ≤ N ∧ N ≤ 4096 ∧ (n : Int) ≤ N) := by simpa [nwOk] using hok
  clear hok
  by_cases h1 : N < 0
  · go_enter Try.func6, Try.ntmps6
    go_wp2
    go_ret2
    exact ⟨rfl, rfl⟩
  · by_cases h2 : N > 4096
    · go_enter Try.func6, Try.ntmps6
      go_wp2
      go_ret2
      exact ⟨rfl, rfl⟩
    · have h3 : N < (n : Int) := by omega
      clear h
      go_enter Try.func6, Try.ntmps6
      go_wp2
      go_ret2
      exact ⟨rfl, rfl⟩

set_option maxHeartbeats 1000000 in
theorem load_any (F : Nat → Prop) (A : Int) (a : Option Addr) (n c : Nat) (xs : List Int) (w : World) (hz : Zs w F a n c xs) :
    Calls Try.prog 10 #[.slice a n c, .int .i64 A] w fun ex w' => ex = .returned (.tuple #[.int .i64 (mmVal xs A), .bool (wi xs.length A 1)]) ∧ w' = w := by
  have hl := hz.len
  have hnc := hz.cap
  have hnm := hz.max
  have cw := within_any n A 1 w (by omega)
  unfold mmVal
  rw [hl]
  cases hk : wi n A 1 with
  | false =>
    rw [hk] at cw
    clear hk hl hz
    go_enter Try.func10, Try.ntmps10
    go_wp2_with (go_at_call 21; refine cw.mono ?_; rintro ex w1 ⟨rfl, hw⟩; obtain rfl := hw.symm)
    go_ret2
    exact ⟨rfl, rfl⟩
  | true =>
    rw [hk] at cw
    have hk2 := wi_iff.1 hk
    obtain ⟨d, rfl⟩ : ∃ d : Nat, A = d := ⟨A.toNat, by omega⟩
    have hd : d < n := by omega
    obtain ⟨b, o, rfl, _, hc⟩ := hz.at' d hd
    rw [Int.toNat_natCast]
    obtain ⟨x, hx⟩ : ∃ x, x = xs.getD d 0 := ⟨_, rfl⟩
    rw [← hx] at hc ⊢
    have hc2 : w.cell? ⟨b, o + d, none⟩ = some (.int .i64 x) := hc
    clear hk hk2 hl hz hx hc
    go_enter Try.func10, Try.ntmps10
    go_wp2_with (go_at_call 21; refine cw.mono ?_; rintro ex w1 ⟨rfl, hw⟩; obtain rfl := hw.symm)
    go_ret2
    exact ⟨rfl, rfl⟩

set_option maxHeartbeats 1000000 in
theorem read_yes (F : Nat → Prop) (A N : Int) (a : Option Addr) (n c : Nat) (xs : List Int) (w : World) (hz : Zs w F a n c xs) (hn : n ≤ 4096) (hok : wi n A N = true) :
    Calls Try.prog 8 #[.slice a n c, .int .i64 A, .int .i64 N] w fun ex w' => ∃ v, ex = .returned (.tuple #[v, .bool true]) ∧ w'.ownsRow w.heap.size 2 1 v (rdX xs A N).length ((rdX xs A N).map iv) ∧ Kept No w w' := by
  obtain ⟨i0, hi, hz0, hz1, hz2⟩ := info_parts Try.info2
  have hl := hz.len
  have hnc := hz.cap
  have hnm := hz.max
  have cw := within_any n A N w (by omega)
  rw [hok] at cw
  have hk := wi_iff.1 hok
  obtain ⟨d, rfl⟩ : ∃ d : Nat, A = d := ⟨A.toNat, by omega⟩
  obtain ⟨M, rfl⟩ : ∃ M : Nat, N = M := ⟨N.toNat, by omega⟩
  have h1 : d + M ≤ n := by omega
  unfold rdX
  rw [Int.toNat_natCast, Int.toNat_natCast]
  obtain ⟨X, hX⟩ : ∃ X, X = (xs.drop d).take M := ⟨_, rfl⟩
  rw [← hX]
  have hXl : X.length = M := by rw [hX]; simp; omega
  have HXL : Hid (X.length = M) := hXl
  have HX : Hid (X = (xs.drop d).take M) := hX
  have HZ : Hid (Zs w F a n c xs) := hz
  clear hz hl hok hk hX hXl
  go_enter Try.func8, Try.ntmps8
  go_wp2_with (first
    | (go_at_call 21; refine cw.mono ?_; rintro ex w1 ⟨rfl, hw⟩; obtain rfl := hw.symm)
    | (at_make; refine wpList_make_full w rfl (.tmp 15) (.tmp 15) 22 rfl w.heap.size 2 i0 (.int .i64 0) 1 Try.underlying22 hi hz0 hz1 .i64 .i64 M M M rfl rfl rfl rfl (by rw [hz2]; omega) (by unfold maxLen; omega) (Nat.le_refl _) ?_; intro w1 own1 grow1; have HM : Hid (Mm w1 w.heap.size (.slice (some ⟨w.heap.size, 0, none⟩) M M) (List.replicate M 0) [] ∧ Kept No w w1) := made own1 grow1; clear own1 grow1)
    | (go_at_call 20; refine (piece_any a n c d M _ (by omega) (by omega) (by omega)).mono ?_; rintro ex w2 ⟨a', rfl, ha1, ha2, hw⟩; obtain rfl := hw.symm; have HA : Hid ((0 < M → a' = a.map (·.add d)) ∧ (a' = none → a = none)) := ⟨ha1, ha2⟩; clear ha1 ha2))
  obtain ⟨w3, hr3, hmk⟩ := copy_run (P := Try.prog) (w := w1) 22 22 3 2 Try.underlying22 size2 (some ⟨w.heap.size, 0, none⟩) a' M M M M w.heap.size (.slice (some ⟨w.heap.size, 0, none⟩) M M) (List.replicate M 0) [] HM.out.1 0 X (by rw [HXL.out]; simp) F (by rw [HX.out]; exact (HZ.out.kept HM.out.2 (fun _ _ h => h)).piece d M M h1 (Nat.le_refl _) (by omega) a' HA.out.1 (fun h => by have h2 := HA.out.2 h; have h3 := HZ.out.nil h2; omega)) (fun h => ⟨w.heap.size, M, by rw [List.length_replicate], rfl⟩) (by rw [HXL.out, List.length_replicate]; omega)
  rw [hr3]
  clear hr3
  have HM3 : Hid (Mm w3 w.heap.size (.slice (some ⟨w.heap.size, 0, none⟩) M M) (laid (List.replicate M 0) 0 X) [] ∧ Kept No w w3) := ⟨hmk.out.1, HM.out.2.trans hmk.out.2 (fun k e => by simp [Value.ownBlock] at e; exact .inr (by omega))⟩
  clear hmk
  go_wp2
  go_ret2
  refine ⟨_, rfl, ?_, HM3.out.2⟩
  have := HM3.out.1
  rw [laid_new M X (by rw [HXL.out]; omega), HXL.out, Nat.sub_self, List.replicate_zero, List.append_nil] at this
  exact this.owns

theorem read_no (A N : Int) (a : Option Addr) (n c : Nat) (w : World) (hn : n ≤ 9223372036854775807) (hok : wi n A N = false) :
    Calls Try.prog 8 #[.slice a n c, .int .i64 A, .int .i64 N] w fun ex w' => ex = .returned (.tuple #[.slice none 0 0, .bool false]) ∧ w' = w := by
  have cw := within_any n A N w (by omega)
  rw [hok] at cw
  clear hok
  go_enter Try.func8, Try.ntmps8
  go_wp2_with (go_at_call 21; refine cw.mono ?_; rintro ex w1 ⟨rfl, hw⟩; obtain rfl := hw.symm)
  go_ret2
  exact ⟨rfl, rfl⟩

set_option maxHeartbeats 1000000 in
theorem write_any (F : Nat → Prop) (B : Nat) (fx A : Int) (a ad : Option Addr) (n c nd cd : Nat) (xs ys ds : List Int) (w : World) (hm : Mm w B (.slice a n c) xs ys) (hl : xs.length = n) (hz : Zs w F ad nd cd ds) :
    Calls Try.prog 12 #[.slice a n c, .int .i64 fx, .int .i64 A, .slice ad nd cd] w fun ex w' => ex = .returned (.bool (wb n fx A nd)) ∧ Mm w' B (.slice a n c) (wrX xs fx A ds) ys ∧ Kept (fun k => (Value.slice a n c).ownBlock = some k) w w' := by
  have hlz := hz.len
  obtain ⟨hc, hmx⟩ : n ≤ c ∧ c ≤ 9223372036854775807 := by
    obtain ⟨a', c', hv, hzz⟩ := hm.zs
    injection hv with _ _ h3
    subst h3
    have h1 := hzz.cap
    have h2 := hzz.max
    omega
  have cw := writable_any n fx A nd w (by omega)
  unfold wrX
  rw [hl, hlz]
  cases hk : wb n fx A nd with
  | false =>
    rw [hk] at cw
    have HM : Hid (Mm w B (.slice a n c) xs ys) := hm
    clear hk hm hz hl hlz
    go_enter Try.func12, Try.ntmps12
    go_wp2_with (go_at_call 9; refine cw.mono ?_; rintro ex w1 ⟨rfl, hw⟩; obtain rfl := hw.symm)
    go_ret
    exact ⟨rfl, HM.out, Kept.refl _ _⟩
  | true =>
    rw [hk] at cw
    have hk2 := hk
    unfold wb at hk2
    rw [Bool.and_eq_true, wi_iff] at hk2
    obtain ⟨d, rfl⟩ : ∃ d : Nat, A = d := ⟨A.toNat, by omega⟩
    have h1 : d + nd ≤ n := by omega
    rw [Int.toNat_natCast, if_pos rfl]
    have HM : Hid (Mm w B (.slice a n c) xs ys) := hm
    have HZ : Hid (Zs w F ad nd cd ds) := hz
    have HL : Hid (xs.length = n ∧ ds.length = nd) := ⟨hl, hlz⟩
    clear hk hk2 hm hz hl hlz
    go_enter Try.func12, Try.ntmps12
    go_wp2_with (first
      | (go_at_call 9; refine cw.mono ?_; rintro ex w1 ⟨rfl, hw⟩; obtain rfl := hw.symm)
      | (go_at_call 20; refine (piece_any a n c d nd _ (by omega) (by omega) (by omega)).mono ?_; rintro ex w2 ⟨a', rfl, ha1, ha2, hw⟩; obtain rfl := hw.symm; have HA : Hid (0 < nd → a' = a.map (·.add d)) := ha1; clear ha1 ha2))
    obtain ⟨w3, hr3, hmk⟩ := copy_run (P := Try.prog) (w := w) 22 22 3 2 Try.underlying22 size2 a' ad nd nd nd cd B (.slice a n c) xs ys HM.out d ds (by rw [HL.out.2]; simp) F HZ.out (fun h => by
          have h0 : 0 < nd := by rw [HL.out.2] at h; exact h
          rcases HM.out with ⟨hv, h2, _⟩ | ⟨g, cap, hv, _⟩
          · have := HL.out.1; rw [h2] at this; simp at this; omega
          · refine ⟨g, cap, hv, ?_⟩
            injection hv with h3 _ _
            rw [HA.out h0, h3]; simp [add_none]) (by rw [HL.out.1, HL.out.2]; exact h1)
    rw [hr3]
    clear hr3
    have HM3 := hmk
    clear hmk
    go_wp2
    go_ret
    exact ⟨rfl, HM3.out.1, HM3.out.2⟩

set_option maxHeartbeats 1000000 in
theorem store_any (B : Nat) (fx A V : Int) (a : Option Addr) (n c : Nat) (xs ys : List Int) (w : World) (hm : Mm w B (.slice a n c) xs ys) (hl : xs.length = n) :
    Calls Try.prog 13 #[.slice a n c, .int .i64 fx, .int .i64 A, .int .i64 V] w fun ex w' => ex = .returned (.bool (wb n fx A 1)) ∧ Mm w' B (.slice a n c) (wrX xs fx A [V]) ys ∧ Kept (fun k => (Value.slice a n c).ownBlock = some k) w w' := by
  obtain ⟨hc, hmx⟩ : n ≤ c ∧ c ≤ 9223372036854775807 := by
    obtain ⟨a', c', hv, hzz⟩ := hm.zs
    injection hv with _ _ h3
    subst h3
    have h1 := hzz.cap
    have h2 := hzz.max
    omega
  have cw := writable_any n fx A 1 w (by omega)
  unfold wrX
  rw [hl, show (([V] : List Int).length : Int) = 1 from rfl]
  cases hk : wb n fx A 1 with
  | false =>
    rw [hk] at cw
    have HM : Hid (Mm w B (.slice a n c) xs ys) := hm
    clear hk hm hl
    go_enter Try.func13, Try.ntmps13
    go_wp2_with (go_at_call 9; refine cw.mono ?_; rintro ex w1 ⟨rfl, hw⟩; obtain rfl := hw.symm)
    go_ret
    exact ⟨rfl, HM.out, Kept.refl _ _⟩
  | true =>
    rw [hk] at cw
    have hk2 := hk
    unfold wb at hk2
    rw [Bool.and_eq_true, wi_iff] at hk2
    obtain ⟨d, rfl⟩ : ∃ d : Nat, A = d := ⟨A.toNat, by omega⟩
    have h1 : d < n := by omega
    rw [Int.toNat_natCast, if_pos rfl]
    rcases hm with ⟨hv, h2, _⟩ | ⟨g, cap, hv, ho⟩
    · rw [h2] at hl; simp at hl; omega
    · have hm : Mm w B (.slice a n c) xs ys := .inr ⟨g, cap, hv, ho⟩
      injection hv with h3 h4 h5
      subst h3
      have hc1 := hm.at_ (g := g) rfl (i := d) (by omega)
      have hf1 := hm.fz (g := g) rfl d
      have hset := hm.set_ (g := g) rfl (i := d) (by omega) V
      have HS : Hid (Mm (w.setCell ⟨g, d, none⟩ (.int .i64 V)) B (.slice (some ⟨g, 0, none⟩) n c) (laid xs d [V]) ys) := by
        have e : laid xs d [V] = xs.set d V := by
          unfold laid
          rw [List.set_eq_take_append_cons_drop, if_pos (by omega)]
          rfl
        show Mm _ _ _ _ _
        rw [e]; exact hset
      clear hk hk2 hm hl ho hset h4 h5
      unfold iv at hc1
      go_enter Try.func13, Try.ntmps13
      go_wp2_with (go_at_call 9; refine cw.mono ?_; rintro ex w1 ⟨rfl, hw⟩; obtain rfl := hw.symm)
      go_ret
      exact ⟨rfl, HS.out, (Kept.refl (fun k => (Value.slice (some ⟨g, 0, none⟩) n c).ownBlock = some k) _).setCell (p := ⟨g, d, none⟩) (.inl rfl) _⟩

end Go.Proofs.Ytgapljgnedbkiaa
