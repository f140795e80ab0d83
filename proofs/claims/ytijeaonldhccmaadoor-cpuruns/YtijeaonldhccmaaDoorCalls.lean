/-
  The calls of package mem.
-/
import Derived.Test.YtijeaonldhccmaaDoorRange
import Derived.Test.YtijeaonldhccmaaDoorCopy
namespace Go.Proofs.YtijeaonldhccmaaDoor
open Go.RowKit
set_option linter.unusedVariables false

/-- New: may it be; its words -/
def nwOk (N : Int) (k : Nat) : Bool := decide (0 ≤ N ∧ N ≤ 4096 ∧ (k : Int) ≤ N)
def nwX (N : Int) (xs : List Int) : List Int := xs ++ List.replicate (N.toNat - xs.length) 0
theorem nwX_length {N : Int} {xs : List Int} (h : nwOk N xs.length = true) : ((nwX N xs).length : Int) = N ∧ (nwX N xs).length ≤ 4096 := by
  simp [nwOk] at h
  simp [nwX]
  omega
theorem laid_new (n : Nat) (xs : List Int) (h : xs.length ≤ n) : laid (List.replicate n 0) 0 xs = xs ++ List.replicate (n - xs.length) 0 := by
  simp [laid]

/-- what a read answers -/
def rdX (xs : List Int) (A n : Int) : List Int := (xs.drop A.toNat).take n.toNat
def mmVal (xs : List Int) (A : Int) : Int := if wi xs.length A 1 then xs.getD A.toNat 0 else 0
/-- what a write leaves -/
def wrX (xs : List Int) (fx A : Int) (ds : List Int) : List Int := if wb xs.length fx A ds.length then laid xs A.toNat ds else xs
theorem wrX_length (xs : List Int) (fx A : Int) (ds : List Int) : (wrX xs fx A ds).length = xs.length := by
  unfold wrX
  split
  · rename_i h
    unfold wb at h
    rw [Bool.and_eq_true, wi_iff] at h
    exact laid_length (by omega)
  · rfl

theorem zeros (n : Nat) : (madeCells (Value.int .i64 0).cells (n * 1)).toList = (List.replicate n (0 : Int)).map iv := by
  rw [Nat.mul_one, show (Value.int .i64 0).cells = #[Value.int .i64 0] from rfl, toList_madeCells_one, List.map_replicate]; rfl

theorem made {w w1 : World} {M : Nat} (own1 : w1.ownsRow w.heap.size 2 1 (.slice (some ⟨w.heap.size, 0, none⟩) M M) M (madeCells (Value.int .i64 0).cells (M * 1)).toList) (grow1 : w.grownBy w1 none) :
    Mm w1 w.heap.size (.slice (some ⟨w.heap.size, 0, none⟩) M M) (List.replicate M 0) [] ∧ Kept No w w1 := by
  rw [zeros] at own1
  refine ⟨Mm.of_owns ?_, (Kept.refl No w).grown grow1 (fun k e => by cases e)⟩
  rw [List.length_replicate]
  exact own1
theorem size2 : (Tryd.prog.info? 2).map (·.size) = some 1 := by kernel_rfl

set_option maxHeartbeats 1000000 in
theorem load_any (F : Nat → Prop) (A : Int) (a : Option Addr) (n c : Nat) (xs : List Int) (w : World) (hz : Zs w F a n c xs) :
    Calls Tryd.prog 82 #[.slice a n c, .int .i64 A] w fun ex w' => ex = .returned (.tuple #[.int .i64 (mmVal xs A), .bool (wi xs.length A 1)]) ∧ w' = w := by
  have hl := hz.len
  have hnc := hz.cap
  have hnm := hz.max
  have cw := within_any n A 1 w (by omega)
  unfold mmVal
  rw [hl]
  cases hk : wi n A 1 with
  | false =>
    rw [hk] at cw
    clear hk hl hz
    go_enter Tryd.func82, Tryd.ntmps82
    go_wp2_with (go_at_call 70; refine cw.mono ?_; rintro ex w1 ⟨rfl, hw⟩; obtain rfl := hw.symm)
    go_ret2
    exact ⟨rfl, rfl⟩
  | true =>
    rw [hk] at cw
    have hk2 := wi_iff.1 hk
    obtain ⟨d, rfl⟩ : ∃ d : Nat, A = d := ⟨A.toNat, by omega⟩
    have hd : d < n := by omega
    obtain ⟨b, o, rfl, _, hc⟩ := hz.at' d hd
    rw [Int.toNat_natCast]
    obtain ⟨x, hx⟩ : ∃ x, x = xs.getD d 0 := ⟨_, rfl⟩
    rw [← hx] at hc ⊢
    have hc2 : w.cell? ⟨b, o + d, none⟩ = some (.int .i64 x) := hc
    clear hk hk2 hl hz hx hc
    go_enter Tryd.func82, Tryd.ntmps82
    go_wp2_with (go_at_call 70; refine cw.mono ?_; rintro ex w1 ⟨rfl, hw⟩; obtain rfl := hw.symm)
    go_ret2
    exact ⟨rfl, rfl⟩

set_option maxHeartbeats 1000000 in
theorem read_yes (F : Nat → Prop) (A N : Int) (a : Option Addr) (n c : Nat) (xs : List Int) (w : World) (hz : Zs w F a n c xs) (hn : n ≤ 17592186043904) (hok : wi n A N = true) :
    Calls Tryd.prog 29 #[.slice a n c, .int .i64 A, .int .i64 N] w fun ex w' => ∃ v, ex = .returned (.tuple #[v, .bool true]) ∧ w'.ownsRow w.heap.size 2 1 v (rdX xs A N).length ((rdX xs A N).map iv) ∧ Kept No w w' := by
  obtain ⟨i0, hi, hz0, hz1, hz2⟩ := info_parts Tryd.info2
  have hl := hz.len
  have hnc := hz.cap
  have hnm := hz.max
  have cw := within_any n A N w (by omega)
  rw [hok] at cw
  have hk := wi_iff.1 hok
  obtain ⟨d, rfl⟩ : ∃ d : Nat, A = d := ⟨A.toNat, by omega⟩
  obtain ⟨M, rfl⟩ : ∃ M : Nat, N = M := ⟨N.toNat, by omega⟩
  have h1 : d + M ≤ n := by omega
  unfold rdX
  rw [Int.toNat_natCast, Int.toNat_natCast]
  obtain ⟨X, hX⟩ : ∃ X, X = (xs.drop d).take M := ⟨_, rfl⟩
  rw [← hX]
  have hXl : X.length = M := by rw [hX]; simp; omega
  have HXL : Hid (X.length = M) := hXl
  have HX : Hid (X = (xs.drop d).take M) := hX
  have HZ : Hid (Zs w F a n c xs) := hz
  clear hz hl hok hk hX hXl
  go_enter Tryd.func29, Tryd.ntmps29
  go_wp2_with (first
    | (go_at_call 70; refine cw.mono ?_; rintro ex w1 ⟨rfl, hw⟩; obtain rfl := hw.symm)
    | (at_make; refine wpList_make_full w rfl (.tmp 15) (.tmp 15) 34 rfl w.heap.size 2 i0 (.int .i64 0) 1 Tryd.underlying34 hi hz0 hz1 .i64 .i64 M M M rfl rfl rfl rfl (by rw [hz2]; omega) (by unfold maxLen; omega) (Nat.le_refl _) ?_; intro w1 own1 grow1; have HM : Hid (Mm w1 w.heap.size (.slice (some ⟨w.heap.size, 0, none⟩) M M) (List.replicate M 0) [] ∧ Kept No w w1) := made own1 grow1; clear own1 grow1)
    | (go_at_call 71; refine (piece_any a n c d M _ (by omega) (by omega) (by omega)).mono ?_; rintro ex w2 ⟨a', rfl, ha1, ha2, hw⟩; obtain rfl := hw.symm; have HA : Hid ((0 < M → a' = a.map (·.add d)) ∧ (a' = none → a = none)) := ⟨ha1, ha2⟩; clear ha1 ha2))
  obtain ⟨w3, hr3, hmk⟩ := copy_run (P := Tryd.prog) (w := w1) 34 34 3 2 Tryd.underlying34 size2 (some ⟨w.heap.size, 0, none⟩) a' M M M M w.heap.size (.slice (some ⟨w.heap.size, 0, none⟩) M M) (List.replicate M 0) [] HM.out.1 0 X (by rw [HXL.out]; simp) F (by rw [HX.out]; exact (HZ.out.kept HM.out.2 (fun _ _ h => h)).piece d M M h1 (Nat.le_refl _) (by omega) a' HA.out.1 (fun h => by have h2 := HA.out.2 h; have h3 := HZ.out.nil h2; omega)) (fun h => ⟨w.heap.size, M, by rw [List.length_replicate], rfl⟩) (by rw [HXL.out, List.length_replicate]; omega)
  rw [hr3]
  clear hr3
  have HM3 : Hid (Mm w3 w.heap.size (.slice (some ⟨w.heap.size, 0, none⟩) M M) (laid (List.replicate M 0) 0 X) [] ∧ Kept No w w3) := ⟨hmk.out.1, HM.out.2.trans hmk.out.2 (fun k e => by simp [Value.ownBlock] at e; exact .inr (by omega))⟩
  clear hmk
  go_wp2
  go_ret2
  refine ⟨_, rfl, ?_, HM3.out.2⟩
  have := HM3.out.1
  rw [laid_new M X (by rw [HXL.out]; omega), HXL.out, Nat.sub_self, List.replicate_zero, List.append_nil] at this
  exact this.owns

theorem read_no (A N : Int) (a : Option Addr) (n c : Nat) (w : World) (hn : n ≤ 9223372036854775807) (hok : wi n A N = false) :
    Calls Tryd.prog 29 #[.slice a n c, .int .i64 A, .int .i64 N] w fun ex w' => ex = .returned (.tuple #[.slice none 0 0, .bool false]) ∧ w' = w := by
  have cw := within_any n A N w (by omega)
  rw [hok] at cw
  clear hok
  go_enter Tryd.func29, Tryd.ntmps29
  go_wp2_with (go_at_call 70; refine cw.mono ?_; rintro ex w1 ⟨rfl, hw⟩; obtain rfl := hw.symm)
  go_ret2
  exact ⟨rfl, rfl⟩

set_option maxHeartbeats 1000000 in
theorem store_any (B : Nat) (fx A V : Int) (a : Option Addr) (n c : Nat) (xs ys : List Int) (w : World) (hm : Mm w B (.slice a n c) xs ys) (hl : xs.length = n) :
    Calls Tryd.prog 30 #[.slice a n c, .int .i64 fx, .int .i64 A, .int .i64 V] w fun ex w' => ex = .returned (.bool (wb n fx A 1)) ∧ Mm w' B (.slice a n c) (wrX xs fx A [V]) ys ∧ Kept (fun k => (Value.slice a n c).ownBlock = some k) w w' := by
  obtain ⟨hc, hmx⟩ : n ≤ c ∧ c ≤ 9223372036854775807 := by
    obtain ⟨a', c', hv, hzz⟩ := hm.zs
    injection hv with _ _ h3
    subst h3
    have h1 := hzz.cap
    have h2 := hzz.max
    omega
  have cw := writable_any n fx A 1 w (by omega)
  unfold wrX
  rw [hl, show (([V] : List Int).length : Int) = 1 from rfl]
  cases hk : wb n fx A 1 with
  | false =>
    rw [hk] at cw
    have HM : Hid (Mm w B (.slice a n c) xs ys) := hm
    clear hk hm hl
    go_enter Tryd.func30, Tryd.ntmps30
    go_wp2_with (go_at_call 72; refine cw.mono ?_; rintro ex w1 ⟨rfl, hw⟩; obtain rfl := hw.symm)
    go_ret
    exact ⟨rfl, HM.out, Kept.refl _ _⟩
  | true =>
    rw [hk] at cw
    have hk2 := hk
    unfold wb at hk2
    rw [Bool.and_eq_true, wi_iff] at hk2
    obtain ⟨d, rfl⟩ : ∃ d : Nat, A = d := ⟨A.toNat, by omega⟩
    have h1 : d < n := by omega
    rw [Int.toNat_natCast, if_pos rfl]
    rcases hm with ⟨hv, h2, _⟩ | ⟨g, cap, hv, ho⟩
    · rw [h2] at hl; simp at hl; omega
    · have hm : Mm w B (.slice a n c) xs ys := .inr ⟨g, cap, hv, ho⟩
      injection hv with h3 h4 h5
      subst h3
      have hc1 := hm.at_ (g := g) rfl (i := d) (by omega)
      have hf1 := hm.fz (g := g) rfl d
      have hset := hm.set_ (g := g) rfl (i := d) (by omega) V
      have HS : Hid (Mm (w.setCell ⟨g, d, none⟩ (.int .i64 V)) B (.slice (some ⟨g, 0, none⟩) n c) (laid xs d [V]) ys) := by
        have e : laid xs d [V] = xs.set d V := by
          unfold laid
          rw [List.set_eq_take_append_cons_drop, if_pos (by omega)]
          rfl
        show Mm _ _ _ _ _
        rw [e]; exact hset
      clear hk hk2 hm hl ho hset h4 h5
      unfold iv at hc1
      go_enter Tryd.func30, Tryd.ntmps30
      go_wp2_with (go_at_call 72; refine cw.mono ?_; rintro ex w1 ⟨rfl, hw⟩; obtain rfl := hw.symm)
      go_ret
      exact ⟨rfl, HS.out, (Kept.refl (fun k => (Value.slice (some ⟨g, 0, none⟩) n c).ownBlock = some k) _).setCell (p := ⟨g, d, none⟩) (.inl rfl) _⟩

end Go.Proofs.YtijeaonldhccmaaDoor
