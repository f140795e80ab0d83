/-
  works, ordered, kept.
-/
import Derived.Test.YteiakmjdjaodlaaRLawA
namespace Go.Proofs.Yteiakmjdjaodlaa
open Go.Shelf Go.RowKit Go.Lib Go.Sort
set_option linter.unusedVariables false
set_option maxRecDepth 100000

theorem row_new (w : World) (xs : List Int) (hx : xs.length ≤ 1000) : (w.alloc (.cells (xs.map iv).toArray 3)).ownsRow w.heap.size 3 1 (.slice (some ⟨w.heap.size, 0, none⟩) xs.length xs.length) xs.length (xs.map iv) :=
  ⟨by simp, .inr ⟨w.heap.size, xs.length, (xs.map iv).toArray, rfl, Nat.le_refl _, heap_last _ _, Nat.le_refl _, by unfold maxLen; omega, by simp, by rw [Nat.mul_one]; exact List.take_of_length_le (by simp)⟩⟩
/-- a line whose blocks are new since W -/
def Lw (W w : World) (b mo nx : Nat) (S : List En) : Prop := ∃ F, Ln w F b mo nx S ∧ (∀ k, F k → W.heap.size ≤ k ∧ k < w.heap.size) ∧ Below W.heap.size W w
namespace Lw
variable {W w w' : World} {b mo nx : Nat} {S : List En}
theorem bel (h : Lw W w b mo nx S) : Below W.heap.size W w := by obtain ⟨_, _, _, h⟩ := h; exact h
theorem ok (h : Lw W w b mo nx S) : Okl mo nx S := by obtain ⟨_, h, _⟩ := h; exact h.2.1
theorem mo_le (h : Lw W w b mo nx S) : mo ≤ 65535 := by obtain ⟨_, h, _⟩ := h; exact h.1
theorem below (h : Lw W w b mo nx S) (k : Below w.heap.size w w') : Lw W w' b mo nx S := by
  obtain ⟨F, h1, h2, h3⟩ := h
  exact ⟨F, h1.below k, fun j hj => ⟨(h2 j hj).1, Nat.lt_of_lt_of_le (h2 j hj).2 k.size⟩, h3.trans (k.mono h3.size)⟩
/-- it is turned: what is not its own stays -/
theorem turned {F F' : Nat → Prop} {nx' : Nat} {S' : List En} (h3 : Below W.heap.size W w) (h2 : ∀ k, F k → W.heap.size ≤ k ∧ k < w.heap.size) (h1 : Ln w' F' b mo nx' S') (hK : Kept F w w') (hF : ∀ k, F' k → F k ∨ w.heap.size ≤ k) : Lw W w' b mo nx' S' := by
  refine ⟨_, h1.bound, fun k hk => ⟨?_, hk.2⟩, h3.trans (hK.below (fun k hk => (h2 k hk).1) h3.size)⟩
  rcases hF k hk.1 with e | e
  · exact (h2 k e).1
  · exact Nat.le_trans h3.size e
end Lw
theorem lw_new (n : Nat) (hn : n ≤ 65535) (W : World) : Calls Try.prog 5 #[.int .i64 n] W fun ex w' => ∃ b, ex = .returned (.tuple #[.pointer (some ⟨b, 0, none⟩), .bool true]) ∧ Lw W w' b n 0 [] := by
  refine (new_yes n hn W).mono ?_
  rintro ex w' ⟨b, rfl, h1, h2⟩
  exact ⟨b, rfl, _, h1.bound, fun k hk => hk, h2⟩

set_option maxHeartbeats 1000000 in
theorem works_any (w : World) : Calls Try.prog 6 #[] w fun ex w' => ex = .returned (.bool true) ∧ Below w.heap.size w w' := by
  have cN := new_yes 3 (by omega) w
  go_enter Try.func6, Try.ntmps6
  go_upto_region 4 with (go_at_call 5; refine cN.mono ?_; rintro ex w1 ⟨b, rfl, hL1, hb1⟩)
  have c1 := put_yes hL1 1 5 (by omega) (by omega) (by unfold I6; omega) (by omega)
  rw [show insE ⟨1, 5, ((0 : Nat) : Int)⟩ (outE 1 []) = [⟨1, 5, 0⟩] from rfl] at c1
  have HB1 : Hid (Below w.heap.size w w1) := hb1
  clear cN hL1 hb1
  go_upto_region 5 with (first
    | (go_at_call 8; refine c1.mono ?_; rintro ex w2 ⟨rfl, F2, hL2, hK2, hF2⟩; have c2 := put_yes hL2 2 5 (by omega) (by omega) (by unfold I6; omega) (by omega); rw [show insE ⟨2, 5, ((0 + 1 : Nat) : Int)⟩ (outE 2 [⟨1, 5, 0⟩]) = [⟨1, 5, 0⟩, ⟨2, 5, 1⟩] from rfl] at c2; clear c1 hL2)
    | (go_at_call 8; refine c2.mono ?_; rintro ex w3 ⟨rfl, F3, hL3, hK3, hF3⟩; have c3 := put_yes hL3 3 9 (by omega) (by omega) (by unfold I6; omega) (by omega); rw [show insE ⟨3, 9, ((0 + 1 + 1 : Nat) : Int)⟩ (outE 3 [⟨1, 5, 0⟩, ⟨2, 5, 1⟩]) = [⟨3, 9, 2⟩, ⟨1, 5, 0⟩, ⟨2, 5, 1⟩] from rfl] at c3; clear c2 hL3)
    | (go_at_call 8; refine c3.mono ?_; rintro ex w4 ⟨rfl, F4, hL4, hK4, hF4⟩))
  have HB4 : Hid (Below w.heap.size w w4) := (by
    have h2 := HB1.out.trans (hK2.below (fun k hk => hk) HB1.out.size)
    have f2 : ∀ k, F2 k → w.heap.size ≤ k := fun k hk => by
      rcases hF2 k hk with e | e
      · exact e
      · exact Nat.le_trans HB1.out.size e
    have h3 := h2.trans (hK3.below f2 h2.size)
    have f3 : ∀ k, F3 k → w.heap.size ≤ k := fun k hk => by
      rcases hF3 k hk with e | e
      · exact f2 k e
      · exact Nat.le_trans h2.size e
    exact h3.trans (hK4.below f3 h3.size))
  have cL := list_any hL4
  clear c3 hL4 hK4 hF4 hK3 hF3 hK2 hF2 HB1
  rw [show idL [⟨3, 9, 2⟩, ⟨1, 5, 0⟩, ⟨2, 5, 1⟩] = [3, 1, 2] from rfl] at cL
  go_wp2_with (first
    | (go_at_call 7; refine cL.mono ?_; rintro ex w5 ⟨u, rfl, own5, hb5⟩; have cS := same_eq [3, 1, 2] u (.slice (some ⟨w5.heap.size, 0, none⟩) 3 3) 3 (w5.alloc (.cells #[.int .i64 3, .int .i64 1, .int .i64 2] 3)) ((owns_base own5 (Nat.zero_le _)).alloc _) (owns_base (row_new w5 [3, 1, 2] (by decide)) (Nat.zero_le _)); have HB5 : Hid (Below w4.heap.size w4 w5) := hb5; clear cL own5 hb5)
    | (go_at_call 19; refine cS.mono ?_; rintro ex w6 ⟨rfl, q6, hw6⟩))
  go_ret
  refine ⟨rfl, ?_⟩
  exact (HB4.out.trans (HB5.out.mono HB4.out.size)).trans (((Kept.refl No w5).alloc (.cells #[.int .i64 3, .int .i64 1, .int .i64 2] 3)).drewN q6 |>.below0.mono (Nat.le_trans HB4.out.size HB5.out.size))

set_option maxHeartbeats 1000000 in
theorem ordered_any {W : World} {F : Nat → Prop} {b mo nx : Nat} {S : List En} (h : Ln W F b mo nx S) : Calls Try.prog 13 #[.pointer (some ⟨b, 0, none⟩)] W fun ex w' => ex = .returned (.bool true) ∧ Below W.heap.size W w' := by
  have HL : Hid (Ln W F b mo nx S) := h
  have HOK : Hid (Okl mo nx S) := h.2.1
  have hfew : S.length ≤ 65536 := by have := h.2.1.few; have := h.1; omega
  have HI : Hid (∀ x, x ∈ S → I6 x.id) := (fun x hx => h.2.1.ci h.1 x hx)
  have cL := list_any h
  generalize hn : S.length = n at *
  have HN : Hid (S.length = n) := hn
  clear h hn
  go_enter Try.func13, Try.ntmps13
  go_upto_region 2 with (go_at_call 7; refine cL.mono ?_; rintro ex w1 ⟨u, rfl, own1, hb1⟩)
  obtain ⟨a, c, hu, hc1, hc2⟩ : ∃ a c, u = .slice a n c ∧ n ≤ c ∧ c ≤ 9223372036854775807 := by
    obtain ⟨_, a, c, e, h1, h2, _⟩ := owns_ints own1
    exact ⟨a, c, e, h1, h2⟩
  subst hu
  have HR : Hid (w1.ownsRow 0 3 1 (.slice a n c) n ((idL S).map iv) ∧ Below W.heap.size W w1) := ⟨owns_base own1 (Nat.zero_le _), hb1⟩
  clear cL own1 hb1
  go_wp2
  go_loopw [4] (fun d wr => ∃ j : Nat, j ≤ n ∧ d = .int .i64 j ∧ wr.ownsRow 0 3 1 (.slice a n c) n ((idL S).map iv) ∧ Below W.heap.size W wr) (fun d _ => n - (intOf d).toNat)
  case atStart => exact ⟨0, Nat.zero_le _, rfl, HR.out⟩
  case round =>
    clear HR
    obtain ⟨j, hj, rfl, hrow, hbel⟩ := hrel
    have HR : Hid (wr.ownsRow 0 3 1 (.slice a n c) n ((idL S).map iv) ∧ Below W.heap.size W wr) := ⟨hrow, hbel⟩
    by_cases hlt : j < n
    · obtain ⟨x, hx⟩ : ∃ x, S[j]? = some x := ⟨_, List.getElem?_eq_getElem (by rw [HN.out]; exact hlt)⟩
      have hxS : x ∈ S := List.mem_of_getElem? hx
      obtain ⟨g, rfl, r0, _⟩ : ∃ g, a = some ⟨g, 0, none⟩ ∧ wr.cell? ⟨g, j, none⟩ = some (.int .i64 x.id) ∧ wr.frozen? ⟨g, j, none⟩ = false := by
        obtain ⟨_, a', c', e, _, _, h3⟩ := owns_ints hrow
        injection e with e1 _ _
        subst e1
        exact h3 j x.id (idL_at hx)
      have cP := priority_any (HL.out.below hbel) x.id (HI.out x hxS)
      rw [HOK.out.prio hxS, HOK.out.find hxS] at cP
      dsimp only [Option.isSome_some] at cP
      have HX : Hid (S[j]? = some x ∧ x ∈ S) := ⟨hx, hxS⟩
      clear hrow hbel hx hxS
      go_upto_region 6 with (go_at_call 14; refine cP.mono ?_; rintro ex w2 ⟨rfl, hb2⟩)
      have HR2 : Hid (w2.ownsRow 0 3 1 (.slice (some ⟨g, 0, none⟩) n c) n ((idL S).map iv) ∧ Below W.heap.size W w2) := ⟨(Kept.of_below (F := No) hb2).owns HR.out.1 (fun _ _ h => h), HR.out.2.trans (hb2.mono HR.out.2.size)⟩
      have r2 : w2.cell? ⟨g, j, none⟩ = some (.int .i64 x.id) := (Kept.of_below (F := No) hb2).cell r0 (fun h => h)
      have cW := where_any (idL S) (.slice (some ⟨g, 0, none⟩) n c) n w2 HR2.out.1 x.id
      rw [HOK.out.where' HX.out.1] at cW
      clear cP r0 hb2 HR
      go_upto_region 8 with (go_at_call 12; refine cW.mono ?_; rintro ex w3 ⟨rfl, hw3⟩; obtain rfl := hw3.symm)
      clear cW r2
      by_cases hj0 : 0 < j
      · obtain ⟨y, hy⟩ : ∃ y, S[j - 1]? = some y := ⟨_, List.getElem?_eq_getElem (by rw [HN.out]; omega)⟩
        have hyS : y ∈ S := List.mem_of_getElem? hy
        obtain ⟨m, hm⟩ : ∃ m, m = j - 1 := ⟨_, rfl⟩
        rw [← hm] at hy
        have hmn : m < n := by omega
        have r3 : w2.cell? ⟨g, m, none⟩ = some (.int .i64 y.id) := by
          obtain ⟨_, a', c', e, _, _, h3⟩ := owns_ints HR2.out.1
          injection e with e1 _ _
          subst e1
          obtain ⟨g', e2, h4, _⟩ := h3 m y.id (idL_at hy)
          injection e2 with e2
          injection e2 with e2 _ _
          subst e2
          exact h4
        have hle : ¬ (y.pr < x.pr) := by
          obtain ⟨h1, e1⟩ := List.getElem?_eq_some_iff.1 hy
          obtain ⟨h2, e2⟩ := List.getElem?_eq_some_iff.1 HX.out.1
          have := List.pairwise_iff_getElem.1 HOK.out.srt m j h1 h2 (by omega)
          rw [e1, e2] at this
          unfold lt' at this
          omega
        have cQ := priority_any (HL.out.below HR2.out.2) y.id (HI.out y hyS)
        rw [HOK.out.prio hyS, HOK.out.find hyS] at cQ
        dsimp only [Option.isSome_some] at cQ
        have EM : Hid ((j : Int) - 1 = (m : Int)) := (by show _ = _; omega)
        have e1 : (j : Int) - 1 = (m : Int) := EM.out
        clear hy hyS hm
        go_wp2_with (go_at_call 14; refine cQ.mono ?_; rintro ex w4 ⟨rfl, hb4⟩)
        go_roundw
        case rel => exact ⟨j + 1, by omega, by go_num, (Kept.of_below (F := No) hb4).owns HR2.out.1 (fun _ _ h => h), HR2.out.2.trans (hb4.mono HR2.out.2.size)⟩
        case measure => simp [intOf]; omega
      · go_wp2
        go_roundw
        case rel => exact ⟨j + 1, by omega, by go_num, HR2.out⟩
        case measure => simp [intOf]; omega
    · have cN := len_any (HL.out.below hbel)
      rw [HN.out] at cN
      clear hrow hbel
      go_wp2_with (go_at_call 25; refine cN.mono ?_; rintro ex w2 ⟨rfl, hw2⟩; obtain rfl := hw2.symm)
      go_ret
      exact ⟨rfl, HR.out.2⟩

def filI (i : Int) (xs : List Int) : List Int := xs.filter (fun x => x != i)
theorem filI_more {i : Int} {xs : List Int} {j : Nat} {x : Int} (h : xs[j]? = some x) : filI i (xs.take (j + 1)) = if x = i then filI i (xs.take j) else filI i (xs.take j) ++ [x] := by
  unfold filI
  rw [List.take_add_one, h, List.filter_append]
  by_cases e : x = i
  · rw [if_pos e]; simp [e]
  · rw [if_neg e]; simp [e]
/-- while those but one are told -/
structure Kg (W : World) (A B : List Int) (a b : Value) (w : World) : Prop where
  bel : Below W.heap.size W w
  ra : w.ownsRow W.heap.size 3 1 a A.length (A.map iv)
  rb : w.ownsRow W.heap.size 3 1 b B.length (B.map iv)
  ne : ∀ g, a.ownBlock = some g → b.ownBlock ≠ some g
namespace Kg
variable {W w w' : World} {A B : List Int} {a b v : Value}
theorem alloc (h : Kg W A B a b w) (o : Obj) : Kg W A B a b (w.alloc o) := ⟨h.bel.alloc h.bel.size o, h.ra.alloc o, h.rb.alloc o, h.ne⟩
theorem more (h : Kg W A B a b w) {x : Int} (own : w'.ownsRow W.heap.size 3 1 v (A.length + 1) (A.map iv ++ [.int .i64 x])) (gr : w.grownBy w' a.ownBlock) (at' : v.ownBlock = a.ownBlock ∨ v.ownBlock = some w.heap.size) : Kg W (A ++ [x]) B v b w' := by
  have hk : Kept (fun k => a.ownBlock = some k) w w' := (Kept.refl _ w).grown gr (fun k e => .inl e)
  refine ⟨h.bel.trans (hk.below (fun k e => (h.ra.lt k e).1) h.bel.size), ?_, hk.owns h.rb (fun g hg e => h.ne g e hg), fun g hg e => ?_⟩
  · rw [List.length_append, List.map_append]; exact own
  · rcases at' with e2 | e2
    · exact h.ne g (e2 ▸ hg) e
    · rw [e2] at hg; injection hg with hg; have := (h.rb.lt g e).2; omega
theorem flip (h : Kg W A B a b w) : Kg W B A b a w := ⟨h.bel, h.rb, h.ra, fun g hg e => h.ne g e hg⟩
end Kg
set_option maxHeartbeats 2000000 in
theorem kept_any (xs ys : List Int) (u v : Value) (n m : Nat) (W : World) (i : Int) (hx : W.ownsRow 0 3 1 u n (xs.map iv)) (hy : W.ownsRow 0 3 1 v m (ys.map iv)) (hn : n ≤ 1000000) (hm : m ≤ 1000000) (he : xs.filter (fun x => x != i) = ys.filter (fun x => x != i)) :
    Calls Try.prog 15 #[u, v, .int .i64 i] W fun ex w' => ex = .returned (.bool true) ∧ Below W.heap.size W w' := by
  obtain ⟨hl, a, c, rfl, hc1, hc2, _⟩ := owns_ints hx
  obtain ⟨hl', a', c', rfl, hc1', hc2', _⟩ := owns_ints hy
  have HX : Hid (W.ownsRow 0 3 1 (.slice a n c) n (xs.map iv) ∧ xs.length = n) := ⟨hx, hl⟩
  have HY : Hid (W.ownsRow 0 3 1 (.slice a' m c') m (ys.map iv) ∧ ys.length = m) := ⟨hy, hl'⟩
  have HE : Hid (filI i xs = filI i ys) := he
  obtain ⟨i0, hi, hz0, hz1, hz2⟩ := info_parts info3
  have HFX : Hid (∀ j, (filI i (xs.take j)).length ≤ 1000000) := (fun j => by have := List.length_filter_le (fun x => x != i) (xs.take j); have h2 : (xs.take j).length ≤ xs.length := List.length_take_le' j xs; unfold filI; show _ ≤ _; omega)
  have HFY : Hid (∀ j, (filI i (ys.take j)).length ≤ 1000000) := (fun j => by have := List.length_filter_le (fun x => x != i) (ys.take j); have h2 : (ys.take j).length ≤ ys.length := List.length_take_le' j ys; unfold filI; show _ ≤ _; omega)
  clear hx hy hl hl' he
  go_enter Try.func15, Try.ntmps15
  go_wp2
  go_loopw [7, 9] (fun p d wr => ∃ j : Nat, j ≤ n ∧ d = .int .i64 j ∧ Kg W (filI i (xs.take j)) [] p (.slice none 0 0) wr) (fun _ d _ => n - (intOf d).toNat)
  case atStart => exact ⟨0, Nat.zero_le _, rfl, ⟨Below.refl _ _, World.ownsRow_nil _ _ _ _, World.ownsRow_nil _ _ _ _, (fun g hg => by cases hg)⟩⟩
  case round =>
    obtain ⟨j, hj, rfl, hg⟩ := hrel
    have HG : Hid (Kg W (filI i (xs.take j)) [] u7 (.slice none 0 0) wr) := hg
    by_cases hlt : j < n
    · obtain ⟨x, hx⟩ : ∃ x, xs[j]? = some x := ⟨_, List.getElem?_eq_getElem (by rw [HX.out.2]; exact hlt)⟩
      obtain ⟨g, rfl, r0, _⟩ : ∃ g, a = some ⟨g, 0, none⟩ ∧ wr.cell? ⟨g, j, none⟩ = some (.int .i64 x) ∧ wr.frozen? ⟨g, j, none⟩ = false := by
        have hrow := (Kept.of_below (F := No) hg.bel).owns HX.out.1 (fun _ _ h => h)
        obtain ⟨_, a', c', e, _, _, h3⟩ := owns_ints hrow
        injection e with e1 _ _
        subst e1
        exact h3 j x hx
      have HM := filI_more (i := i) hx
      have hsz := hg.bel.size
      have hlen := HFX.out j
      clear hg hx
      by_cases hxi : x = i
      · rw [if_pos hxi] at HM
        have HM2 : Hid (filI i (xs.take (j + 1)) = filI i (xs.take j)) := HM
        clear HM
        go_wp2
        go_roundw
        case rel => exact ⟨j + 1, by omega, by go_num, by rw [HM2.out]; exact HG.out⟩
        case measure => simp [intOf]; omega
      · rw [if_neg hxi] at HM
        have HM2 : Hid (filI i (xs.take (j + 1)) = filI i (xs.take j) ++ [x]) := HM
        clear HM
        go_wp2_with (at_builtin; refine wpList_append_own_at _ rfl _ _ 29 rfl W.heap.size 3 i0 (.int .i64 0) 1 8 Try.underlying29 hi hz0 hz1 hz2 rfl (by decide) _ _ _ rfl (HG.out.ra.alloc _) ⟨wr.heap.size, 0, none⟩ 1 1 [.int .i64 x] rfl rfl (cell_one_new _ _ _) (one_one _ _) (by unfold maxLen; omega) (by omega) (by simp; omega) ?_; intro v1 w6 own1 grow1 _ at1; have HG2 : Hid (Kg W (filI i (xs.take j) ++ [x]) [] v1 (.slice none 0 0) w6) := (HG.out.alloc _).more own1 grow1 at1; clear own1 grow1 at1)
        go_roundw
        case rel => exact ⟨j + 1, by omega, by go_num, by rw [HM2.out]; exact HG2.out⟩
        case measure => simp [intOf]; omega
    · have hjn : j = n := by omega
      subst hjn
      have HG1 : Hid (Kg W (filI i xs) [] u7 (.slice none 0 0) wr) := (by have h2 := hg; rw [List.take_of_length_le (by rw [HX.out.2]; exact Nat.le_refl _)] at h2; exact h2)
      clear hg HG
      go_wp2
      go_loopw [8, 10] (fun p d wr => ∃ k : Nat, k ≤ m ∧ d = .int .i64 k ∧ Kg W (filI i (ys.take k)) (filI i xs) p u7 wr) (fun _ d _ => m - (intOf d).toNat)
      case atStart => exact ⟨0, Nat.zero_le _, rfl, HG1.out.flip⟩
      case round =>
        clear HG1
        obtain ⟨k, hk, rfl, hg⟩ := hrel
        have HG : Hid (Kg W (filI i (ys.take k)) (filI i xs) u8 u7 wr) := hg
        by_cases hlt2 : k < m
        · obtain ⟨x, hx⟩ : ∃ x, ys[k]? = some x := ⟨_, List.getElem?_eq_getElem (by rw [HY.out.2]; exact hlt2)⟩
          obtain ⟨g, rfl, r0, _⟩ : ∃ g, a' = some ⟨g, 0, none⟩ ∧ wr.cell? ⟨g, k, none⟩ = some (.int .i64 x) ∧ wr.frozen? ⟨g, k, none⟩ = false := by
            have hrow := (Kept.of_below (F := No) hg.bel).owns HY.out.1 (fun _ _ h => h)
            obtain ⟨_, a'', c'', e, _, _, h3⟩ := owns_ints hrow
            injection e with e1 _ _
            subst e1
            exact h3 k x hx
          have HM := filI_more (i := i) hx
          have hsz := hg.bel.size
          have hlen := HFY.out k
          clear hg hx
          by_cases hxi : x = i
          · rw [if_pos hxi] at HM
            have HM2 : Hid (filI i (ys.take (k + 1)) = filI i (ys.take k)) := HM
            clear HM
            go_wp2
            go_roundw
            case rel => exact ⟨k + 1, by omega, by go_num, by rw [HM2.out]; exact HG.out⟩
            case measure => simp [intOf]; omega
          · rw [if_neg hxi] at HM
            have HM2 : Hid (filI i (ys.take (k + 1)) = filI i (ys.take k) ++ [x]) := HM
            clear HM
            go_wp2_with (at_builtin; refine wpList_append_own_at _ rfl _ _ 29 rfl W.heap.size 3 i0 (.int .i64 0) 1 8 Try.underlying29 hi hz0 hz1 hz2 rfl (by decide) _ _ _ rfl (HG.out.ra.alloc _) ⟨wr.heap.size, 0, none⟩ 1 1 [.int .i64 x] rfl rfl (cell_one_new _ _ _) (one_one _ _) (by unfold maxLen; omega) (by omega) (by simp; omega) ?_; intro v1 w6 own1 grow1 _ at1; have HG2 : Hid (Kg W (filI i (ys.take k) ++ [x]) (filI i xs) v1 u7 w6) := (HG.out.alloc _).more own1 grow1 at1; clear own1 grow1 at1)
            go_roundw
            case rel => exact ⟨k + 1, by omega, by go_num, by rw [HM2.out]; exact HG2.out⟩
            case measure => simp [intOf]; omega
        · have hkm : k = m := by omega
          subst hkm
          have HG2 : Hid (Kg W (filI i xs) (filI i xs) u8 u7 wr) := (by have h2 := hg; rw [List.take_of_length_le (by rw [HY.out.2]; exact Nat.le_refl _), ← HE.out] at h2; exact h2)
          have cS := same_eq (filI i xs) u7 u8 _ wr (owns_base HG2.out.rb (Nat.zero_le _)) (owns_base HG2.out.ra (Nat.zero_le _))
          clear hg HG
          go_wp2_with (go_at_call 19; refine cS.mono ?_; rintro ex w6 ⟨rfl, q6, hw6⟩)
          go_ret
          refine ⟨rfl, ?_⟩
          exact HG2.out.bel.trans ⟨rfl, rfl, rfl, Nat.le_refl _, fun _ _ => rfl⟩
end Go.Proofs.Yteiakmjdjaodlaa
