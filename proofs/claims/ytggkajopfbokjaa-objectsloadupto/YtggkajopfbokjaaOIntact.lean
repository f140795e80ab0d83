/-
  intact: are a partition's lists, and the marks behind them, as they were?
-/
import Derived.Test.YtggkajopfbokjaaOGiven
namespace Go.Proofs.Ytggkajopfbokjaa
open Go.RowKit
set_option linter.unusedVariables false
set_option maxRecDepth 100000

theorem Rw.at_mk {w : World} {B : Nat} {t : TypeId} {k g n c : Nat} {xs mk : List Value} (h : Rw w B t k (.slice (some ⟨g, 0, none⟩) n c) n xs mk) (hx : xs.length = n * k) {j : Nat} {u : Value} (hj : mk[j]? = some u) : w.cell? ⟨g, n * k + j, none⟩ = some u := by
  obtain ⟨g', c', e, h1, h2, h3⟩ := h
  injection e with e _ e2
  injection e with e
  injection e with e _ _
  subst e e2
  have := h3.cells (g := g) rfl (n * k + j) u (by rw [List.getElem?_append_right (by omega), hx, show n * k + j - n * k = j by omega]; exact hj)
  rwa [add_none, Nat.zero_add] at this
theorem Rw.at_xs {w : World} {B : Nat} {t : TypeId} {k g n c : Nat} {xs mk : List Value} (h : Rw w B t k (.slice (some ⟨g, 0, none⟩) n c) n xs mk) {j : Nat} {u : Value} (hj : xs[j]? = some u) : w.cell? ⟨g, j, none⟩ = some u := by
  obtain ⟨g', c', e, h1, h2, h3⟩ := h
  injection e with e _ e2
  injection e with e
  injection e with e _ _
  subst e e2
  have := h3.cells (g := g) rfl j u (by rw [List.getElem?_append_left (List.getElem?_eq_some_iff.1 hj).1]; exact hj)
  rwa [add_none, Nat.zero_add] at this
/-- the pairs in a marked list -/
theorem Rw.pair {w : World} {B : Nat} {t : TypeId} {g n c : Nat} {p q : Nat → Int} {mk : List Value} (h : Rw w B t 2 (.slice (some ⟨g, 0, none⟩) n c) n (cat (sF p q) n) mk) {i : Nat} (hi : i < n) : w.cell? ⟨g, i * 2, none⟩ = some (.int .i64 (p i)) ∧ w.cell? ⟨g, i * 2 + 1, none⟩ = some (.int .i64 (q i)) :=
  ⟨h.at_xs (j := i * 2) (by have := cat_at (f := sF p q) (s := 2) (fun _ => rfl) n i 0 hi (by decide); rw [Nat.add_zero] at this; exact this.trans rfl), h.at_xs (j := i * 2 + 1) ((cat_at (f := sF p q) (s := 2) (fun _ => rfl) n i 1 hi (by decide)).trans rfl)⟩
set_option maxHeartbeats 8000000 in
theorem intact_yes {F : Nat → Prop} {A Aq : Array Value} {sa ea ba : Option Addr} {n sc ne ec nb bc g1 g2 g3 c1 c2 c3 B : Nat} {p q1 p' q' : Nat → Int} {us : List Value} {f : Nat → Bool} (w : World) (hA : A.size = 21) (hAq : Aq.size = 21) (h18 : A[18]? = some (.slice sa n sc)) (h19 : A[19]? = some (.slice ea ne ec)) (h20 : A[20]? = some (.slice ba nb bc))
    (k18 : Aq[18]? = some (.slice (some ⟨g1, 0, none⟩) n c1)) (k19 : Aq[19]? = some (.slice (some ⟨g2, 0, none⟩) ne c2)) (k20 : Aq[20]? = some (.slice (some ⟨g3, 0, none⟩) nb c3))
    (hs : Pp w F sa n sc p q1) (he : Vs w F ea ne ec us) (hf : ∀ i, i < ne → us[i]? = some (.bool (f i))) (hb : Pp w F ba nb bc p' q') (hn : n ≤ 4095) (hne : ne ≤ 4095) (hnb : nb ≤ 4095)
    (r1 : Rw w B 24 2 (.slice (some ⟨g1, 0, none⟩) n c1) n (cat (sF p q1) n) [.int .i64 0, .int .i64 (-77)]) (r2 : Rw w B 4 1 (.slice (some ⟨g2, 0, none⟩) ne c2) ne us [.bool true]) (r3 : Rw w B 27 2 (.slice (some ⟨g3, 0, none⟩) nb c3) nb (cat (sF p' q') nb) [.int .i64 (-77), .int .i64 0]) :
    Calls Try.prog 22 #[.agg Aq, .agg A] w fun e w' => e = .returned (.bool true) ∧ Kept No w w' := by
  have z1 := hs.cap
  have z2 := hs.max
  have z3 := he.cap
  have z4 := he.max
  have z5 := hb.cap
  have z6 := hb.max
  have hel := he.len
  have y1 : n + 1 ≤ c1 ∧ c1 ≤ 9223372036854775807 := by obtain ⟨g, c, e, h1, h2, _⟩ := r1; injection e with _ _ e; subst e; exact ⟨h1, h2⟩
  have y2 : ne + 1 ≤ c2 ∧ c2 ≤ 9223372036854775807 := by obtain ⟨g, c, e, h1, h2, _⟩ := r2; injection e with _ _ e; subst e; exact ⟨h1, h2⟩
  have y3 : nb + 1 ≤ c3 ∧ c3 ≤ 9223372036854775807 := by obtain ⟨g, c, e, h1, h2, _⟩ := r3; injection e with _ _ e; subst e; exact ⟨h1, h2⟩
  obtain ⟨y1, y1'⟩ := y1
  obtain ⟨y2, y2'⟩ := y2
  obtain ⟨y3, y3'⟩ := y3
  have m1 := r1.at_mk (cat_len (f := sF p q1) (s := 2) (fun _ => rfl) n) (j := 1) rfl
  have m2 : w.cell? ⟨g2, ne, none⟩ = some (.bool true) := by have := r2.at_mk (by rw [hel]; omega) (j := 0) rfl; rwa [Nat.mul_one, Nat.add_zero] at this
  have m3 : w.cell? ⟨g3, nb * 2, none⟩ = some (.int .i64 (-77)) := r3.at_mk (cat_len (f := sF p' q') (s := 2) (fun _ => rfl) nb) (j := 0) rfl
  have HR : Hid ((∀ i, i < n → w.cell? ⟨g1, i * 2, none⟩ = some (.int .i64 (p i)) ∧ w.cell? ⟨g1, i * 2 + 1, none⟩ = some (.int .i64 (q1 i))) ∧ (∀ i, i < ne → w.cell? ⟨g2, i, none⟩ = some (.bool (f i))) ∧ (∀ i, i < nb → w.cell? ⟨g3, i * 2, none⟩ = some (.int .i64 (p' i)) ∧ w.cell? ⟨g3, i * 2 + 1, none⟩ = some (.int .i64 (q' i)))) := ⟨fun i hi => r1.pair hi, fun i hi => r2.at_xs (hf i hi), fun i hi => r3.pair hi⟩
  have HP : Hid (Pp w F sa n sc p q1 ∧ Vs w F ea ne ec us ∧ (∀ i, i < ne → us[i]? = some (.bool (f i))) ∧ Pp w F ba nb bc p' q') := ⟨hs, he, hf, hb⟩
  have HM : Hid (w.cell? ⟨g1, n * 2 + 1, none⟩ = some (.int .i64 (-77)) ∧ w.cell? ⟨g2, ne, none⟩ = some (.bool true) ∧ w.cell? ⟨g3, nb * 2, none⟩ = some (.int .i64 (-77))) := ⟨m1, m2, m3⟩
  have B1 : Hid (Kept No w ((w.alloc (.cells Aq 37)).alloc (.cells A 37)) ∧ ((w.alloc (.cells Aq 37)).alloc (.cells A 37)).heap[w.heap.size]? = some (.cells Aq 37) ∧ ((w.alloc (.cells Aq 37)).alloc (.cells A 37)).heap[w.heap.size + 1]? = some (.cells A 37)) := by
    refine ⟨((Kept.refl No w).alloc _).alloc _, ((Kept.refl No _).alloc _).at' (alloc_new w _) (fun e => e), ?_⟩
    have h5 := alloc_new (w.alloc (.cells Aq 37)) (.cells A 37)
    rwa [World.size_alloc] at h5
  have BC : Hid (∀ W, Kept No ((w.alloc (.cells Aq 37)).alloc (.cells A 37)) W → Kept No w W ∧ (W.cell? ⟨w.heap.size, 18, none⟩ = some (.slice (some ⟨g1, 0, none⟩) n c1) ∧ W.cell? ⟨w.heap.size, 19, none⟩ = some (.slice (some ⟨g2, 0, none⟩) ne c2) ∧ W.cell? ⟨w.heap.size, 20, none⟩ = some (.slice (some ⟨g3, 0, none⟩) nb c3)) ∧ W.cell? ⟨w.heap.size + 1, 18, none⟩ = some (.slice sa n sc) ∧ W.cell? ⟨w.heap.size + 1, 19, none⟩ = some (.slice ea ne ec) ∧ W.cell? ⟨w.heap.size + 1, 20, none⟩ = some (.slice ba nb bc)) := fun W k => by
    have h1 := k.at' B1.out.2.1 (fun e => e)
    have h2 := k.at' B1.out.2.2 (fun e => e)
    exact ⟨B1.out.1.trans k (fun _ e => e.elim), ⟨(cell_of_row _ _ 18 _ _ _ h1).trans k18, (cell_of_row _ _ 19 _ _ _ h1).trans k19, (cell_of_row _ _ 20 _ _ _ h1).trans k20⟩, (cell_of_row _ _ 18 _ _ _ h2).trans h18, (cell_of_row _ _ 19 _ _ _ h2).trans h19, (cell_of_row _ _ 20 _ _ _ h2).trans h20⟩
  obtain ⟨kw, ⟨d0, d1, d2⟩, d3, d4, d5⟩ := BC.out _ (Kept.refl No _)
  have e1 := kw.cell m1 (fun e => e)
  have e2 := kw.cell m2 (fun e => e)
  have e3 := kw.cell m3 (fun e => e)
  clear hs he hf hb r1 r2 r3 m1 m2 m3 h18 h19 h20 k18 k19 k20 hel kw
  go_enter Try.func22, Try.ntmps22
  go_upto_region 1 with fail
  clear hA hAq
  generalize ((w.alloc (.cells Aq 37)).alloc (.cells A 37)) = w1 at *
  go_region
  go_upto_region 3 with fail
  clear d0 d1 d2 d3 d4 d5 e1 e2 e3
  go_loopw [5, 6] (fun u x wr => ∃ (k : Nat), k ≤ n ∧ u = .bool true ∧ x = .int .i64 k ∧ Kept No w1 wr) (fun u x _ => n - (intOf x).toNat)
  case atStart => exact ⟨0, Nat.zero_le _, rfl, rfl, (Kept.refl No _).drew⟩
  case round =>
    obtain ⟨k, hk, rfl, rfl, kk⟩ := hrel
    have HK := hid kk
    obtain ⟨kw, ⟨d0, d1, d2⟩, d3, d4, d5⟩ := BC.out _ kk
    clear kk
    by_cases hlt : k < n
    · have hltz : (k : Int) < (n : Int) := by omega
      obtain ⟨b1, o1, rfl, _, e0, e1⟩ := (HP.out.1.kept kw (fun _ _ e => e)).at' k hlt
      have e2 := kw.cell (HR.out.1 k hlt).1 (fun e => e)
      have e3 := kw.cell (HR.out.1 k hlt).2 (fun e => e)
      clear kw d1 d2 d4 d5
      generalize p k = x at *
      generalize q1 k = y at *
      go_upto_region 5 with fail
      go_region
      go_wp2
      go_roundw
      case rel => exact ⟨k + 1, by omega, by simp, by go_num, HK.out.drew⟩
      case measure => simp [intOf]; omega
    · have hltz : ¬ (k : Int) < (n : Int) := by omega
      clear kw
      go_upto_region 7 with fail
      clear d0 d1 d2 d3 d4 d5
      go_loopw [5, 7] (fun u x wr => ∃ (k : Nat), k ≤ ne ∧ u = .bool true ∧ x = .int .i64 k ∧ Kept No w1 wr) (fun u x _ => ne - (intOf x).toNat)
      case atStart => exact ⟨0, Nat.zero_le _, rfl, rfl, HK.out⟩
      case round =>
        clear HK
        obtain ⟨m, hm, rfl, rfl, kk⟩ := hrel
        have HK := hid kk
        obtain ⟨kw, ⟨d0, d1, d2⟩, d3, d4, d5⟩ := BC.out _ kk
        clear kk
        by_cases hlt2 : m < ne
        · have hltz2 : (m : Int) < (ne : Int) := by omega
          obtain ⟨b1, o1, rfl, _, e0⟩ := (HP.out.2.1.kept kw (fun _ _ e => e)).at' m _ (HP.out.2.2.1 m hlt2)
          have e2 := kw.cell (HR.out.2.1 m hlt2) (fun e => e)
          clear kw d0 d2 d3 d5
          generalize f m = x at *
          go_upto_region 9 with fail
          go_region
          go_wp2
          go_roundw
          case rel => exact ⟨m + 1, by omega, by simp, by go_num, HK.out.drew⟩
          case measure => simp [intOf]; omega
        · have hltz2 : ¬ (m : Int) < (ne : Int) := by omega
          clear kw
          go_upto_region 11 with fail
          clear d0 d1 d2 d3 d4 d5
          go_loopw [5, 8] (fun u x wr => ∃ (k : Nat), k ≤ nb ∧ u = .bool true ∧ x = .int .i64 k ∧ Kept No w1 wr) (fun u x _ => nb - (intOf x).toNat)
          case atStart => exact ⟨0, Nat.zero_le _, rfl, rfl, HK.out⟩
          case round =>
            clear HK
            obtain ⟨j, hj, rfl, rfl, kk⟩ := hrel
            have HK := hid kk
            obtain ⟨kw, ⟨d0, d1, d2⟩, d3, d4, d5⟩ := BC.out _ kk
            clear kk
            by_cases hlt3 : j < nb
            · have hltz3 : (j : Int) < (nb : Int) := by omega
              obtain ⟨b1, o1, rfl, _, e0, e1⟩ := (HP.out.2.2.2.kept kw (fun _ _ e => e)).at' j hlt3
              have e2 := kw.cell (HR.out.2.2 j hlt3).1 (fun e => e)
              have e3 := kw.cell (HR.out.2.2 j hlt3).2 (fun e => e)
              clear kw d0 d1 d3 d4
              generalize p' j = x at *
              generalize q' j = y at *
              go_upto_region 13 with fail
              go_region
              go_wp2
              go_roundw
              case rel => exact ⟨j + 1, by omega, by simp, by go_num, HK.out.drew⟩
              case measure => simp [intOf]; omega
            · have hltz3 : ¬ (j : Int) < (nb : Int) := by omega
              have KW := hid kw
              clear kw
              go_wp2
              go_ret
              exact ⟨rfl, KW.out⟩
end Go.Proofs.Ytggkajopfbokjaa
