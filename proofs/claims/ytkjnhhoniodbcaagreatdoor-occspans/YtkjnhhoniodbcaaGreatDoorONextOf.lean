/-
  NextOf: the first tick from one on that a partition occupies.
-/
import Derived.Test.YtkjnhhoniodbcaaGreatDoorOSupply
namespace Go.Proofs.YtkjnhhoniodbcaaGreatDoor
open Go.RowKit Go.Shelf Plain
set_option linter.unusedVariables false
set_option maxRecDepth 100000

/-- t is the first of the ticks from a on, below b, that f gives p -/
def Fst (f : Nat → Nat) (p a t : Nat) : Prop := a ≤ t ∧ f t = p ∧ ∀ u, a ≤ u → u < t → f u ≠ p
/-- not found yet; found -/
def Nyet (f : Nat → Nat) (p a bp bn : Nat) : St := fun q W S => S = (fun k => k = bp ∨ k = bn) ∧ W.heap[bp]? = some (.cells #[.int .i64 p] 3) ∧ W.heap[bn]? = some (.cells #[.int .i64 (-1)] 3) ∧ a ≤ q ∧ ∀ u, a ≤ u → u < q → f u ≠ p
def Nhad (f : Nat → Nat) (p a b bp bn : Nat) : St := fun _ W S => S = (fun k => k = bp ∨ k = bn) ∧ W.heap[bp]? = some (.cells #[.int .i64 p] 3) ∧ ∃ t : Nat, W.heap[bn]? = some (.cells #[.int .i64 t] 3) ∧ t < b ∧ Fst f p a t
theorem Nyet.hangs (f : Nat → Nat) (p a bp bn : Nat) : Hangs (Nyet f p a bp bn) := by
  refine ⟨?_, ?_⟩
  · rintro q W S ⟨rfl, h1, h2, h3⟩ k (rfl | rfl)
    · exact heap_lt h1
    · exact heap_lt h2
  · rintro q W W' S ⟨rfl, h1, h2, h3⟩ hs hk
    exact ⟨rfl, (hk _ (.inl rfl)).trans h1, (hk _ (.inr rfl)).trans h2, h3⟩
theorem Nhad.hangs (f : Nat → Nat) (p a b bp bn : Nat) : Hangs (Nhad f p a b bp bn) := by
  refine ⟨?_, ?_⟩
  · rintro q W S ⟨rfl, h1, t, h2, h3⟩ k (rfl | rfl)
    · exact heap_lt h1
    · exact heap_lt h2
  · rintro q W W' S ⟨rfl, h1, t, h2, h3⟩ hs hk
    exact ⟨rfl, (hk _ (.inl rfl)).trans h1, t, (hk _ (.inr rfl)).trans h2, h3⟩

set_option maxHeartbeats 1000000 in
theorem next1_does (f : Nat → Nat) (p a b bp bn : Nat) (hne : bp ≠ bn) (hb : b ≤ 1099511627776) : Does Tryz.prog 30 #[.pointer (some ⟨bp, 0, none⟩), .pointer (some ⟨bn, 0, none⟩)] f b (Nyet f p a bp bn) (Nhad f p a b bp bn) := by
  intro q len W S hI h1 h2 h3
  obtain ⟨rfl, hbp, hbn, haq, hno⟩ := hI
  have hka : Kept No W (W.alloc (.cells #[.int .i64 len, .int .i64 (f q)] 39)) := (Kept.refl No W).alloc _
  have hbp1 := hka.at' hbp (fun h => h)
  have hbn1 := hka.at' hbn (fun h => h)
  have c0 := cell_box hbp1
  have c1 := cell_box hbn1
  have fz : (W.alloc (.cells #[.int .i64 len, .int .i64 (f q)] 39)).frozen? ⟨bn, 0, none⟩ = false := Boxed.frozen (t := 3) (v := .int .i64 (-1)) hbn1
  unfold sv
  by_cases hp : f q = p
  · have HF : Hid (Took (Nyet f p a bp bn) (Nhad f p a b bp bn) (q + len) W (fun k => k = bp ∨ k = bn) (.returned (.bool false)) ((W.alloc (.cells #[.int .i64 len, .int .i64 (f q)] 39)).setCell ⟨bn, 0, none⟩ (.int .i64 q))) := by
      refine ⟨fun k => k = bp ∨ k = bn, (hka.mono (G := fun k => k = bp ∨ k = bn) (fun _ h => h.elim)).setCell (p := ⟨bn, 0, none⟩) (.inl (.inr rfl)) _, More.refl _ _, .inr ⟨rfl, rfl, ?_, q, ?_, by omega, haq, hp, hno⟩⟩
      · exact (Below.heap_setCell _ _ _ _ (fun e => hne e)).trans hbp1
      · exact Boxed.set (t := 3) (v := .int .i64 (-1)) _ hbn1
    rw [hp] at HF c0 c1 fz ⊢
    have hq1 : ((q : Int) == -1) = false := beq_eq_false_iff_ne.2 (by omega)
    clear hka hbp hbn hbp1 hbn1 h3 hno hp
    go_enter Tryz.func30, Tryz.ntmps30
    go_wp2
    go_ret
    first
      | exact HF.out
      | (rw [hq1]; exact HF.out)
      | (show Took _ _ _ _ _ (.returned (.bool ((q : Int) == -1))) _; rw [hq1]; exact HF.out)
  · have HF : Hid (Took (Nyet f p a bp bn) (Nhad f p a b bp bn) (q + len) W (fun k => k = bp ∨ k = bn) (.returned (.bool true)) (W.alloc (.cells #[.int .i64 len, .int .i64 (f q)] 39))) := by
      refine ⟨fun k => k = bp ∨ k = bn, hka.mono (G := fun k => k = bp ∨ k = bn) (fun _ h => h.elim), More.refl _ _, .inl ⟨rfl, rfl, hbp1, hbn1, by omega, fun u x y => ?_⟩⟩
      by_cases hu : u < q
      · exact hno u x hu
      · rw [h3 u (by omega) y]; exact hp
    have hp1 : ((f q : Int) == (p : Int)) = false := beq_eq_false_iff_ne.2 (by omega)
    generalize f q = fq at *
    clear hka hbp hbn hbp1 hbn1 h3 hno
    go_enter Tryz.func30, Tryz.ntmps30
    go_wp2
    go_ret
    exact HF.out

theorem next_or {f : Nat → Nat} {p a b bp bn : Nat} {W : World} {S : Nat → Prop} (h : Nyet f p a bp bn b W S ∨ ∃ q, Nhad f p a b bp bn q W S) :
    ∃ x : Int, W.heap[bn]? = some (.cells #[.int .i64 x] 3) ∧ ((x = -1 ∧ ∀ u, a ≤ u → u < b → f u ≠ p) ∨ ∃ t : Nat, x = t ∧ t < b ∧ Fst f p a t) := by
  rcases h with ⟨rfl, h1, h2, h3, h4⟩ | ⟨q, rfl, h1, t, h2, h3, h4⟩
  · exact ⟨-1, h2, .inl ⟨rfl, h4⟩⟩
  · exact ⟨t, h2, .inr ⟨t, rfl, h3, h4⟩⟩
/-- where the search ends -/
def nearOf (H fr : Nat) : Nat := min (fr + 2 * H) 1099511627776

set_option maxHeartbeats 2000000 in
theorem nextOf_yes {F : Nat → Prop} {a : Option Addr} {c : Nat} {xs : List Srv} (p fr : Nat) (w : World) (hg : Gl w) (h : Sv w F a xs.length c xs) (hF : ∀ k, F k → k < w.heap.size) (ht : timF xs xs.length = none) (hp1 : 1 ≤ p) (hp2 : p ≤ xs.length) (hfr : fr ≤ 1099511627776) :
    Calls Tryz.prog 10 #[.slice a xs.length c, .int .i64 p, .int .i64 fr] w fun e w' => Kept No w w' ∧ ∃ x : Int, e = .returned (.tuple #[.int .i64 x, .int .i64 0]) ∧ ((x = -1 ∧ ∀ u, fr ≤ u → u < nearOf (hyp xs) fr → Rule.occ (sys xs) u ≠ p) ∨ ∃ t : Nat, x = t ∧ t < nearOf (hyp xs) fr ∧ Fst (Rule.occ (sys xs)) p fr t) := by
  have hv := vd_of ht
  have hH1 := hv.hyp1
  have hH2 := hv.hyp2
  have hn := hv.num
  have HS : Hid (Sv w F a xs.length c xs ∧ (∀ k, F k → k < w.heap.size) ∧ Gl w) := ⟨h, hF, hg⟩
  have HV : Hid (Vd xs ∧ timF xs xs.length = none) := ⟨hv, ht⟩
  have ht1 := fun W => isThere_yes a xs.length c p W hp1 hp2
  have ht2 := fun W => isSpan_yes fr 1099511627776 W hfr (Nat.le_refl _)
  rw [show ((1099511627776 : Nat) : Int) = 1099511627776 from rfl] at ht2
  clear h hF hg ht hv
  obtain ⟨m, hm⟩ : ∃ m, nearOf (hyp xs) fr = m := ⟨_, rfl⟩
  have hm1 : fr ≤ m ∧ m ≤ 1099511627776 := by rw [← hm]; unfold nearOf; omega
  have hm2 : min ((fr : Int) + 2 * (hyp xs : Int)) 1099511627776 = (m : Int) := by rw [← hm]; unfold nearOf; omega
  rw [hm]
  clear hm
  go_enter Tryz.func10, Tryz.ntmps10
  go_upto_region 1 with fail
  have kb : Kept No w (w.alloc (.cells #[.int .i64 p] 3)) := (Kept.refl No w).alloc _
  have HB0 : Hid (Kept No w (w.alloc (.cells #[.int .i64 p] 3)) ∧ (w.alloc (.cells #[.int .i64 p] 3)).heap[w.heap.size]? = some (.cells #[.int .i64 p] 3)) := ⟨kb, World.alloc_heap_new _ _⟩
  clear kb
  generalize w.alloc (.cells #[.int .i64 p] 3) = w0 at *
  have hc := hyper_any F a xs.length c xs w0 (HS.out.2.2.kept HB0.out.1) (HS.out.1.keep HB0.out.1)
  rw [(tim_yes HV.out.2).1, (tim_yes HV.out.2).2] at hc
  go_upto_region 4 with (go_at_call 16; refine hc.mono ?_; rintro e w1 ⟨rfl, hk1⟩; have HK1 : Hid (Kept No w w1 ∧ w1.heap[w.heap.size]? = some (.cells #[.int .i64 p] 3)) := ⟨HB0.out.1.trans hk1 (fun _ h => h.elim), hk1.at' HB0.out.2 (fun h => h)⟩; have c1 := cell_box HK1.out.2; clear hk1 hc)
  go_upto_region 8 with (first
    | (go_at_call 27; refine (ht1 _).mono ?_; rintro e w2 ⟨rfl, hw2⟩; obtain rfl := hw2.symm)
    | (go_at_call 17; refine (ht2 _).mono ?_; rintro e w3 ⟨rfl, hw3⟩; obtain rfl := hw3.symm))
  go_upto_region 9 with fail
  have eM : wrap64 (2 * (hyp xs : Int)) = 2 * (hyp xs : Int) := by unfold wrap64; omega
  go_upto_region 10 with fail
  have k3 : Kept No w1 ((w1.alloc (.cells #[.int .i64 (-1)] 3)).alloc (.cells #[.int .i64 fr, .int .i64 m] 51)) := ((Kept.refl No w1).alloc _).alloc _
  obtain ⟨q1, q2⟩ := heap_alloc2 (w := w1) (o1 := .cells #[.int .i64 (-1)] 3) (o2 := .cells #[.int .i64 fr, .int .i64 m] 51)
  have kw3 : Kept No w ((w1.alloc (.cells #[.int .i64 (-1)] 3)).alloc (.cells #[.int .i64 fr, .int .i64 m] 51)) := HK1.out.1.trans k3 (fun _ h => h.elim)
  have hs3 := HS.out.1.keep kw3
  have hF3 : ∀ k, F k → k < ((w1.alloc (.cells #[.int .i64 (-1)] 3)).alloc (.cells #[.int .i64 fr, .int .i64 m] 51)).heap.size := fun k hk => by have := HS.out.2.1 k hk; have := kw3.size; omega
  have sz3 : ((w1.alloc (.cells #[.int .i64 (-1)] 3)).alloc (.cells #[.int .i64 fr, .int .i64 m] 51)).heap.size = w1.heap.size + 2 := by simp
  have bp3 := k3.at' HK1.out.2 (fun h => h)
  have hpl : w.heap.size < w1.heap.size := heap_lt HK1.out.2
  clear k3 c1
  generalize (w1.alloc (.cells #[.int .i64 (-1)] 3)).alloc (.cells #[.int .i64 fr, .int .i64 m] 51) = w3 at *
  obtain ⟨s0, s1⟩ := cells2' q2
  have hgv := within_all HV.out.1 hs3 hF3 fr m hm1.1 hm1.2
  have ksz := wW_size w3 a xs.length c (hyp xs) fr (m : Int)
  have kk := wW_kept w3 a xs.length c (hyp xs) fr (m : Int)
  have hcall := each_any (enters_of Tryz.func36 (by kernel_rfl) rfl) (enters_of Tryz.func30 (by kernel_rfl) rfl) hgv (Nat.le_refl _) (fun k hk => ⟨by rcases hk with hk | hk | hk | hk; have := hF3 k hk; omega; omega; omega; omega, rfl⟩) (Nyet.hangs (Rule.occ (sys xs)) p fr w.heap.size w1.heap.size) (Nhad.hangs (Rule.occ (sys xs)) p fr m w.heap.size w1.heap.size) (S0 := fun k => k = w.heap.size ∨ k = w1.heap.size) ⟨rfl, kk.at' bp3 (fun h => h), kk.at' q1 (fun h => h), Nat.le_refl _, fun u x y => by omega⟩ (fun k hk hs => by
    rcases hk with hk | hk | hk | hk
    · have := HS.out.2.1 k hk; rcases hs with h | h <;> omega
    · rcases hs with h | h <;> omega
    · rcases hs with h | h <;> omega
    · rcases hs with h | h <;> omega) (next1_does (Rule.occ (sys xs)) p fr m w.heap.size w1.heap.size (by omega) hm1.2)
  have hw2 := within_new a xs.length c (hyp xs) fr (m : Int) w3
  have HKK : Hid (Kept No w (wW w3 a xs.length c (hyp xs) fr (m : Int)) ∧ w.heap.size < w1.heap.size) := ⟨kw3.trans kk (fun _ h => h.elim), hpl⟩
  unfold wlb at hcall
  clear hs3 hF3 sz3 q1 q2 bp3 hgv ksz kk kw3 hm2 eM
  go_wp2_with (first
    | (go_at_call 19; refine hw2.mono ?_; rintro e w4 ⟨rfl, hw4e⟩; have HW4 : Hid (w4 = wW w3 a xs.length c (hyp xs) fr (m : Int)) := hw4e; have hcall2 := hcall; rw [← HW4.out] at hcall2; clear hw4e hcall hw2)
    | (go_at_call 18; refine hcall2.mono ?_; rintro e w5 ⟨⟨v3, rfl⟩, S', hk5, hm5, hor⟩; clear hcall2; obtain ⟨x, hb5, hx5⟩ := next_or hor; have c5 := cell_box hb5; have HX : Hid ((x = -1 ∧ ∀ u, fr ≤ u → u < m → Rule.occ (sys xs) u ≠ p) ∨ ∃ t : Nat, x = t ∧ t < m ∧ Fst (Rule.occ (sys xs)) p fr t) := hx5; have HF : Hid (Kept No w w5) := (by have k4 := HKK.out.1; rw [← HW4.out] at k4; exact k4.trans hk5 (fun k h => .inr (by have := HKK.out.2; rcases h with h | h <;> omega))); clear hk5 hm5 hor hb5 hx5))
  go_ret2
  exact ⟨HF.out, x, rfl, HX.out⟩
end Go.Proofs.YtkjnhhoniodbcaaGreatDoor
