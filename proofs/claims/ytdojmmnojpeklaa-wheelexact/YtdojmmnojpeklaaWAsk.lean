/-
  'asked'.
-/
import Derived.Test.YtdojmmnojpeklaaWRef5
namespace Go.Proofs.Ytdojmmnojpeklaa
open Go.RowKit
set_option linter.unusedVariables false
set_option maxRecDepth 100000

def pv (b at' : Nat) (v : Value) : Value := .agg #[.pointer (some ⟨b, 0, none⟩), .int .i64 at', v]
set_option maxHeartbeats 4000000 in
theorem asked_any {W : World} {F : Nat → Prop} {b n m : Nat} {L : List Fi} {v : Value} (hW : Wh W F b n L) (hv : W.ownsRow 0 32 2 v m (fcL L)) (i : Int) (hi : I6 i) : Calls Try.prog 22 #[pv b n v, .int .i64 i] W fun ex w' => ex = .returned (.bool true) ∧ Below W.heap.size W w' := by
  obtain ⟨hl, a, c, rfl, hc1, hc2, -⟩ := owns_fis hv
  have Q1 := heap_last W (.cells #[.pointer (some ⟨b, 0, none⟩), .int .i64 n, .slice a m c] 51)
  have B1 : Hid (Below W.heap.size W (W.alloc (.cells #[.pointer (some ⟨b, 0, none⟩), .int .i64 n, .slice a m c] 51))) := (Below.refl _ W).alloc (Nat.le_refl _) _
  have HST : Hid (∀ w', Below W.heap.size W w' → Wh w' F b n L ∧ w'.ownsRow 0 32 2 (.slice a m c) m (fcL L)) := (fun w' hb => ⟨hW.below hb, (Kept.of_below (F := No) hb).owns hv (fun _ _ h => h)⟩)
  have HQ : Hid ((W.alloc (.cells #[.pointer (some ⟨b, 0, none⟩), .int .i64 n, .slice a m c] 51)).heap[W.heap.size]? = some (.cells #[.pointer (some ⟨b, 0, none⟩), .int .i64 n, .slice a m c] 51)) := Q1
  have q0 := cell_of_row (k := 0) (v := .pointer (some ⟨b, 0, none⟩)) Q1 rfl
  have HI : Hid (I6 i) := hi
  have HLM : Hid (L.length = m) := hl
  obtain ⟨tt, htt⟩ : ∃ tt, (tickOf L i).getD 0 = tt := ⟨_, rfl⟩
  obtain ⟨tb, htb⟩ : ∃ tb, (tickOf L i).isSome = tb := ⟨_, rfl⟩
  obtain ⟨nt, hnt⟩ : ∃ nt, (L.head?.map Fi.t).getD 0 = nt := ⟨_, rfl⟩
  obtain ⟨nb, hnb⟩ : ∃ nb, L.head?.isSome = nb := ⟨_, rfl⟩
  have HE : Hid ((tickOf L i).getD 0 = tt ∧ (tickOf L i).isSome = tb ∧ (L.head?.map Fi.t).getD 0 = nt ∧ L.head?.isSome = nb) := ⟨htt, htb, hnt, hnb⟩
  unfold pv
  clear hW hv hl Q1 hi htt htb hnt hnb
  go_enter Try.func22, Try.ntmps22
  go_upto_region 1 with fail
  generalize W.alloc (.cells #[.pointer (some ⟨b, 0, none⟩), .int .i64 n, .slice a m c] 51) = w1 at *
  have c1 := when_wh (HST.out w1 B1.out).1 i HI.out
  rw [HE.out.1, HE.out.2.1] at c1
  go_upto_region 2 with (go_at_call 7; refine c1.mono ?_; rintro ex w2 ⟨rfl, hb2⟩)
  have B2 : Hid (Below W.heap.size W w2) := B1.out.trans (hb2.mono B1.out.size)
  have HQ2 : Hid (w2.heap[W.heap.size]? = some (.cells #[.pointer (some ⟨b, 0, none⟩), .int .i64 n, .slice a m c] 51)) := (Kept.of_below (F := No) hb2).at' HQ.out (fun h => h)
  have c2 := rwhen_any (N := n) i (HST.out w2 B2.out).2
  rw [HE.out.1, HE.out.2.1] at c2
  unfold mv at c2
  have x1 := cell_of_row (k := 1) (v := .int .i64 n) HQ2.out rfl
  have x2 := cell_of_row (k := 2) (v := .slice a m c) HQ2.out rfl
  clear c1 hb2 q0 B1 HQ
  go_upto_region 3 with (go_at_call 32; refine c2.mono ?_; rintro ex w3 ⟨rfl, hb3⟩)
  have B3 : Hid (Below W.heap.size W w3) := B2.out.trans (hb3.mono B2.out.size)
  have HQ3 : Hid (w3.heap[W.heap.size]? = some (.cells #[.pointer (some ⟨b, 0, none⟩), .int .i64 n, .slice a m c] 51)) := (Kept.of_below (F := No) hb3).at' HQ2.out (fun h => h)
  have c3 := next_wh (HST.out w3 B3.out).1
  rw [HE.out.2.2.1, HE.out.2.2.2] at c3
  have y0 := cell_of_row (k := 0) (v := .pointer (some ⟨b, 0, none⟩)) HQ3.out rfl
  clear c2 hb3 x1 x2 B2 HQ2
  go_upto_region 4 with (go_at_call 16; refine c3.mono ?_; rintro ex w4 ⟨rfl, hb4⟩)
  have B4 : Hid (Below W.heap.size W w4) := B3.out.trans (hb4.mono B3.out.size)
  have HQ4 : Hid (w4.heap[W.heap.size]? = some (.cells #[.pointer (some ⟨b, 0, none⟩), .int .i64 n, .slice a m c] 51)) := (Kept.of_below (F := No) hb4).at' HQ3.out (fun h => h)
  have c4 := rnext_any (N := n) (HST.out w4 B4.out).2
  rw [HE.out.2.2.1, HE.out.2.2.2] at c4
  unfold mv at c4
  have x1 := cell_of_row (k := 1) (v := .int .i64 n) HQ4.out rfl
  have x2 := cell_of_row (k := 2) (v := .slice a m c) HQ4.out rfl
  clear c3 hb4 y0 B3 HQ3
  go_upto_region 5 with (go_at_call 33; refine c4.mono ?_; rintro ex w5 ⟨rfl, hb5⟩)
  have B5 : Hid (Below W.heap.size W w5) := B4.out.trans (hb5.mono B4.out.size)
  have HQ5 : Hid (w5.heap[W.heap.size]? = some (.cells #[.pointer (some ⟨b, 0, none⟩), .int .i64 n, .slice a m c] 51)) := (Kept.of_below (F := No) hb5).at' HQ4.out (fun h => h)
  have z0 := cell_of_row (k := 0) (v := .pointer (some ⟨b, 0, none⟩)) HQ5.out rfl
  have z1 := cell_of_row (k := 1) (v := .int .i64 n) HQ5.out rfl
  have z2 := cell_of_row (k := 2) (v := .slice a m c) HQ5.out rfl
  have cN : ∀ q, Calls Try.prog 14 #[.pointer (some ⟨b, 0, none⟩)] (w5.drewN q) fun ex w' => ex = .returned (.int .i64 n) ∧ w' = w5.drewN q := fun q => now_wh (HST.out (w5.drewN q) (B5.out.trans ⟨rfl, rfl, rfl, Nat.le_refl _, fun _ _ => rfl⟩)).1
  have cL : ∀ q, Calls Try.prog 8 #[.pointer (some ⟨b, 0, none⟩)] (w5.drewN q) fun ex w' => ex = .returned (.int .i64 m) ∧ w' = w5.drewN q := fun q => (by
    have := len_wh (HST.out (w5.drewN q) (B5.out.trans ⟨rfl, rfl, rfl, Nat.le_refl _, fun _ _ => rfl⟩)).1
    rw [HLM.out] at this
    exact this)
  clear c4 hb5 x1 x2 B4 HQ4
  go_quiet (first
    | (go_at_call 14; exact Calls.quiet_of_same (cN _))
    | (go_at_call 8; exact Calls.quiet_of_same (cL _)))
  go_wp2
  go_ret
  exact ⟨rfl, B5.out.trans ⟨rfl, rfl, rfl, Nat.le_refl _, fun _ _ => rfl⟩⟩
end Go.Proofs.Ytdojmmnojpeklaa
