/-
  proc: Fire.
-/
import Derived.Test.YtofkacfchkimiaaPPer
namespace Go.Proofs.Ytofkacfchkimiaa
open Go.RowKit Plain
set_option linter.unusedVariables false
set_option maxRecDepth 100000

theorem ldF {w : World} {q : Nat} {u v z : Value} (h : w.heap[q]? = some (.cells #[u, v, z] 100)) : (loadVar 100 ⟨q, 0, none⟩).run Try.prog w = .ok (.agg #[u, v, z]) w :=
  run_loadVar_row (P := Try.prog) w q 100 100 _ (0, 0) _ h Try.underlying100 rfl (by kernel_rfl)
theorem st_func {P : Program} {w : World} {q j : Nat} {u : Value} (f : Fn) (ar : Array Value) (hc : w.cell? ⟨q, j, none⟩ = some u) (hf : w.frozen? ⟨q, j, none⟩ = false) :
    (store ⟨q, j, none⟩ (.func f ar #[])).run P w = .ok () (w.setCell ⟨q, j, none⟩ (.func f ar #[])) := by
  rw [run_store P w _ _ _ rfl]
  simp [go_sem, hc, hf]
/-- what a timer of each kind does -/
def act3 (b : Nat) : Array Value := #[.func (.func 67) #[.pointer (some ⟨b, 0, none⟩)] #[], .func (.func 68) #[.pointer (some ⟨b, 0, none⟩)] #[], .func (.func 69) #[.pointer (some ⟨b, 0, none⟩)] #[]]
theorem ixF (w : World) (d r k : Value) (j : Nat) (hj : j < 3) : (Instr.index 100 (.agg #[d, r, k]) (.int .i64 (j : Int))).run Try.prog w = .ok (#[d, r, k].getD j undef) w := by
  have hu := Try.underlying100
  have : j = 0 ∨ j = 1 ∨ j = 2 := by omega
  rcases this with rfl | rfl | rfl
  all_goals simp [Instr.index, run_underlying hu, asIntOf, go_sem, part]
section
variable {b g cap : Nat} {T : Tt}
theorem actions_any (w : World) :
    Calls Try.prog 45 #[.pointer (some ⟨b, 0, none⟩)] w fun e w' => e = .returned (.agg (act3 b)) ∧ Kept No w w' := by
  have k1 : Kept No w (w.alloc (.cells #[.nilFunc, .nilFunc, .nilFunc] 100)) := (Kept.refl No w).alloc _
  have hB := alloc_new w (.cells #[.nilFunc, .nilFunc, .nilFunc] 100)
  go_enter Try.func45, Try.ntmps45
  go_upto_region 1 with fail
  have HB : Hid ((w.alloc (.cells #[.nilFunc, .nilFunc, .nilFunc] 100)).heap[w.heap.size]? = some (.cells #[.nilFunc, .nilFunc, .nilFunc] 100) ∧ Kept No w (w.alloc (.cells #[.nilFunc, .nilFunc, .nilFunc] 100))) := ⟨hB, k1⟩
  obtain ⟨a0, a1, a2⟩ := bx3 hB
  have f0 := fz3 hB 0
  have f1 := fz3 hB 1
  have f2 := fz3 hB 2
  clear hB k1
  generalize (w.alloc (.cells #[.nilFunc, .nilFunc, .nilFunc] 100)) = w1 at *
  have S0 := st_func (P := Try.prog) (w := w1) (.func 67) #[.pointer (some ⟨b, 0, none⟩)] a0 f0
  have S1 := st_func (P := Try.prog) (w := w1.setCell ⟨w.heap.size, 0, none⟩ (.func (.func 67) #[.pointer (some ⟨b, 0, none⟩)] #[])) (.func 68) #[.pointer (some ⟨b, 0, none⟩)] ((cell_set a1).trans (by rw [if_neg (by omega)])) (by rw [World.frozen?_setCell]; exact f1)
  have S2 := st_func (P := Try.prog) (w := (w1.setCell ⟨w.heap.size, 0, none⟩ (.func (.func 67) #[.pointer (some ⟨b, 0, none⟩)] #[])).setCell ⟨w.heap.size, 1, none⟩ (.func (.func 68) #[.pointer (some ⟨b, 0, none⟩)] #[])) (.func 69) #[.pointer (some ⟨b, 0, none⟩)] ((cell_set ((cell_set a2).trans (by rw [if_neg (by omega)]))).trans (by rw [if_neg (by omega)])) (by rw [World.frozen?_setCell, World.frozen?_setCell]; exact f2)
  go_wp2
  refine bodyPost_ret (results_cellI rfl _ _ w.heap.size (.agg (act3 b)) rfl (ldF (set3 HB.out.1 _ _ _))) rfl ?_
  exact ⟨rfl, ((HB.out.2.setCell (.inr (Nat.le_refl _)) _).setCell (.inr (Nat.le_refl _)) _).setCell (.inr (Nat.le_refl _)) _⟩
theorem fire_not {v k n : Value} (w : World) (du : Calls Try.prog 12 #[.pointer (some ⟨b, 0, none⟩), v, k, n] w fun e w' => e = .returned (.bool false) ∧ Kept No w w') :
    Calls Try.prog 15 #[.pointer (some ⟨b, 0, none⟩), v, k, n] w fun e w' => e = .returned (.bool false) ∧ Kept No w w' := by
  go_enter Try.func15, Try.ntmps15
  go_wp2_with (go_at_call 12; refine du.mono ?_; rintro e w1 ⟨rfl, k1⟩; have K1 := k1; clear k1 du)
  go_ret
  exact ⟨rfl, K1⟩
/-- what a due timer does -/
def Tt.fire (T : Tt) (i : Nat) (kind now : Int) : Tt := if kind = 1 then T.miss i else if kind = 2 then T.release i now else T.out i
set_option maxHeartbeats 4000000 in
theorem fire_yes (w : World) (h : Tw w b g cap T) {i : Nat} (hi : i < T.n) (hn : T.n ≤ 1048576) (hr : Rm T.pl) (hm : Rm (T.ps i).mis) (kind now : Int) (hd : (T.ps i).due kind now = true) :
    Calls Try.prog 15 #[.pointer (some ⟨b, 0, none⟩), .int .i64 ((i : Int) + 1), .int .i64 kind, .int .i64 now] w fun e w' => e = .returned (.bool true) ∧ Tw w' b g cap (T.fire i kind now) ∧ Kept (Bg b g) w w' := by
  have du := due_any w h hi hn kind now
  rw [hd] at du
  have hk : kind = 1 ∨ kind = 2 ∨ kind = 3 := by
    unfold Pr.due Pr.tk at hd
    by_cases h1 : kind = 1
    · exact .inl h1
    · by_cases h2 : kind = 2
      · exact .inr (.inl h2)
      · by_cases h3 : kind = 3
        · exact .inr (.inr h3)
        · rw [if_neg h1, if_neg h2, if_neg h3] at hd
          simp at hd
          omega
  have H : Hid (Tw w b g cap T ∧ Rm T.pl ∧ Rm (T.ps i).mis) := ⟨h, hr, hm⟩
  clear h hr hm hd
  have ac : Hid (∀ W, Calls Try.prog 45 #[.pointer (some ⟨b, 0, none⟩)] W fun e w' => e = .returned (.agg (act3 b)) ∧ Kept No W w') := fun W => actions_any W
  have HF : Hid (∀ W, Kept No w W → Calls Try.prog 34 #[.pointer (some ⟨b, 0, none⟩), .int .i64 ((i : Int) + 1)] W fun e w' => e = .returned (.pointer (some ⟨g, i * 32, none⟩)) ∧ w' = W) := fun W k => find_yes W (H.out.1.keep k) hi hn
  rcases hk with rfl | rfl | rfl
  · have pl : Hid (∀ W, Calls Try.prog 41 #[.int .i64 1] W fun e w' => e = .returned (.tuple #[.int .i64 0, .bool true]) ∧ w' = W) := fun W => placeOf_yes 1 W (by omega) (by omega)
    have eT : T.fire i 1 now = T.miss i := rfl
    rw [eT]
    have IX : ∀ W, (Instr.index 100 (.agg (act3 b)) (.int .i64 0)).run Try.prog W = .ok (.func (.func 67) #[.pointer (some ⟨b, 0, none⟩)] #[]) W := fun W => ixF W _ _ _ 0 (by omega)
    have HM : Hid (∀ W, Kept No w W → Calls Try.prog 67 #[.pointer (some ⟨b, 0, none⟩), .pointer (some ⟨g, i * 32, none⟩), .int .i64 now] W fun e w' => (∃ v, e = .returned v) ∧ Tw w' b g cap (T.miss i) ∧ Kept (Bg b g) w w') := fun W k => (miss_tw W (H.out.1.keep k) hi H.out.2.2 now).mono (fun _ w' ⟨e, t, k'⟩ => ⟨e, t, (k.mono (fun _ e => e.elim)).trans k' (fun _ e => .inl e)⟩)
    generalize T.miss i = U at *
    go_enter Try.func15, Try.ntmps15
    go_upto_region 4 with (first
      | (go_at_call 12; refine du.mono ?_; rintro e w1 ⟨rfl, k1⟩; have p1 := pl.out w1; clear du)
      | (go_at_call 41; refine p1.mono ?_; rintro e w' ⟨rfl, rfl⟩; clear p1))
    have K1 : Hid (Kept No w w') := k1
    clear k1 pl eT
    go_region_with (first
      | (go_at_call 45; refine (ac.out _).mono ?_; rintro e w2 ⟨rfl, k2⟩; have K2 : Hid (Kept No w w2) := (by first | exact K1.out.trans k2 (fun _ e => e.elim) | exact K1.out.drew.trans k2 (fun _ e => e.elim)); clear k2)
      | (go_at_call 34; refine (HF.out _ (by first | exact K2.out | exact K2.out.drew)).mono ?_; rintro e w3 ⟨rfl, rfl⟩)
      | (go_at_call 67; refine (HM.out _ (by first | exact K2.out | exact K2.out.drew)).mono ?_; rintro e w4 ⟨⟨v, rfl⟩, t4, k4⟩; have H4 : Hid (Tw w4 b g cap U ∧ Kept (Bg b g) w w4) := ⟨t4, k4⟩; clear t4 k4))
    all_goals (go_wp2; go_ret; exact ⟨rfl, (by first | exact H4.out | exact ⟨H4.out.1.keep ((Kept.refl No _).drew), H4.out.2.drew⟩)⟩)
  · have pl : Hid (∀ W, Calls Try.prog 41 #[.int .i64 2] W fun e w' => e = .returned (.tuple #[.int .i64 1, .bool true]) ∧ w' = W) := fun W => placeOf_yes 2 W (by omega) (by omega)
    have eT : T.fire i 2 now = T.release i now := rfl
    rw [eT]
    have IX : ∀ W, (Instr.index 100 (.agg (act3 b)) (.int .i64 1)).run Try.prog W = .ok (.func (.func 68) #[.pointer (some ⟨b, 0, none⟩)] #[]) W := fun W => ixF W _ _ _ 1 (by omega)
    have HM : Hid (∀ W, Kept No w W → Calls Try.prog 68 #[.pointer (some ⟨b, 0, none⟩), .pointer (some ⟨g, i * 32, none⟩), .int .i64 now] W fun e w' => (∃ v, e = .returned v) ∧ Tw w' b g cap (T.release i now) ∧ Kept (Bg b g) w w') := fun W k => (release_tw W (H.out.1.keep k) hi H.out.2.1 now).mono (fun _ w' ⟨e, t, k'⟩ => ⟨e, t, (k.mono (fun _ e => e.elim)).trans k' (fun _ e => .inl e)⟩)
    generalize T.release i now = U at *
    go_enter Try.func15, Try.ntmps15
    go_upto_region 4 with (first
      | (go_at_call 12; refine du.mono ?_; rintro e w1 ⟨rfl, k1⟩; have p1 := pl.out w1; clear du)
      | (go_at_call 41; refine p1.mono ?_; rintro e w' ⟨rfl, rfl⟩; clear p1))
    have K1 : Hid (Kept No w w') := k1
    clear k1 pl eT
    go_region_with (first
      | (go_at_call 45; refine (ac.out _).mono ?_; rintro e w2 ⟨rfl, k2⟩; have K2 : Hid (Kept No w w2) := (by first | exact K1.out.trans k2 (fun _ e => e.elim) | exact K1.out.drew.trans k2 (fun _ e => e.elim)); clear k2)
      | (go_at_call 34; refine (HF.out _ (by first | exact K2.out | exact K2.out.drew)).mono ?_; rintro e w3 ⟨rfl, rfl⟩)
      | (go_at_call 68; refine (HM.out _ (by first | exact K2.out | exact K2.out.drew)).mono ?_; rintro e w4 ⟨⟨v, rfl⟩, t4, k4⟩; have H4 : Hid (Tw w4 b g cap U ∧ Kept (Bg b g) w w4) := ⟨t4, k4⟩; clear t4 k4))
    all_goals (go_wp2; go_ret; exact ⟨rfl, (by first | exact H4.out | exact ⟨H4.out.1.keep ((Kept.refl No _).drew), H4.out.2.drew⟩)⟩)
  · have pl : Hid (∀ W, Calls Try.prog 41 #[.int .i64 3] W fun e w' => e = .returned (.tuple #[.int .i64 2, .bool true]) ∧ w' = W) := fun W => placeOf_yes 3 W (by omega) (by omega)
    have eT : T.fire i 3 now = T.out i := rfl
    rw [eT]
    have IX : ∀ W, (Instr.index 100 (.agg (act3 b)) (.int .i64 2)).run Try.prog W = .ok (.func (.func 69) #[.pointer (some ⟨b, 0, none⟩)] #[]) W := fun W => ixF W _ _ _ 2 (by omega)
    have HM : Hid (∀ W, Kept No w W → Calls Try.prog 69 #[.pointer (some ⟨b, 0, none⟩), .pointer (some ⟨g, i * 32, none⟩), .int .i64 now] W fun e w' => (∃ v, e = .returned v) ∧ Tw w' b g cap (T.out i) ∧ Kept (Bg b g) w w') := fun W k => (out_tw W (H.out.1.keep k) hi H.out.2.1 now).mono (fun _ w' ⟨e, t, k'⟩ => ⟨e, t, (k.mono (fun _ e => e.elim)).trans k' (fun _ e => .inl e)⟩)
    generalize T.out i = U at *
    go_enter Try.func15, Try.ntmps15
    go_upto_region 4 with (first
      | (go_at_call 12; refine du.mono ?_; rintro e w1 ⟨rfl, k1⟩; have p1 := pl.out w1; clear du)
      | (go_at_call 41; refine p1.mono ?_; rintro e w' ⟨rfl, rfl⟩; clear p1))
    have K1 : Hid (Kept No w w') := k1
    clear k1 pl eT
    go_region_with (first
      | (go_at_call 45; refine (ac.out _).mono ?_; rintro e w2 ⟨rfl, k2⟩; have K2 : Hid (Kept No w w2) := (by first | exact K1.out.trans k2 (fun _ e => e.elim) | exact K1.out.drew.trans k2 (fun _ e => e.elim)); clear k2)
      | (go_at_call 34; refine (HF.out _ (by first | exact K2.out | exact K2.out.drew)).mono ?_; rintro e w3 ⟨rfl, rfl⟩)
      | (go_at_call 69; refine (HM.out _ (by first | exact K2.out | exact K2.out.drew)).mono ?_; rintro e w4 ⟨⟨v, rfl⟩, t4, k4⟩; have H4 : Hid (Tw w4 b g cap U ∧ Kept (Bg b g) w w4) := ⟨t4, k4⟩; clear t4 k4))
    all_goals (go_wp2; go_ret; exact ⟨rfl, (by first | exact H4.out | exact ⟨H4.out.1.keep ((Kept.refl No _).drew), H4.out.2.drew⟩)⟩)
end
end Go.Proofs.Ytofkacfchkimiaa
