/-
  'Cancel', 'Arm'.
-/
import Derived.Test.YtffgcijicmfmlaaGreatDoorWLift
import Derived.Test.YtffgcijicmfmlaaGreatDoorWList
namespace Go.Proofs.YtffgcijicmfmlaaGreatDoor
open Go.RowKit
set_option linter.unusedVariables false

theorem pig : ∀ (N : Nat) (l : List Nat), l.Nodup → (∀ x, x ∈ l → x < N) → l.length ≤ N
  | 0, l, _, h => by
    cases l with
    | nil => exact Nat.le_refl _
    | cons a l => exact absurd (h a List.mem_cons_self) (Nat.not_lt_zero _)
  | N + 1, l, hn, h => by
    by_cases hm : N ∈ l
    · have h1 := pig N (l.erase N) (hn.erase N) (fun x hx => by
        have := hn.mem_erase_iff.1 hx
        have := h x this.2
        omega)
      rw [List.length_erase_of_mem hm] at h1
      omega
    · have h1 := pig N l hn (fun x hx => by
        have := h x hx
        have : x ≠ N := fun e => hm (e ▸ hx)
        omega)
      omega
/-- how many timers there may be -/
theorem Iv.len {n : Nat} {M : Int → Option (Int × Int)} {S : Nat → List Fi} {pd : List Fi} (h : Iv n M S pd) {k : Nat} (hk : k < 448) : (S k).length ≤ 65536 := by
  have := pig 65536 ((S k).map (fun x => x.i.toNat)) (by
    unfold List.Nodup
    rw [List.pairwise_map, List.pairwise_iff_getElem]
    intro i j hi hj hij e
    have o1 := (h.ok k hk _ (List.getElem_mem hi)).1
    have o2 := (h.ok k hk _ (List.getElem_mem hj)).1
    unfold Ok at o1 o2
    have := (h.uniq hk hk (List.getElem?_eq_getElem hi) (List.getElem?_eq_getElem hj) (by omega)).2.1
    omega) (fun x hx => by
    obtain ⟨y, hy, rfl⟩ := List.mem_map.1 hx
    have o1 := (h.ok k hk y hy).1
    unfold Ok at o1
    omega)
  rw [List.length_map] at this
  exact this
theorem Rp.bound {n c : Nat} {M : Int → Option (Int × Int)} {S : Nat → List Fi} {pd L : List Fi} (h : Rp c M L) (hi : Iv n M S pd) : (∀ x, x ∈ L → Ok n x) ∧ c ≤ 65536 := by
  have hok : ∀ x, x ∈ L → Ok n x := by
    intro x hx
    obtain ⟨j, hj⟩ := some_tk ((h.mem x.i x.t).2 hx)
    rcases hi.back x.i x.t j hj with ⟨jn, rfl, hjn⟩ | hp
    · exact (hi.ok _ (sl_lt _ _) _ (at_mem hjn)).1
    · exact hi.pok _ hp
  refine ⟨hok, ?_⟩
  have := pig 65536 (L.map (fun x => x.i.toNat)) (by
    unfold List.Nodup
    rw [List.pairwise_map, List.pairwise_iff_getElem]
    intro i j hi hj hij e
    have o1 := hok _ (List.getElem_mem hi)
    have o2 := hok _ (List.getElem_mem hj)
    unfold Ok at o1 o2
    have e2 := h.uniq (List.getElem_mem hi) (List.getElem_mem hj) (by omega)
    have := List.pairwise_iff_getElem.1 h.sorted i j hi hj hij
    rw [e2] at this
    exact lt2_irrefl _ this) (fun x hx => by
    obtain ⟨y, hy, rfl⟩ := List.mem_map.1 hx
    have o1 := hok y hy
    unfold Ok at o1
    omega)
  rw [List.length_map] at this
  rw [h.cnt]
  exact this

theorem wl_del {ops : Array Oper} {rest : List Oper} {op : Oper} {a : Act} {w : World} {Q : Exit → Act → World → Prop} (hgd : op.guard = none) (m x : Operand) (ho : op.op = .call { callee := .builtin .delete, args := #[m, x], argTypes := #[90, 3] }) (mb c : Nat) (i : Int) (M : Int → Option (Int × Int)) (hm : a.eval m = .map (some mb)) (hx : a.eval x = .int .i64 i) (tm : Tm w mb M c) (hi : I6w i)
    (h : ∀ w', Hid (Tm w' mb (updM M i none) (if M i = none then c else c - 1)) → Hid (Kept (fun k => k = mb) w w') → wpList Tryz.prog ops Q rest (a.put op.dst (.tuple #[])) w') : wpList Tryz.prog ops Q (op :: rest) a w := by
  obtain ⟨w', hr, t', k'⟩ := tm.del hi op.type
  refine wpList_plain hgd fun K hK => ?_
  unfold Oper.wp
  simp [execOp, ho, resolve, invoke, builtin, hm, hx, hr, Result.andThen]
  exact hK _ _ (h w' t' k')

section
variable {w : World} {b mb n c : Nat} {M : Int → Option (Int × Int)} {S : Nat → List Fi} {V : Nat → Value} {L : List Fi}
theorem cancel_no (h : Wl w b mb n c M S V) (x : Int) (hx : I6w x) (h0 : M x = none) : Calls Tryz.prog 118 #[.pointer (some ⟨b, 0, none⟩), .int .i64 x] w fun ex w' => ex = .returned (.bool false) ∧ Below w.heap.size w w' := by
  have hm := h.map
  have hl := h.tm.look hx
  rw [h0] at hl
  unfold tmV at hl
  dsimp only [Option.getD_none, Option.isSome_none] at hl
  clear h h0 hx
  go_enter Tryz.func118, Tryz.ntmps118
  go_wp2
  go_ret
  exact ⟨rfl, (Below.refl _ w).alloc (Nat.le_refl _) _⟩
set_option maxHeartbeats 1000000 in
theorem cancel_yes (h : Wl w b mb n c M S V) (hi : Iv n M S []) (hr : Rp c M L) (hn : n < 4398046511104) (x : Int) (hx : I6w x) (t j : Int) (h0 : M x = some (t, j)) : Calls Tryz.prog 118 #[.pointer (some ⟨b, 0, none⟩), .int .i64 x] w fun ex w' => ex = .returned (.bool true) ∧ ∃ c' M' S' V', Wl w' b mb n c' M' S' V' ∧ Iv n M' S' [] ∧ Rp c' M' (rem x L) ∧ M' x = none ∧ Kept (Fp b mb V) w w' ∧ (∀ k, Fp b mb V' k → Fp b mb V k) := by
  have hb := hr.bound hi
  obtain ⟨p, rfl, hp⟩ : ∃ jn : Nat, j = jn ∧ (S (sl n t.toNat))[jn]? = some ⟨t, x⟩ := by
    rcases hi.back x t j h0 with h1 | h1
    · exact h1
    · cases h1
  have hk := sl_lt n t.toNat
  obtain ⟨m, hm⟩ : ∃ m, (S (sl n t.toNat)).length = m + 1 := by
    cases e : (S (sl n t.toNat)).length with
    | zero => rw [List.eq_nil_of_length_eq_zero e] at hp; cases hp
    | succ m => exact ⟨m, rfl⟩
  have hpm : p ≤ m := by
    apply Decidable.byContradiction
    intro hne
    rw [List.getElem?_eq_none (by omega)] at hp
    cases hp
  obtain ⟨y, hy⟩ : ∃ y, (S (sl n t.toNat))[m]? = some y := ⟨_, List.getElem?_eq_getElem (by omega)⟩
  obtain ⟨okx, _⟩ := hi.ok _ hk _ (at_mem hp)
  obtain ⟨oky, _⟩ := hi.ok _ hk _ (at_mem hy)
  obtain ⟨x1, x2, x3, x4⟩ := okx.tn
  dsimp only at x1 x2 x4
  have hy6 : I6w y.i := by unfold Ok at oky; unfold I6w; omega
  have hMy := hi.at' _ hk m y hy
  -- what comes of it
  have HI : Hid (Iv n (updM (updM M y.i (some (y.t, (p : Int)))) x none) (updN S (sl n t.toNat) (((S (sl n t.toNat)).set p y).take m)) []) := hi.cut hk hp hm hy
  have HL : Hid (∀ M', (∀ i, i ≠ x → tk M' i = tk M i) → M' x = none → Rp (c - 1) M' (rem x L)) := (fun M' h1 h2 => hr.del (z := ⟨t, x⟩) ((hr.mem x t).1 (tk_some h0)) h1 h2)
  have HMy : Hid (M y.i = some (y.t, (m : Int))) := hMy
  have HMx : Hid (M x = some (t, (p : Int))) := h0
  have HWL : Hid (Wl w b mb n c M S V) := h
  have hmp := h.map
  have hl := h.tm.look hx
  rw [h0] at hl
  unfold tmV at hl
  dsimp only [Option.getD_some, Option.isSome_some] at hl
  have W1 : Hid (Wl (w.alloc (.cells #[.int .i64 t, .int .i64 p] 185)) b mb n c M S V) := h.below ((Below.refl _ w).alloc (Nat.le_refl _) _)
  have cL := lift_any W1.out hn t.toNat x2 p m y hm hpm hy hy6 (by omega)
  rw [if_neg (by rw [hMy]; simp), x4] at cL
  unfold tmV at cL
  have HQ := heap_last w (.cells #[.int .i64 t, .int .i64 (p : Int)] 185)
  have K1 : Hid (Kept (Fp b mb V) w (w.alloc (.cells #[.int .i64 t, .int .i64 p] 185))) := (Kept.refl _ w).alloc _
  have HX6 : Hid (I6w x) := hx
  clear h hi hr h0 hp hm hy hy6 hMy okx oky hx hb x1 x4
  go_enter Tryz.func118, Tryz.ntmps118
  go_upto_region 2 with fail
  generalize w.alloc (.cells #[.int .i64 t, .int .i64 (p : Int)] 185) = w1 at W1 cL HQ K1 ⊢
  have q0 : w1.cell? ⟨w.heap.size, 0, none⟩ = some (.int .i64 t) := cell_of_row HQ rfl
  have q1 : w1.cell? ⟨w.heap.size, 1, none⟩ = some (.int .i64 p) := cell_of_row HQ rfl
  clear hmp hl
  go_upto_region 4 with (go_at_call 123; refine cL.mono ?_; rintro ex w2 ⟨rfl, v, hW2, hK2, hv⟩)
  have W2 : Hid (Wl w2 b mb n c (updM M y.i (some (y.t, (p : Int)))) (updN S (sl n t.toNat) (((S (sl n t.toNat)).set p y).take m)) (updN V (sl n t.toNat) v)) := hW2
  have K2 : Hid (Kept (Fp b mb V) w w2) := K1.out.trans hK2 (fun j h => .inl h)
  have HV : Hid (∀ k, Fp b mb (updN V (sl n t.toNat) v) k → Fp b mb V k) := (fun k h => by
    rcases h with h | h | ⟨j, hj, h⟩
    · exact .inl h
    · exact .inr (.inl h)
    · by_cases e : j = sl n t.toNat
      · subst e; rw [updN_same] at h; exact .inr (.inr ⟨_, hj, hv k h⟩)
      · rw [updN_ne _ _ e] at h; exact .inr (.inr ⟨j, hj, h⟩))
  have hm2 := hW2.map
  clear hW2 hK2 hv cL q0 q1 HQ K1 W1
  go_wp2_with (refine wl_del rfl _ _ rfl mb c x _ rfl rfl W2.out.tm HX6.out ?_; intro w3 tm3 kp3)
  have hne : updM M y.i (some (y.t, (p : Int))) x ≠ none := by
    by_cases e : x = y.i
    · rw [e, updM_same]; simp
    · rw [updM_ne _ _ e, HMx.out]; simp
  go_ret
  have tm3 := tm3.out
  rw [if_neg hne] at tm3
  refine ⟨rfl, _, _, _, _, W2.out.turn kp3.out tm3, HI.out, HL.out _ (fun i hi => ?_) (updM_same _ _ _), updM_same _ _ _, K2.out.trans kp3.out (fun j e => .inl (.inr (.inl e))), HV.out⟩
  rw [show tk (updM (updM M y.i (some (y.t, (p : Int)))) x none) i = tk (updM M y.i (some (y.t, (p : Int)))) i by unfold tk; rw [updM_ne _ _ hi]]
  exact Rp.tk_upd HMy.out i
end

end Go.Proofs.YtffgcijicmfmlaaGreatDoor
