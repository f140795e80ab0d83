/-
  The wheel as a list of timers: New, Cancel, Arm, When, Len, Now.
-/
import Derived.Test.YtffgcijicmfmlaaGreatDoorWCan
namespace Go.Proofs.YtffgcijicmfmlaaGreatDoor
open Go.RowKit
set_option linter.unusedVariables false

/-- block b is a wheel that stands at n with the timers L; its blocks lie in F -/
def Wh (w : World) (F : Nat → Prop) (b n : Nat) (L : List Fi) : Prop :=
  n ≤ 1099511627776 ∧ ∃ mb c M S V, Wl w b mb n c M S V ∧ Iv n M S [] ∧ Rp c M L ∧ ∀ k, Fp b mb V k → F k
namespace Wh
variable {w w' : World} {F G : Nat → Prop} {b n : Nat} {L : List Fi}
theorem kept (h : Wh w F b n L) (k : Kept G w w') (hG : ∀ j, F j → ¬ G j) : Wh w' F b n L := by
  obtain ⟨hn, mb, c, M, S, V, h1, h2, h3, h4⟩ := h
  exact ⟨hn, mb, c, M, S, V, h1.kept k (fun j hj => hG j (h4 j hj)), h2, h3, h4⟩
theorem below (h : Wh w F b n L) (k : Below w.heap.size w w') : Wh w' F b n L := h.kept (Kept.of_below (F := No) k) (fun _ _ h => h)
theorem mono (h : Wh w F b n L) (hG : ∀ k, F k → G k) : Wh w G b n L := by
  obtain ⟨hn, mb, c, M, S, V, h1, h2, h3, h4⟩ := h
  exact ⟨hn, mb, c, M, S, V, h1, h2, h3, fun k hk => hG k (h4 k hk)⟩
theorem sorted (h : Wh w F b n L) : L.Pairwise lt2 := by obtain ⟨hn, mb, c, M, S, V, h1, h2, h3, h4⟩ := h; exact h3.sorted
theorem ok (h : Wh w F b n L) : ∀ x, x ∈ L → Ok n x := by obtain ⟨hn, mb, c, M, S, V, h1, h2, h3, h4⟩ := h; exact (h3.bound h2).1
theorem uniq (h : Wh w F b n L) {x y : Fi} (hx : x ∈ L) (hy : y ∈ L) (e : x.i = y.i) : x = y := by obtain ⟨hn, mb, c, M, S, V, h1, h2, h3, h4⟩ := h; exact h3.uniq hx hy e
theorem lt (h : Wh w F b n L) : b < w.heap.size := by obtain ⟨hn, mb, c, M, S, V, h1, h2, h3, h4⟩ := h; exact h1.lt
end Wh

theorem iv_empty (n : Nat) : Iv n (fun _ => none) (fun _ => []) [] :=
  ⟨(fun k hk x hx => by cases hx), (fun k hk j x hx => by cases hx), (fun x hx => by cases hx), (fun x hx => by cases hx), (fun x hx => by cases hx), List.Pairwise.nil, (fun i t j h => by cases h)⟩
theorem rp_empty : Rp 0 (fun _ => none) [] := ⟨List.Pairwise.nil, rfl, fun i t => ⟨(fun h => by cases h), (fun h => by cases h)⟩⟩
theorem new_wh (n : Nat) (hn : n ≤ 1099511627776) (w : World) : Calls Tryz.prog 43 #[.int .i64 n] w fun ex w' => ∃ b, ex = .returned (.tuple #[.pointer (some ⟨b, 0, none⟩), .int .i64 0]) ∧ Wh w' (fun k => w.heap.size ≤ k) b n [] ∧ Below w.heap.size w w' := by
  refine (new_yes n hn w).mono ?_
  rintro ex w' ⟨rfl, hw, hb⟩
  refine ⟨_, rfl, ⟨hn, _, _, _, _, _, hw, iv_empty n, rp_empty, fun k hk => ?_⟩, hb⟩
  rcases hk with rfl | rfl | ⟨j, _, e⟩
  · omega
  · omega
  · cases e

section
variable {w : World} {F : Nat → Prop} {b n : Nat} {L : List Fi}
/-- the tick of a number -/
def tickOf (L : List Fi) (x : Int) : Option Int := (L.find? (fun y => y.i == x)).map Fi.t
theorem tickOf_some {L : List Fi} {x t : Int} (h : tickOf L x = some t) : Fi.mk t x ∈ L := by
  unfold tickOf at h
  cases e : L.find? (fun y => y.i == x) with
  | none => rw [e] at h; cases h
  | some y =>
    rw [e] at h
    have h1 := List.mem_of_find?_eq_some e
    have h2 := List.find?_some e
    obtain ⟨yt, yi⟩ := y
    simp at h h2
    subst h h2
    exact h1
theorem tickOf_none {L : List Fi} {x : Int} (h : tickOf L x = none) : ∀ y, y ∈ L → y.i ≠ x := by
  unfold tickOf at h
  simp at h
  exact h
theorem Rp.tick {c : Nat} {M : Int → Option (Int × Int)} (h : Rp c M L) (x : Int) : tk M x = tickOf L x := by
  cases e : tickOf L x with
  | none =>
    cases e2 : tk M x with
    | none => rfl
    | some t => exact absurd rfl (tickOf_none e _ ((h.mem x t).1 e2))
  | some t => exact (h.mem x t).2 (tickOf_some e)
theorem cancel_wh (h : Wh w F b n L) (x : Int) (hx : I6w x) : Calls Tryz.prog 118 #[.pointer (some ⟨b, 0, none⟩), .int .i64 x] w fun ex w' => ex = .returned (.bool (tickOf L x).isSome) ∧ ∃ F', Wh w' F' b n (rem x L) ∧ Kept F w w' ∧ ∀ k, F' k → F k ∨ w.heap.size ≤ k := by
  obtain ⟨hn, mb, c, M, S, V, h1, h2, h3, h4⟩ := h
  have e := h3.tick x
  unfold tk at e
  rw [← e]
  cases em : M x with
  | none =>
    refine (cancel_no h1 x hx em).mono ?_
    rintro ex w' ⟨rfl, hb⟩
    refine ⟨rfl, F, ⟨hn, mb, c, M, S, V, h1.below hb, h2, ?_, h4⟩, Kept.of_below hb, fun k hk => .inl hk⟩
    rw [h3.rem_none em]
    exact h3
  | some p =>
    obtain ⟨t, j⟩ := p
    refine (cancel_yes h1 h2 h3 (by omega) x hx t j em).mono ?_
    rintro ex w' ⟨rfl, c', M', S', V', g1, g2, g3, g4, g5, g6⟩
    exact ⟨rfl, Fp b mb V', ⟨hn, mb, c', M', S', V', g1, g2, g3, fun k hk => hk⟩, g5.mono h4, fun k hk => .inl (h4 k (g6 k hk))⟩
theorem lay_wh (h : Wh w F b n L) (x : Fi) (hx : Ok n x) (hL : ∀ y, y ∈ L → y.i ≠ x.i) : Calls Tryz.prog 117 #[.pointer (some ⟨b, 0, none⟩), x.v] w fun ex w' => ex = .returned (.tuple #[]) ∧ ∃ F', Wh w' F' b n (ins x L) ∧ Kept F w w' ∧ ∀ k, F' k → F k ∨ w.heap.size ≤ k := by
  obtain ⟨hn, mb, c, M, S, V, h1, h2, h3, h4⟩ := h
  obtain ⟨x1, x2, x3, x4⟩ := hx.tn
  have h0 : M x.i = none := by
    cases e : M x.i with
    | none => rfl
    | some p =>
      obtain ⟨t, j⟩ := p
      exact absurd (rfl : (Fi.mk t x.i).i = x.i) (hL _ ((h3.mem x.i t).1 (tk_some e)))
  have hb := h3.bound h2
  have hx6 : I6w x.i := by unfold Ok at hx; unfold I6w; omega
  have hl := h2.len (sl_lt n x.t.toNat)
  have := lay_any h1 (by omega) x.t.toNat x2 x.i hx6 (by omega) (by omega)
  rw [x4] at this
  refine this.mono ?_
  rintro ex w' ⟨rfl, v, g1, g2, g3⟩
  rw [if_pos h0] at g1
  refine ⟨rfl, Fp b mb (updN V (sl n x.t.toNat) v), ⟨hn, mb, _, _, _, _, g1, h2.lay_f hx h0, h3.add h0 _, fun k hk => hk⟩, g2.mono h4, fun k hk => ?_⟩
  rcases hk with hk | hk | ⟨j, hj, hk⟩
  · exact .inl (h4 k (.inl hk))
  · exact .inl (h4 k (.inr (.inl hk)))
  · by_cases e : j = sl n x.t.toNat
    · subst e
      rw [updN_same] at hk
      rcases g3 with g3 | ⟨g, g3, g4⟩
      · exact .inl (h4 k (.inr (.inr ⟨_, hj, by rw [← g3]; exact hk⟩)))
      · rw [g3] at hk
        injection hk with hk
        subst hk
        exact .inr g4
    · rw [updN_ne _ _ e] at hk
      exact .inl (h4 k (.inr (.inr ⟨j, hj, hk⟩)))
theorem arm_no (h : Wh w F b n L) (x t : Int) (hx : x < 0 ∨ x > 65535 ∨ t < n ∨ t ≥ 1099511627776) : Calls Tryz.prog 110 #[.pointer (some ⟨b, 0, none⟩), .int .i64 x, .int .i64 t] w fun ex w' => ex = .returned (.int .i64 2) ∧ w' = w := by
  obtain ⟨hn, mb, c, M, S, V, h1, h2, h3, h4⟩ := h
  have h0 := h1.now
  clear h1 h2 h3 h4
  by_cases a1 : x < 0
  · clear hx
    go_enter Tryz.func110, Tryz.ntmps110
    go_wp2
    go_ret
    exact ⟨rfl, rfl⟩
  · by_cases a2 : x > 65535
    · clear hx
      go_enter Tryz.func110, Tryz.ntmps110
      go_wp2
      go_ret
      exact ⟨rfl, rfl⟩
    · by_cases a3 : t < n
      · clear hx
        go_enter Tryz.func110, Tryz.ntmps110
        go_wp2
        go_ret
        exact ⟨rfl, rfl⟩
      · have a4 : t ≥ 1099511627776 := by omega
        clear hx
        go_enter Tryz.func110, Tryz.ntmps110
        go_wp2
        go_ret
        exact ⟨rfl, rfl⟩
theorem arm_yes (h : Wh w F b n L) (x : Fi) (hx : Ok n x) : Calls Tryz.prog 110 #[.pointer (some ⟨b, 0, none⟩), .int .i64 x.i, .int .i64 x.t] w fun ex w' => ex = .returned (.int .i64 0) ∧ ∃ F', Wh w' F' b n (ins x (rem x.i L)) ∧ Kept F w w' ∧ ∀ k, F' k → F k ∨ w.heap.size ≤ k := by
  have a1 : ¬ (x.i < 0) := by unfold Ok at hx; omega
  have a2 : ¬ (x.i > 65535) := by unfold Ok at hx; omega
  have a3 : ¬ (x.t < n) := by unfold Ok at hx; omega
  have a4 : ¬ (x.t ≥ 1099511627776) := by unfold Ok at hx; omega
  have h0 : w.cell? ⟨b, 0, none⟩ = some (.int .i64 n) := by obtain ⟨hn, mb, c, M, S, V, h1, _⟩ := h; exact h1.now
  have cC := cancel_wh h x.i (by unfold I6w; omega)
  have HX : Hid (Ok n x) := hx
  have HW : Hid (Wh w F b n L) := h
  obtain ⟨xt, xi⟩ := x
  dsimp only at *
  clear hx h
  go_enter Tryz.func110, Tryz.ntmps110
  go_upto_region 4 with (go_at_call 118; refine cC.mono ?_; rintro ex w2 ⟨rfl, F2, hW2, hK2, hF2⟩)
  have cL := lay_wh hW2 ⟨xt, xi⟩ HX.out (fun y hy => (mem_rem.1 hy).2)
  unfold Fi.v at cL
  dsimp only at cL
  have K2 : Hid (Kept F w w2) := hK2
  have HF2 : Hid (∀ k, F2 k → F k ∨ w.heap.size ≤ k) := hF2
  clear cC hW2 hK2 hF2 h0
  go_wp2_with (go_at_call 117; refine cL.mono ?_; rintro ex w3 ⟨rfl, F3, hW3, hK3, hF3⟩)
  go_ret
  have hs := K2.out.size
  refine ⟨rfl, F3, hW3, K2.out.trans hK3 HF2.out, fun k hk => ?_⟩
  rcases hF3 k hk with h | h
  · exact HF2.out k h
  · exact .inr (by omega)
end

end Go.Proofs.YtffgcijicmfmlaaGreatDoor
