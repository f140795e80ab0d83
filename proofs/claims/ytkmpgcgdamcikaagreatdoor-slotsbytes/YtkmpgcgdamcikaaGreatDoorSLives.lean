/-
  lives: the table of no servers is made, and read.
-/
import Derived.Test.YtkmpgcgdamcikaaGreatDoorGSlot
import Derived.Test.YtkmpgcgdamcikaaGreatDoorORuns
namespace Go.Proofs.YtkmpgcgdamcikaaGreatDoor
open Go.RowKit Go.Shelf Plain
set_option linter.unusedVariables false
set_option maxRecDepth 100000

theorem sv_none (w : World) : Sv w No none 0 0 [] := ⟨rfl, by omega, by omega, fun _ => rfl, fun i x hx => by cases hx⟩
theorem tim_nil : timF [] 0 = none := by
  unfold timF
  have e1 : findF [] 0 = none := by rfl
  rw [e1]
  rfl
theorem hyp_nil : hyp [] = 1 := by
  unfold hyp lcmV
  rfl
theorem occ_nil (t : Nat) : Rule.occ (sys []) t = 0 := Rule.occ_zero.2 (fun j hj => by simp [sys] at hj)
theorem runs_nil (a : Nat) : Rule.runsOf (Rule.occ (sys [])) a 1 = [(1, 0)] := by
  show Rule.joinL [] (1, Rule.occ (sys []) (a + 0)) = _
  rw [occ_nil]
  rfl
def zl (L : List (Nat × Nat)) : List (Int × Int) := L.map (fun x => ((x.1 : Int), (x.2 : Int)))
theorem Ow.sl {w : World} {base : Nat} {v : Value} {K : List (Nat × Nat)} (h : Ow w base v K) : ∃ a c, v = .slice a K.length c ∧ Sl w (fun k => v.ownBlock = some k) a K.length c (zl K) := by
  have hc := h
  obtain ⟨_, h1 | ⟨g, cap, cur, rfl, hb, hg, hn, hm, _, _⟩⟩ := h
  · obtain ⟨rfl, h0⟩ := h1
    have : K = [] := by simpa using h0
    subst this
    exact ⟨none, 0, rfl, ⟨rfl, by simp, by omega, fun _ => rfl, fun i x hx => by cases hx⟩⟩
  · refine ⟨_, cap, rfl, ⟨by simp [zl], hn, by unfold maxLen at hm; omega, fun e => (by cases e), fun i x hx => ?_⟩⟩
    unfold zl at hx
    rw [List.getElem?_map] at hx
    cases hk : K[i]? with
    | none => rw [hk] at hx; cases hx
    | some y =>
      rw [hk] at hx
      simp at hx
      subst hx
      obtain ⟨e1, e2⟩ := slL_at K i y hk
      have c1 := hc.cells (g := g) rfl _ _ e1
      have c2 := hc.cells (g := g) rfl _ _ e2
      rw [add_none, Nat.zero_add] at c1 c2
      exact ⟨g, 0, rfl, rfl, by rw [Nat.zero_add]; exact c1, by rw [Nat.zero_add]; exact c2⟩

set_option maxHeartbeats 1000000 in
theorem occupants_nil (fr : Nat) (hfr : fr ≤ 1) (w : World) (hg : Gl w) :
    Calls Tryz.prog 43 #[.slice none 0 0, .int .i64 fr, .int .i64 ((fr + 1 : Nat) : Int)] w fun e w' => ∃ g c, e = .returned (.slice (some ⟨g, 0, none⟩) 1 c) ∧ 1 ≤ c ∧ c ≤ 9223372036854775807 ∧ w.heap.size ≤ g ∧ Sl w' (fun k => k = g) (some ⟨g, 0, none⟩) 1 c [(1, 0)] ∧ Kept No w w' := by
  have hr := runs_yes (F := No) (a := none) (c := 0) (xs := []) fr (fr + 1) w hg (sv_none w) (fun k h => h.elim) tim_nil (by omega) (by omega)
  rw [show fr + 1 - fr = 1 by omega, runs_nil] at hr
  have hr2 : Calls Tryz.prog 59 #[.slice none 0 0, .int .i64 fr, .int .i64 ((fr + 1 : Nat) : Int)] w fun e w' => ∃ g c, e = .returned (.tuple #[.slice (some ⟨g, 0, none⟩) 1 c, .int .i64 0]) ∧ 1 ≤ c ∧ c ≤ 9223372036854775807 ∧ w.heap.size ≤ g ∧ Sl w' (fun k => k = g) (some ⟨g, 0, none⟩) 1 c [(1, 0)] ∧ Kept No w w' := by
    refine hr.mono ?_
    rintro e w' ⟨hk, ⟨v, hl, rfl, ho⟩ | ⟨hl, _⟩⟩
    · obtain ⟨a, c, rfl, hs⟩ := ho.sl
      obtain ⟨b, o, rfl, hb, _⟩ := hs.gt (i := 0) (by simp)
      have e0 := ho.2
      rcases e0 with ⟨e1, _⟩ | ⟨g, cap, cur, e1, hb1, _⟩
      · cases e1
      · injection e1 with e1 e2 e3
        injection e1 with e1
        injection e1 with e1 e4
        subst e1 e4
        refine ⟨b, c, rfl, hs.cap, hs.max, hb1, ?_, hk⟩
        exact hs.mono (fun k hk => by simp [Value.ownBlock] at hk; exact hk.symm)
    · simp at hl
  clear hr hg
  go_enter Tryz.func43, Tryz.ntmps43
  go_wp2_with (go_at_call 59; refine hr2.mono ?_; rintro e w1 ⟨g, c, rfl, q1, q2, q3, hs1, hk1⟩; have H1 : Hid (Sl w1 (fun k => k = g) (some ⟨g, 0, none⟩) 1 c [(1, 0)] ∧ Kept No w w1) := ⟨hs1, hk1⟩; clear hs1 hk1 hr2)
  go_ret
  exact ⟨g, c, rfl, q1, q2, q3, H1.out⟩

theorem handOut_one (g c : Nat) (w : World) (h1 : 1 ≤ c) (h2 : c ≤ 9223372036854775807) :
    Calls Tryz.prog 36 #[.slice (some ⟨g, 0, none⟩) 1 c] w fun e w' => e = .returned (.slice (some ⟨g, 0, none⟩) 1 1) ∧ w' = w := by
  go_enter Tryz.func36, Tryz.ntmps36
  go_wp2
  go_ret
  exact ⟨rfl, rfl⟩
theorem Sl.handed {w : World} {F : Nat → Prop} {a : Option Addr} {n c : Nat} {L : List (Int × Int)} (h : Sl w F a n c L) (ha : a ≠ none) : Sl w F a n n L :=
  ⟨h.len, Nat.le_refl _, by have := h.cap; have := h.max; omega, fun e => (ha e).elim, h.at'⟩
theorem ldT {w : World} {q : Nat} {u v : Value} (h : w.heap[q]? = some (.cells #[u, v] 25)) : (loadVar 25 ⟨q, 0, none⟩).run Tryz.prog w = .ok (.agg #[u, v]) w :=
  run_loadVar_row (P := Tryz.prog) w q 25 25 _ (0, 0) _ h Tryz.underlying25 rfl (by kernel_rfl)
theorem results_ct {P : Program} {fn : Func} {p u : Tmp} {ty : TypeId} (h : fn.results = #[.cell p ty, .tmp u]) (tmps : Array Value) (w : World) (g : Nat) (v : Value)
    (hp : tmps.getD p undef = .pointer (some ⟨g, 0, none⟩)) (hl : (loadVar ty ⟨g, 0, none⟩).run P w = .ok v w) : (results fn tmps).run P w = .ok (.tuple #[v, tmps.getD u undef]) w := by
  have hp' : tmps[p]?.getD undef = .pointer (some ⟨g, 0, none⟩) := by simpa using hp
  simp [results, h, hp', asAddr, hl]
theorem set2T {w : World} {g : Nat} {u v : Value} {t : TypeId} (h : w.heap[g]? = some (.cells #[u, v] t)) (u' v' : Value) : ((w.setCell ⟨g, 0, none⟩ u').setCell ⟨g, 1, none⟩ v').heap[g]? = some (.cells #[u', v'] t) := by
  simp [World.setCell, Array.getElem?_modify, h]

set_option maxHeartbeats 2000000 in
theorem make_nil (w : World) (hg : Gl w) :
    Calls Tryz.prog 25 #[.slice none 0 0] w fun e w' => ∃ g0 g1, e = .returned (.tuple #[.agg #[.slice (some ⟨g0, 0, none⟩) 1 1, .slice (some ⟨g1, 0, none⟩) 1 1], .int .i64 0]) ∧ Sl w' (fun k => k = g0) (some ⟨g0, 0, none⟩) 1 1 [(1, 0)] ∧ Sl w' (fun k => k = g1) (some ⟨g1, 0, none⟩) 1 1 [(1, 0)] ∧ g0 < w'.heap.size ∧ g1 < w'.heap.size ∧ Kept No w w' := by
  have ka : Kept No w (w.alloc (.cells #[.slice none 0 0, .slice none 0 0] 25)) := (Kept.refl No w).alloc _
  have hc := hyper_any No none 0 0 [] _ (hg.kept ka) (sv_none _)
  rw [show hyV [] 0 = 1 from by have := (tim_yes tim_nil).1; rw [hyp_nil] at this; exact this, show hyE [] 0 = 0 from (tim_yes tim_nil).2] at hc
  have HA : Hid (Kept No w (w.alloc (.cells #[.slice none 0 0, .slice none 0 0] 25)) ∧ (w.alloc (.cells #[.slice none 0 0, .slice none 0 0] 25)).heap[w.heap.size]? = some (.cells #[.slice none 0 0, .slice none 0 0] 25) ∧ Gl w) := ⟨ka, World.alloc_heap_new _ _, hg⟩
  clear ka hg
  go_enter Tryz.func25, Tryz.ntmps25
  go_upto_region 4 with (go_at_call 42; refine hc.mono ?_; rintro e w1 ⟨rfl, hk1⟩; have H1 : Hid (Kept No w w1 ∧ w1.heap[w.heap.size]? = some (.cells #[.slice none 0 0, .slice none 0 0] 25) ∧ Gl w1) := ⟨HA.out.1.trans hk1 (fun _ h => h.elim), hk1.at' HA.out.2.1 (fun h => h), HA.out.2.2.kept (HA.out.1.trans hk1 (fun _ h => h.elim))⟩; clear hk1 hc)
  have o1 := occupants_nil 0 (by omega) w1 H1.out.2.2
  go_wp2_with (first
    | (go_at_call 43; refine o1.mono ?_; rintro e w2 ⟨g0, c0, rfl, q1, q2, q3, hs2, hk2⟩; have H2 : Hid (Sl w2 (fun k => k = g0) (some ⟨g0, 0, none⟩) 1 c0 [(1, 0)] ∧ Kept No w w2 ∧ w2.heap[w.heap.size]? = some (.cells #[.slice none 0 0, .slice none 0 0] 25) ∧ Gl w2 ∧ w1.heap.size ≤ g0) := ⟨hs2, H1.out.1.trans hk2 (fun _ h => h.elim), hk2.at' H1.out.2.1 (fun h => h), H1.out.2.2.kept hk2, q3⟩; clear hs2 hk2 o1 q3; have p1 := handOut_one g0 c0 w2 q1 q2)
    | (go_at_call 36; refine p1.mono ?_; rintro e w3 ⟨rfl, rfl⟩; clear p1 q1 q2; have o2 := occupants_nil 1 (by omega) w3 H2.out.2.2.2.1)
    | (go_at_call 43; refine o2.mono ?_; rintro e w4 ⟨g1, c1, rfl, r1, r2, r3, hs4, hk4⟩; have H4 : Hid (Sl w4 (fun k => k = g0) (some ⟨g0, 0, none⟩) 1 c0 [(1, 0)] ∧ Sl w4 (fun k => k = g1) (some ⟨g1, 0, none⟩) 1 c1 [(1, 0)] ∧ Kept No w w4 ∧ w4.heap[w.heap.size]? = some (.cells #[.slice none 0 0, .slice none 0 0] 25) ∧ w3.heap.size ≤ g1) := ⟨H2.out.1.keep hk4, hs4, H2.out.2.1.trans hk4 (fun _ h => h.elim), hk4.at' H2.out.2.2.1 (fun h => h), r3⟩; clear hs4 hk4 o2 r3; have p2 := handOut_one g1 c1 w4 r1 r2)
    | (go_at_call 36; refine p2.mono ?_; rintro e w5 ⟨rfl, rfl⟩; clear p2 r1 r2; obtain ⟨t0, t1⟩ := bx2 H4.out.2.2.2.1; have tf : ∀ k, w5.frozen? ⟨w.heap.size, k, none⟩ = false := (fun k => by simp [World.frozen?, H4.out.2.2.2.1])))
  clear t0 t1 tf
  refine bodyPost_ret (results_ct rfl _ _ w.heap.size (.agg #[.slice (some ⟨g0, 0, none⟩) 1 1, .slice (some ⟨g1, 0, none⟩) 1 1]) rfl (ldT (set2T H4.out.2.2.2.1 _ _))) rfl ?_
  have kx : Kept (fun k => k = w.heap.size) w5 ((w5.setCell ⟨w.heap.size, 0, none⟩ (.slice (some ⟨g0, 0, none⟩) 1 1)).setCell ⟨w.heap.size, 1, none⟩ (.slice (some ⟨g1, 0, none⟩) 1 1)) := Kept.setCell (F := fun k => k = w.heap.size) (p := ⟨w.heap.size, 1, none⟩) (Kept.setCell (F := fun k => k = w.heap.size) (p := ⟨w.heap.size, 0, none⟩) (Kept.refl _ w5) (.inl rfl) _) (.inl rfl) _
  have z1 := heap_lt H1.out.2.1
  have z2 := heap_lt H2.out.2.2.1
  have z3 := H2.out.2.2.2.2
  have z4 := H4.out.2.2.2.2
  have s0 := (H4.out.1.handed (by simp)).kept kx (fun k e => by omega)
  have s1 := (H4.out.2.1.handed (by simp)).kept kx (fun k e => by omega)
  have l0 : g0 < ((w5.setCell ⟨w.heap.size, 0, none⟩ (.slice (some ⟨g0, 0, none⟩) 1 1)).setCell ⟨w.heap.size, 1, none⟩ (.slice (some ⟨g1, 0, none⟩) 1 1)).heap.size := by
    obtain ⟨b, o, e, hb, hc, _⟩ := s0.gt (i := 0) (by omega)
    have := cell_lt hc
    simp only at this hb
    omega
  have l1 : g1 < ((w5.setCell ⟨w.heap.size, 0, none⟩ (.slice (some ⟨g0, 0, none⟩) 1 1)).setCell ⟨w.heap.size, 1, none⟩ (.slice (some ⟨g1, 0, none⟩) 1 1)).heap.size := by
    obtain ⟨b, o, e, hb, hc, _⟩ := s1.gt (i := 0) (by omega)
    have := cell_lt hc
    simp only at this hb
    omega
  exact ⟨g0, g1, rfl, s0, s1, l0, l1, H4.out.2.2.1.trans kx (fun k e => .inr (by omega))⟩

theorem tab_one : Slt.Tab [(1, 0)] [(1, 0)] 1 := by
  have hg : Slt.Goes [(1, 0)] := by decide
  exact ⟨hg, hg, by decide, by decide, by omega, by omega⟩
theorem sits_one : Slt.Sits [(1, 0)] [(1, 0)] 1 5 0 := ⟨by decide, by decide, by decide⟩

set_option maxHeartbeats 2000000 in
theorem lives_any (w : World) (hg : Gl w) :
    Calls Tryz.prog 8 #[] w fun e w' => e = .returned (.bool true) ∧ Kept No w w' := by
  have hm := make_nil w hg
  clear hg
  go_enter Tryz.func8, Tryz.ntmps8
  go_upto_region 2 with (go_at_call 25; refine hm.mono ?_; rintro e w1 ⟨g0, g1, rfl, s0, s1, l0, l1, hk1⟩; have H1 : Hid (Sl w1 (fun k => k = g0) (some ⟨g0, 0, none⟩) 1 1 [(1, 0)] ∧ Sl w1 (fun k => k = g1) (some ⟨g1, 0, none⟩) 1 1 [(1, 0)] ∧ g0 < w1.heap.size ∧ g1 < w1.heap.size ∧ Kept No w w1) := ⟨s0, s1, l0, l1, hk1⟩; clear s0 s1 l0 l1 hk1 hm)
  have ka : Kept No w1 (w1.alloc (.cells #[.slice (some ⟨g0, 0, none⟩) 1 1, .slice (some ⟨g1, 0, none⟩) 1 1] 25)) := (Kept.refl No w1).alloc _
  have b2 := World.alloc_heap_new w1 (.cells #[.slice (some ⟨g0, 0, none⟩) 1 1, .slice (some ⟨g1, 0, none⟩) 1 1] 25)
  have H2 : Hid (Kept No w1 (w1.alloc (.cells #[.slice (some ⟨g0, 0, none⟩) 1 1, .slice (some ⟨g1, 0, none⟩) 1 1] 25)) ∧ (w1.alloc (.cells #[.slice (some ⟨g0, 0, none⟩) 1 1, .slice (some ⟨g1, 0, none⟩) 1 1] 25)).heap[w1.heap.size]? = some (.cells #[.slice (some ⟨g0, 0, none⟩) 1 1, .slice (some ⟨g1, 0, none⟩) 1 1] 25)) := ⟨ka, b2⟩
  clear ka b2
  generalize w1.alloc (.cells #[.slice (some ⟨g0, 0, none⟩) 1 1, .slice (some ⟨g1, 0, none⟩) 1 1] 25) = w2 at *
  obtain ⟨d0, d1⟩ := bx2 H2.out.2
  have hat := sAt_yes (H := 1) (t := 5) w2 (H1.out.1.keep H2.out.1) (fun k e => by have := H1.out.2.2.1; have := H2.out.1.size; omega) (H1.out.2.1.keep H2.out.1) (fun k e => by have := H1.out.2.2.2.1; have := H2.out.1.size; omega) tab_one (by omega) sits_one
  rw [show Slt.who [(1, 0)] [(1, 0)] 1 5 0 = 0 by decide] at hat
  go_upto_region 3 with (go_at_call 26; refine hat.mono ?_; rintro e w3 ⟨rfl, hk3⟩; have H3 : Hid (Kept No w1 w3 ∧ w3.heap[w1.heap.size]? = some (.cells #[.slice (some ⟨g0, 0, none⟩) 1 1, .slice (some ⟨g1, 0, none⟩) 1 1] 25)) := ⟨H2.out.1.trans hk3 (fun _ h => h.elim), hk3.at' H2.out.2 (fun h => h)⟩; clear hk3 hat)
  clear d0 d1
  obtain ⟨d0, d1⟩ := bx2 H3.out.2
  have hv := valid_any w3 (H1.out.1.keep H3.out.1) (fun k e => by have := H1.out.2.2.1; have := H3.out.1.size; omega) (H1.out.2.1.keep H3.out.1) (fun k e => by have := H1.out.2.2.2.1; have := H3.out.1.size; omega)
  rw [tab_hyF tab_one, if_neg (by decide)] at hv
  go_wp2_with (go_at_call 10; refine hv.mono ?_; rintro e w4 ⟨rfl, hk4⟩; have H4 : Hid (Kept No w w4) := (H1.out.2.2.2.2.trans H3.out.1 (fun _ h => h.elim)).trans hk4 (fun _ h => h.elim); obtain ⟨v0, v1⟩ := bx2 (hk4.at' H3.out.2 (fun h => h)); clear hk4 hv)
  go_ret
  exact ⟨rfl, H4.out⟩
end Go.Proofs.YtkmpgcgdamcikaaGreatDoor
