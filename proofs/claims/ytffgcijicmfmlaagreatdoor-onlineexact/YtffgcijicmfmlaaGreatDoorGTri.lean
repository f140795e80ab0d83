/-
  One text: DRuleW, DStepsW, DSpoil.
-/
import Derived.Test.YtffgcijicmfmlaaGreatDoorGMid
namespace Go.Proofs.YtffgcijicmfmlaaGreatDoor
open Go.RowKit Plain
set_option linter.unusedVariables false
set_option maxRecDepth 100000

theorem Dn.cut {w : World} {d : Nat} {R : Nat → Prop} {xs : List Srv} {t : Nat} (h : Dn w d R xs t) : Dn w d (fun k => R k ∧ k < w.heap.size) xs t := by
  obtain ⟨gR, bW, a, c, FS, FW, ⟨L, h1, h3⟩, h2⟩ := h
  refine ⟨gR, bW, a, c, FS, _, ⟨L, h1.cut, h3⟩, fun k hk => ?_⟩
  rcases hk with h | h | h | h
  · exact ⟨h2 k (.inl h), by rw [h]; exact cell_lt h1.c0⟩
  · exact ⟨h2 k (.inr (.inl h)), by rw [h]; exact h1.ct.lt⟩
  · exact ⟨h2 k (.inr (.inr (.inl h))), h1.sl k h⟩
  · exact ⟨h2 k (.inr (.inr (.inr h.1))), h.2⟩

/-- what the rounds of OnlineRule keep: the dispatcher at tn, the row of rests outside its blocks -/
structure Orl (w wr : World) (d : Nat) (xs : List Srv) (tn : Nat) (v : Value) (f : Nat → Int) : Prop where
  kp : Kept No w wr
  ex : ∃ R, Dn wr d R xs tn ∧ (∀ k, R k → w.heap.size ≤ k) ∧ ((v = .slice none 0 0 ∧ xs.length = 0) ∨ ∃ g c, v = .slice (some ⟨g, 0, none⟩) xs.length c ∧ xs.length ≤ c ∧ c ≤ 9223372036854775807 ∧ Ct wr g xs.length f ∧ ¬ R g ∧ w.heap.size ≤ g)
theorem Orl.rd {w wr : World} {d : Nat} {xs : List Srv} {tn : Nat} {v : Value} {f : Nat → Int} (h : Orl w wr d xs tn v f) : Rd0 wr v xs.length f := by
  obtain ⟨R, _, _, h3⟩ := h.ex
  rcases h3 with h3 | ⟨g, c, h3, h4, h5, h6, _⟩
  · exact .inl h3
  · exact .inr ⟨g, c, h3, h4, h5, h6⟩
theorem Orl.keep {w wr w' : World} {d : Nat} {xs : List Srv} {tn : Nat} {v : Value} {f : Nat → Int} (h : Orl w wr d xs tn v f) (hk : Kept No wr w') : Orl w w' d xs tn v f := by
  obtain ⟨R, h1, h2, h3⟩ := h.ex
  refine ⟨h.kp.trans hk (fun _ h => h.elim), R, h1.keep hk, h2, ?_⟩
  rcases h3 with h3 | ⟨g, c, h3, h4, h5, h6, h7⟩
  · exact .inl h3
  · exact .inr ⟨g, c, h3, h4, h5, h6.keep hk, h7⟩
theorem Orl.sl {w wr : World} {d : Nat} {xs : List Srv} {tn : Nat} {v : Value} {f : Nat → Int} (h : Orl w wr d xs tn v f) : ∃ a c, v = .slice a xs.length c := by
  obtain ⟨R, _, _, h3⟩ := h.ex
  rcases h3 with ⟨h3, h0⟩ | ⟨g, c, h3, _⟩
  · exact ⟨none, 0, by rw [h3, h0]⟩
  · exact ⟨_, _, h3⟩
/-- the dispatcher goes on -/
theorem Orl.adv {w wr : World} {d : Nat} {xs : List Srv} {tn : Nat} {v : Value} {f : Nat → Int} (hv : Vd xs) (h : Orl w wr d xs tn v f) (x : Nat) (h1 : tn ≤ x) (h2 : x < 1099511627776) :
    Calls Tryz.prog 11 #[.pointer (some ⟨d, 0, none⟩), .int .i64 x] wr fun e w' => e = .returned (.int .i64 0) ∧ Orl w w' d xs x v f := by
  obtain ⟨R, q1, q2, q3⟩ := h.ex
  refine (good_dn hv q1 x h1 h2).mono ?_
  rintro e w' ⟨rfl, g1, g2⟩
  have hs := h.kp.size
  have hs2 := g2.size
  refine ⟨rfl, h.kp.trans g2 (fun k hk => .inr (q2 k hk)), _, g1.cut, fun k hk => ?_, ?_⟩
  · rcases hk.1 with h | h
    · exact q2 k h
    · omega
  · rcases q3 with q3 | ⟨g, c, q3, q4, q5, q6, q7, q8⟩
    · exact .inl q3
    · refine .inr ⟨g, c, q3, q4, q5, q6.over g2 q7, fun hk => ?_, q8⟩
      have := q6.lt
      rcases hk.1 with h | h
      · exact q7 h
      · omega
/-- another row of rests -/
theorem Orl.row {w wr w' : World} {d : Nat} {xs : List Srv} {tn : Nat} {v v' : Value} {f f' : Nat → Int} (h : Orl w wr d xs tn v f) (hk : Kept No wr w') (hr : Ri w' wr.heap.size v' xs.length f') : Orl w w' d xs tn v' f' := by
  obtain ⟨R, q1, q2, q3⟩ := h.ex
  have hs := h.kp.size
  refine ⟨h.kp.trans hk (fun _ h => h.elim), _, (q1.cut).keep hk, fun k hk => q2 k hk.1, ?_⟩
  rcases hr.ct with hr | ⟨g, c, h1, h2, h3, h4, h5⟩
  · exact .inl hr
  · exact .inr ⟨g, c, h1, h3, h4, h5, fun h => by have := h.2; omega, by omega⟩
/-- one rest less -/
theorem Orl.less {w wr : World} {d : Nat} {xs : List Srv} {tn : Nat} {g c : Nat} {f : Nat → Int} (h : Orl w wr d xs tn (.slice (some ⟨g, 0, none⟩) xs.length c) f) (i : Nat) (x : Int) (hn : 0 < xs.length) : Orl w (wr.setCell ⟨g, i, none⟩ (.int .i64 x)) d xs tn (.slice (some ⟨g, 0, none⟩) xs.length c) (fun j => if j = i then x else f j) := by
  obtain ⟨R, q1, q2, q3⟩ := h.ex
  rcases q3 with ⟨_, h0⟩ | ⟨g', c', q3, q4, q5, q6, q7, q8⟩
  · omega
  · injection q3 with e1 _ e3
    injection e1 with e1
    injection e1 with e1 _ _
    subst e1 e3
    have k : Kept (fun j => j = g) wr (wr.setCell ⟨g, i, none⟩ (.int .i64 x)) := Kept.setCell (Kept.refl (fun j => j = g) wr) (p := ⟨g, i, none⟩) (Or.inl rfl) _
    exact ⟨h.kp.trans k (fun j e => .inr (by omega)), R, q1.kept k (fun j hj e => q7 (by rw [← e]; exact hj)), q2, .inr ⟨g, c, rfl, q4, q5, q6.put i x, q7, q8⟩⟩
theorem Orl.like {w wr : World} {d : Nat} {xs : List Srv} {tn : Nat} {v : Value} {f f' : Nat → Int} (h : Orl w wr d xs tn v f) (he : ∀ i, i < xs.length → f i = f' i) : Orl w wr d xs tn v f' := by
  obtain ⟨R, q1, q2, q3⟩ := h.ex
  refine ⟨h.kp, R, q1, q2, ?_⟩
  rcases q3 with q3 | ⟨g, c, q3, q4, q5, q6, q7⟩
  · exact .inl q3
  · exact .inr ⟨g, c, q3, q4, q5, q6.like he, q7⟩
theorem sameInts_rd {v v' : Value} {n : Nat} {r : Nat → Int} (w : World) (h : Rd0 w v n r) (h' : Rd0 w v' n r) (hn : n ≤ 32) : Calls Tryz.prog 13 #[v, v'] w fun e w' => e = .returned (.bool true) ∧ Kept No w w' := by
  by_cases h0 : n = 0
  · subst h0
    obtain ⟨a, c, rfl⟩ : ∃ a c, v = .slice a 0 c := by
      rcases h with ⟨h1, _⟩ | ⟨g, c, h1, _⟩
      · exact ⟨_, _, h1⟩
      · exact ⟨_, _, h1⟩
    obtain ⟨a', c', rfl⟩ : ∃ a c, v' = .slice a 0 c := by
      rcases h' with ⟨h1, _⟩ | ⟨g, c, h1, _⟩
      · exact ⟨_, _, h1⟩
      · exact ⟨_, _, h1⟩
    clear h h'
    go_enter Tryz.func13, Tryz.ntmps13
    go_wp2
    go_loopw [5] (fun x wr => x = .int .i64 0 ∧ wr = w) (fun _ _ => 0)
    case atStart => exact ⟨rfl, rfl⟩
    case round =>
      obtain ⟨rfl, hw⟩ := hrel
      obtain rfl := hw.symm
      go_wp2
      go_ret
      exact ⟨rfl, Kept.refl No _⟩
  · rcases h with ⟨_, h1⟩ | ⟨g, c, rfl, _, _, h1⟩
    · omega
    · rcases h' with ⟨_, h2⟩ | ⟨g', c', rfl, _, _, h2⟩
      · omega
      · exact sameInts_yes w h1 h2 hn

set_option maxHeartbeats 2000000 in
theorem orule_many (a : Option Addr) (n c : Nat) (fr tk : Int) (w : World) (hg : Gl w) (hk : 400 < tk) :
    Calls Tryz.prog 6 #[.slice a n c, .int .i64 fr, .int .i64 tk] w fun e w' => e = .returned (.bool true) ∧ Below w.heap.size w w' := by
  have kn := known_any w hg
  clear hg
  go_enter Tryz.func6, Tryz.ntmps6
  go_wp2_with (go_at_call 10; refine kn.mono ?_; rintro e w3 ⟨rfl, hk3⟩; have HK3 : Hid (Kept No w w3) := hk3; clear hk3 kn)
  go_ret
  exact ⟨rfl, HK3.out.below0⟩
set_option maxHeartbeats 4000000 in
theorem orule_none {F : Nat → Prop} {a : Option Addr} {c : Nat} {xs : List Srv} {p : Int × Int} (fr tk : Int) (w : World) (hg : Gl w) (h : Sv w F a xs.length c xs) (ht : timF xs xs.length = some p) (hk : ¬ 400 < tk) :
    Calls Tryz.prog 6 #[.slice a xs.length c, .int .i64 fr, .int .i64 tk] w fun e w' => e = .returned (.bool true) ∧ Below w.heap.size w w' := by
  have a1 := able_no w hg h ht
  have HKN : Hid (∀ W, Kept No w W → Calls Tryz.prog 10 #[] W fun e w' => e = .returned (.bool true) ∧ Kept No W w') := fun W hk => known_any W (hg.kept hk)
  have q2 : ∀ (w : World), (binOp .eql 24 (.pointer none) (.pointer none)).run Tryz.prog w = .ok (.bool true) w := fun w => by rfl
  clear h hg ht
  go_enter Tryz.func6, Tryz.ntmps6
  go_wp2_with (first
    | (go_at_call 9; refine a1.mono ?_; rintro e w2 ⟨rfl, hk2⟩; have HK2 : Hid (Kept No w w2) := hk2; have kn := HKN.out w2 HK2.out; clear hk2 a1)
    | (go_at_call 10; refine kn.mono ?_; rintro e w3 ⟨rfl, hk3⟩; have HK3 : Hid (Kept No w w3) := HK2.out.trans hk3 (fun _ h => h.elim); clear hk3 kn))
  go_ret
  exact ⟨rfl, HK3.out.below0⟩
set_option maxHeartbeats 4000000 in
theorem orule_bad {F : Nat → Prop} {a : Option Addr} {c : Nat} {xs : List Srv} (fr tk : Int) (w : World) (hg : Gl w) (h : Sv w F a xs.length c xs) (ht : timF xs xs.length = none) (hk : ¬ 400 < tk) (hb : fr < 0 ∨ 1099511627775 < fr) :
    Calls Tryz.prog 6 #[.slice a xs.length c, .int .i64 fr, .int .i64 tk] w fun e w' => e = .returned (.bool true) ∧ Below w.heap.size w w' := by
  have a1 := able_yes w hg h ht
  have HKN : Hid (∀ W, Kept No w W → Calls Tryz.prog 10 #[] W fun e w' => e = .returned (.bool true) ∧ Kept No W w') := fun W hk => known_any W (hg.kept hk)
  have q2 : ∀ (w : World) (d : Nat), (binOp .eql 24 (.pointer (some ⟨d, 0, none⟩)) (.pointer none)).run Tryz.prog w = .ok (.bool false) w := fun w d => by rfl
  have hb' : fr < ((0 : Nat) : Int) ∨ 1099511627775 < fr := hb
  clear h hg ht
  generalize hyp xs = H at *
  go_enter Tryz.func6, Tryz.ntmps6
  go_upto_region 7 with (first
    | (go_at_call 9; refine a1.mono ?_; rintro e w2 ⟨d, rfl, hd2, hk2⟩; have HK2 : Hid (Dm w2 d w.heap.size w2.heap.size xs 0 ∧ Kept No w w2) := ⟨hd2, hk2⟩; have kn := HKN.out w2 HK2.out.2; clear hd2 hk2 a1)
    | (go_at_call 10; refine kn.mono ?_; rintro e w3 ⟨rfl, hk3⟩; have HK3 : Hid (Dn w3 d (fun k => w.heap.size ≤ k ∧ k < w2.heap.size) xs 0 ∧ Kept No w w3) := ⟨HK2.out.1.dn.keep hk3, HK2.out.2.trans hk3 (fun _ h => h.elim)⟩; have ad := bad_dn HK3.out.1 fr hb'; clear hk3 kn)
    | (go_at_call 11; refine ad.mono ?_; rintro e w4 ⟨rfl, hw4⟩; obtain rfl := hw4.symm; clear ad))
  by_cases h1 : fr < 0
  · go_wp2
    go_ret
    exact ⟨rfl, HK3.out.2.below0⟩
  · have h2 : 1099511627776 ≤ fr := by omega
    go_wp2
    go_ret
    refine ⟨?_, HK3.out.2.below0⟩
    first
      | rfl
      | (simp [h1, h2])

set_option maxHeartbeats 16000000 in
theorem orule_in {F : Nat → Prop} {a : Option Addr} {c : Nat} {xs : List Srv} (u : Nat) (tk : Int) (w : World) (hg : Gl w) (h : Sv w F a xs.length c xs) (ht : timF xs xs.length = none) (hk : ¬ 400 < tk) (hk6 : I6 tk) (hu : u < 1099511627776) :
    Calls Tryz.prog 6 #[.slice a xs.length c, .int .i64 u, .int .i64 tk] w fun e w' => e = .returned (.bool true) ∧ Below w.heap.size w w' := by
  have HV : Hid (Vd xs) := vd_of ht
  have hn := HV.out.num
  have hcap := h.cap
  have hmax := h.max
  unfold I6 at hk6
  have a1 := able_yes w hg h ht
  have HKN : Hid (∀ W, Kept No w W → Calls Tryz.prog 10 #[] W fun e w' => e = .returned (.bool true) ∧ Kept No W w') := fun W hk => known_any W (hg.kept hk)
  have HS : Hid (Sv w F a xs.length c xs) := h
  have q2 : ∀ (w : World) (d : Nat), (binOp .eql 24 (.pointer (some ⟨d, 0, none⟩)) (.pointer none)).run Tryz.prog w = .ok (.bool false) w := fun w d => by rfl
  clear h hg ht
  generalize hyp xs = H at *
  go_enter Tryz.func6, Tryz.ntmps6
  go_upto_region 8 with (first
    | (go_at_call 9; refine a1.mono ?_; rintro e w2 ⟨d, rfl, hd2, hk2⟩; have HK2 : Hid (Dm w2 d w.heap.size w2.heap.size xs 0 ∧ Kept No w w2) := ⟨hd2, hk2⟩; have kn := HKN.out w2 HK2.out.2; clear hd2 hk2 a1)
    | (go_at_call 10; refine kn.mono ?_; rintro e w3 ⟨rfl, hk3⟩; have HK3 : Hid (Dn w3 d (fun k => w.heap.size ≤ k) xs 0 ∧ Kept No w w3) := ⟨(HK2.out.1.dn.keep hk3).mono (fun k hk => hk.1), HK2.out.2.trans hk3 (fun _ h => h.elim)⟩; have ad := good_dn HV.out HK3.out.1 u (by omega) hu; clear hk3 kn)
    | (go_at_call 11; refine ad.mono ?_; rintro e w4 ⟨rfl, hd4, hk4⟩; have HK4 : Hid (Dn w4 d (fun k => w.heap.size ≤ k ∧ k < w4.heap.size) xs u ∧ Kept No w w4) := ⟨hd4.cut.mono (fun k hk => ⟨by have := HK3.out.2.size; rcases hk.1 with h | h; exact h; omega, hk.2⟩), HK3.out.2.trans hk4 (fun k hk => .inr hk)⟩; clear hd4 hk4 ad))
  have r1 := rests_dn HV.out HK4.out.1
  go_upto_region 9 with (go_at_call 14; refine r1.mono ?_; rintro e w5 ⟨g0, c0, rfl, hg0, hc0, hc0', ct0, hk5⟩; have HO : Hid (Orl w w5 d xs u (.slice (some ⟨g0, 0, none⟩) xs.length c0) (fun i => (Rule.rest (sys xs) u i : Int))) := ⟨HK4.out.2.trans hk5 (fun _ h => h.elim), _, HK4.out.1.keep hk5, fun k hk => hk.1, .inr ⟨g0, c0, rfl, hc0, hc0', ct0, fun hk => by have := hk.2; omega, by have := HK4.out.2.size; omega⟩⟩; clear hg0 ct0 hk5 r1)
  go_wp2
  clear hc0 hc0'
  go_loopw [10, 11, 12, 13] (fun v un la x wr => ∃ (t : Nat) (ui li : Int) (tn : Nat) (f : Nat → Int), u ≤ t ∧ t ≤ 1099511627776 ∧ x = .int .i64 t ∧ un = .int .i64 ui ∧ la = .int .i64 li ∧ ((t : Int) < ui → li = (Rule.occ (sys xs) t : Int) - 1) ∧ tn ≤ t ∧ Orl w wr d xs tn v f ∧ (t = u → ∀ i, i < xs.length → f i = (Rule.rest (sys xs) u i : Int)) ∧ (u < t → ∀ i, i < xs.length → f i = (Rule.rest (sys xs) (t - 1) i : Int) - (if Rule.occ (sys xs) (t - 1) = i + 1 then 1 else 0))) (fun _ _ _ x _ => ((u : Int) + tk - intOf x).toNat)
  case atStart => exact ⟨u, 0, -2, u, _, Nat.le_refl _, by omega, rfl, rfl, rfl, fun h => by omega, Nat.le_refl _, HO.out, fun _ i hi => rfl, fun h => by omega⟩
  case round =>
    clear HO
    obtain ⟨t, ui, li, tn, f, hut, htM, rfl, rfl, rfl, hui, htn, hor, hf1, hf2⟩ := hrel
    have HU : Hid ((t : Int) < ui → li = (Rule.occ (sys xs) t : Int) - 1) := hui
    have HOR : Hid (Orl w wr d xs tn u10 f ∧ (t = u → ∀ i, i < xs.length → f i = (Rule.rest (sys xs) u i : Int)) ∧ (u < t → ∀ i, i < xs.length → f i = (Rule.rest (sys xs) (t - 1) i : Int) - (if Rule.occ (sys xs) (t - 1) = i + 1 then 1 else 0))) := ⟨hor, hf1, hf2⟩
    obtain ⟨va, vc, hvv⟩ := hor.sl
    subst hvv
    clear hor hf1 hf2 hui
    by_cases hgo : (t : Int) < (u : Int) + tk ∧ t < 1099511627776
    · obtain ⟨hg1, hg2⟩ := hgo
      have hg2' : (t : Int) < 1099511627776 := by omega
      have ad := HOR.out.1.adv HV.out t htn hg2
      have HRL : Hid (∀ i, i < xs.length → rlF (sys xs) t f i = (Rule.rest (sys xs) t i : Int)) := fun i hi => by
        unfold rlF
        by_cases e : t = u
        · have := HOR.out.2.1 e i hi
          rw [this, ← e]
          by_cases hr : Rule.rel (sys xs) i t
          · rw [if_pos hr, Rule.rest_rel hr]
          · rw [if_neg hr]
        · have := HOR.out.2.2 (by omega) i hi
          have e2 := Rule.rest_next HV.out.bd.ok (s := sys xs) (i := i) hi (t - 1)
          rw [show t - 1 + 1 = t by omega] at e2
          rw [e2, this]
      go_upto_region 18 with (first
        | (go_at_call 11; refine ad.mono ?_; rintro e w6 ⟨rfl, ho6⟩; have HO6 : Hid (Orl w w6 d xs t (.slice va xs.length vc) f) := ho6; have nw : Calls Tryz.prog 12 #[.pointer (some ⟨d, 0, none⟩)] w6 (fun e w' => e = .returned (.int .i64 t) ∧ Kept No w6 w') := (by obtain ⟨R, q1, _⟩ := ho6.ex; exact now_dn q1); clear ho6 ad)
        | (go_at_call 12; refine nw.mono ?_; rintro e w7 ⟨rfl, hk7⟩; have HO7 : Hid (Orl w w7 d xs t (.slice va xs.length vc) f) := HO6.out.keep hk7; clear hk7 nw))
      have rl := released_any HV.out w7 (HS.out.keep HO7.out.kp) HO7.out.rd t hg2
      by_cases htu : t = u
      · have htu' : ¬ (u : Int) < (t : Int) := by omega
        have HTU : Hid (t = u) := htu
        clear htu
        go_upto_region 22 with (first
          | (go_at_call 18; refine rl.mono ?_; rintro e w8 ⟨v8, rfl, hri, hk8⟩; obtain ⟨a8, c8, hv8⟩ : ∃ a c, v8 = .slice a xs.length c := (by rcases hri.ct with ⟨q1, q2⟩ | ⟨g, c, q1, _⟩; exact ⟨none, 0, by rw [q1, q2]⟩; exact ⟨_, _, q1⟩); subst hv8; have HO8a : Hid (Orl w w8 d xs t (.slice va xs.length vc) (fun i => (Rule.rest (sys xs) t i : Int))) := (HO7.out.keep hk8).like (fun i hi => by have e := HTU.out; have := HOR.out.2.1 e i hi; rw [this, e]); have hrd8 : Rd0 w8 (.slice a8 xs.length c8) xs.length (fun i => (Rule.rest (sys xs) t i : Int)) := (by rcases hri.ct with q1 | ⟨g, c, q1, _, q3, q4, q5⟩; exact .inl q1; exact .inr ⟨g, c, q1, q3, q4, q5.like HRL.out⟩); have sm0 := sameInts_rd w8 hrd8 HO8a.out.rd hn; clear hri hk8 hrd8 rl)
          | (go_at_call 13; refine sm0.mono ?_; rintro e w8b ⟨rfl, hk8b⟩; have HO8 : Hid (Orl w w8b d xs t (.slice va xs.length vc) (fun i => (Rule.rest (sys xs) t i : Int))) := HO8a.out.keep hk8b; clear hk8b sm0))
        have fi := firstR_any (r := Rule.rest (sys xs) t) w8b (HS.out.keep HO8.out.kp) hn HO8.out.rd (fun i hi => by have := Rule.rest_le (sys xs) t i; have := HV.out.bd.bud i hi; omega)
        have hfe : ((Rule.pick (sys xs) (Rule.rest (sys xs) t) xs.length : Int) - 1) = (Rule.occ (sys xs) t : Int) - 1 := rfl
        rw [hfe] at fi
        clear hfe
        obtain ⟨A, hA⟩ : ∃ A, (Rule.occ (sys xs) t : Int) - 1 = A := ⟨_, rfl⟩
        rw [hA] at fi
        have HA : Hid ((Rule.occ (sys xs) t : Int) - 1 = A) := hA
        clear hA
        have hocl : Rule.occ (sys xs) t ≤ xs.length := Rule.occ_le (sys xs) t
        have HCU : Hid (∀ W, Orl w W d xs t (.slice va xs.length vc) (fun i => (Rule.rest (sys xs) t i : Int)) → Calls Tryz.prog 16 #[.pointer (some ⟨d, 0, none⟩)] W fun e w' => e = .returned (.int .i64 (Rule.until' (sys xs) t)) ∧ Kept No W w') := fun W ho => by
          obtain ⟨R, q1, _⟩ := ho.ex
          exact until_dn HV.out q1 hg2
        have HCO : Hid (∀ W, Orl w W d xs t (.slice va xs.length vc) (fun i => (Rule.rest (sys xs) t i : Int)) → Calls Tryz.prog 15 #[.pointer (some ⟨d, 0, none⟩)] W fun e w' => e = .returned (.int .i64 (Rule.occ (sys xs) t)) ∧ Kept No W w') := fun W ho => by
          obtain ⟨R, q1, _⟩ := ho.ex
          exact occ_dn HV.out q1
        have HCR : Hid (∀ W, Orl w W d xs t (.slice va xs.length vc) (fun i => (Rule.rest (sys xs) t i : Int)) → Calls Tryz.prog 14 #[.pointer (some ⟨d, 0, none⟩)] W fun e w' => ∃ v, e = .returned v ∧ (∃ a c, v = .slice a xs.length c) ∧ Rd0 w' v xs.length (fun i => (Rule.rest (sys xs) t i : Int)) ∧ Kept No W w') := fun W ho => by
          obtain ⟨R, q1, _⟩ := ho.ex
          exact (rests_dn HV.out q1).mono (by rintro e w' ⟨g, c, rfl, _, z1, z2, z3, z4⟩; exact ⟨_, rfl, ⟨_, _, rfl⟩, .inr ⟨g, c, rfl, z1, z2, z3⟩, z4⟩)
        have hun1 := Rule.until_gt HV.out.bd.ok (s := sys xs) (t := t) hg2
        have hun2 := Rule.until_le (sys xs) t
        have HNU : Hid (((t + 1 : Nat) : Int) < (Rule.until' (sys xs) t : Int) → (Rule.occ (sys xs) t : Int) - 1 = (Rule.occ (sys xs) (t + 1) : Int) - 1) := fun hlt => by
          obtain ⟨y1, y2, _⟩ := Rule.until_rel HV.out.bd.ok (s := sys xs) (t := t) (m := 2) (by omega)
          have := (Rule.stretch HV.out.bd.ok y1 y2 1 (by omega)).1
          rw [this]
        go_upto_region 23 with (go_at_call 19; refine fi.mono ?_; rintro e w9 ⟨rfl, hk9⟩; have HO9 : Hid (Orl w w9 d xs t (.slice va xs.length vc) (fun i => (Rule.rest (sys xs) t i : Int))) := HO8.out.keep hk9; clear hk9 fi)
        have rr := HCR.out w9 HO9.out
        have HLS : Hid ((t : Int) < ui → li = (Rule.occ (sys xs) t : Int) - 1) := HU.out
        generalize hoc : Rule.occ (sys xs) t = oc at *
        generalize Rule.until' (sys xs) t = un at *
        have HOC : Hid (Rule.occ (sys xs) t = oc) := hoc
        clear hoc
        have eO : A + 1 = (oc : Int) := by have := HA.out; omega
        have hA0 : -1 ≤ A ∧ A ≤ 32 := by have := HA.out; omega
        have hd1 : decide ((un : Int) ≤ (t : Int)) = false := decide_eq_false (by omega)
        have hd2 : decide (un ≤ t) = false := decide_eq_false (by omega)
        have hd3 : decide ((1099511627776 : Int) < (un : Int)) = false := decide_eq_false (by omega)
        have hle1 : ¬ (un : Int) ≤ (t : Int) := by omega
        have hle2 : ¬ (1099511627776 : Int) < (un : Int) := by omega
        by_cases hq : (t : Int) < ui
        · have hli : A = li := by rw [← HA.out]; exact (HLS.out hq).symm
          subst hli
          go_upto_region 25 with (first
            | (go_at_call 14; refine rr.mono ?_; rintro e w10 ⟨v10, rfl, ⟨a10, c10, hv10⟩, hrd10, hk10⟩; subst hv10; have HO10 : Hid (Orl w w10 d xs t (.slice va xs.length vc) (fun i => (Rule.rest (sys xs) t i : Int))) := HO9.out.keep hk10; have sm := sameInts_rd w10 hrd10 HO10.out.rd hn; clear hrd10 hk10 rr)
            | (go_at_call 13; refine sm.mono ?_; rintro e w11 ⟨rfl, hk11⟩; have HO11 : Hid (Orl w w11 d xs t (.slice va xs.length vc) (fun i => (Rule.rest (sys xs) t i : Int))) := HO10.out.keep hk11; have oo := HCO.out w11 HO11.out; clear hk11 sm)
            | (go_at_call 15; refine oo.mono ?_; rintro e w12 ⟨rfl, hk12⟩; have HO12 : Hid (Orl w w12 d xs t (.slice va xs.length vc) (fun i => (Rule.rest (sys xs) t i : Int))) := HO11.out.keep hk12; have u1 := HCU.out w12 HO12.out; clear hk12 oo)
            | (go_at_call 16; refine u1.mono ?_; rintro e w13 ⟨rfl, hk13⟩; have HO13 : Hid (Orl w w13 d xs t (.slice va xs.length vc) (fun i => (Rule.rest (sys xs) t i : Int))) := HO12.out.keep hk13; have u2 := HCU.out w13 HO13.out; clear hk13 u1)
            | (go_at_call 16; refine u2.mono ?_; rintro e w14 ⟨rfl, hk14⟩; have HO14 : Hid (Orl w w14 d xs t (.slice va xs.length vc) (fun i => (Rule.rest (sys xs) t i : Int))) := HO13.out.keep hk14; have u3 := HCU.out w14 HO14.out; clear hk14 u2))
          go_upto_region 26 with (go_at_call 16; refine u3.mono ?_; rintro e w15 ⟨rfl, hk15⟩; have HO15 : Hid (Orl w w15 d xs t (.slice va xs.length vc) (fun i => (Rule.rest (sys xs) t i : Int))) := HO14.out.keep hk15; clear hk15 u3)
          clear HCU HCO HCR
          by_cases hoz : oc = 0
          · have HOZ : Hid (oc = 0) := hoz
            have hat : decide ((0 : Int) ≤ A) = false := decide_eq_false (by have := HA.out; omega)
            have hat2 : ¬ (0 : Int) ≤ A := by have := HA.out; omega
            clear hoz
            go_wp2
            go_roundw
            case rel => exact ⟨t + 1, un, A, t, _, by omega, by omega, by go_num, rfl, rfl, (fun hlt => by rw [← HA.out]; exact HNU.out hlt), by omega, HO15.out, fun e => by omega, fun _ i hi => by rw [Nat.add_sub_cancel, HOC.out, if_neg (by have := HOZ.out; omega)]; omega⟩
            case measure => simp [intOf]; omega
          · obtain ⟨jj, hjj⟩ : ∃ jj, oc = jj + 1 := ⟨oc - 1, by omega⟩
            have hjn : jj < xs.length := by omega
            have hat0 : A = (jj : Int) := by have := HA.out; omega
            obtain ⟨g, hgE⟩ : ∃ g, va = some ⟨g, 0, none⟩ := by
              obtain ⟨R, _, _, ⟨h1, h0⟩ | ⟨g, c, h1, _⟩⟩ := HO15.out.ex
              · omega
              · injection h1 with h1 _ _; exact ⟨g, h1⟩
            subst hgE
            have hrow : Ct w15 g xs.length (fun i => (Rule.rest (sys xs) t i : Int)) := by
              obtain ⟨R, _, _, ⟨h1, h0⟩ | ⟨g', c, h1, _, _, h2, _⟩⟩ := HO15.out.ex
              · omega
              · injection h1 with h1 _ _; injection h1 with h1; injection h1 with h1 _ _; subst h1; exact h2
            have x1 := hrow.at' jj hjn
            have x2 := hrow.fz jj
            have hrl : Rule.rest (sys xs) t jj ≤ 1048576 := by have := Rule.rest_le (sys xs) t jj; have := HV.out.bd.bud jj hjn; omega
            have HNX : Hid (Orl w (w15.setCell ⟨g, jj, none⟩ (.int .i64 ((Rule.rest (sys xs) t jj : Int) - 1))) d xs t (.slice (some ⟨g, 0, none⟩) xs.length vc) (fun i => if i = jj then (Rule.rest (sys xs) t jj : Int) - 1 else (Rule.rest (sys xs) t i : Int))) := HO15.out.less jj _ (by omega)
            have HJJ : Hid (oc = jj + 1) := hjj
            obtain ⟨RJ, hRJ⟩ : ∃ RJ, Rule.rest (sys xs) t jj = RJ := ⟨_, rfl⟩
            have HRJ : Hid (Rule.rest (sys xs) t jj = RJ) := hRJ
            rw [hRJ] at x1 hrl HNX
            clear hrow hjj hRJ hoz
            subst hat0
            have hat1 : (0 : Int) ≤ (jj : Int) := by omega
            go_wp2
            go_roundw
            case rel =>
              refine ⟨t + 1, un, _, t, _, by omega, by omega, by go_num, rfl, rfl, ?_, by omega, HNX.out, fun e => by omega, fun _ i hi => ?_⟩
              · intro hlt
                have := HNU.out hlt
                omega
              · rw [Nat.add_sub_cancel, HOC.out]
                by_cases e : i = jj
                · subst e; rw [if_pos rfl, if_pos HJJ.out, HRJ.out]
                · rw [if_neg e, if_neg (by have := HJJ.out; omega)]; omega
            case measure => simp [intOf]; omega
        · have hq' : decide ((t : Int) < ui) = false := decide_eq_false hq
          go_upto_region 25 with (first
            | (go_at_call 14; refine rr.mono ?_; rintro e w10 ⟨v10, rfl, ⟨a10, c10, hv10⟩, hrd10, hk10⟩; subst hv10; have HO10 : Hid (Orl w w10 d xs t (.slice va xs.length vc) (fun i => (Rule.rest (sys xs) t i : Int))) := HO9.out.keep hk10; have sm := sameInts_rd w10 hrd10 HO10.out.rd hn; clear hrd10 hk10 rr)
            | (go_at_call 13; refine sm.mono ?_; rintro e w11 ⟨rfl, hk11⟩; have HO11 : Hid (Orl w w11 d xs t (.slice va xs.length vc) (fun i => (Rule.rest (sys xs) t i : Int))) := HO10.out.keep hk11; have oo := HCO.out w11 HO11.out; clear hk11 sm)
            | (go_at_call 15; refine oo.mono ?_; rintro e w12 ⟨rfl, hk12⟩; have HO12 : Hid (Orl w w12 d xs t (.slice va xs.length vc) (fun i => (Rule.rest (sys xs) t i : Int))) := HO11.out.keep hk12; have u1 := HCU.out w12 HO12.out; clear hk12 oo)
            | (go_at_call 16; refine u1.mono ?_; rintro e w13 ⟨rfl, hk13⟩; have HO13 : Hid (Orl w w13 d xs t (.slice va xs.length vc) (fun i => (Rule.rest (sys xs) t i : Int))) := HO12.out.keep hk13; have u2 := HCU.out w13 HO13.out; clear hk13 u1)
            | (go_at_call 16; refine u2.mono ?_; rintro e w14 ⟨rfl, hk14⟩; have HO14 : Hid (Orl w w14 d xs t (.slice va xs.length vc) (fun i => (Rule.rest (sys xs) t i : Int))) := HO13.out.keep hk14; have u3 := HCU.out w14 HO14.out; clear hk14 u2))
          go_upto_region 26 with (go_at_call 16; refine u3.mono ?_; rintro e w15 ⟨rfl, hk15⟩; have HO15 : Hid (Orl w w15 d xs t (.slice va xs.length vc) (fun i => (Rule.rest (sys xs) t i : Int))) := HO14.out.keep hk15; clear hk15 u3)
          clear HCU HCO HCR
          by_cases hoz : oc = 0
          · have HOZ : Hid (oc = 0) := hoz
            have hat : decide ((0 : Int) ≤ A) = false := decide_eq_false (by have := HA.out; omega)
            have hat2 : ¬ (0 : Int) ≤ A := by have := HA.out; omega
            clear hoz
            go_wp2
            go_roundw
            case rel => exact ⟨t + 1, un, A, t, _, by omega, by omega, by go_num, rfl, rfl, (fun hlt => by rw [← HA.out]; exact HNU.out hlt), by omega, HO15.out, fun e => by omega, fun _ i hi => by rw [Nat.add_sub_cancel, HOC.out, if_neg (by have := HOZ.out; omega)]; omega⟩
            case measure => simp [intOf]; omega
          · obtain ⟨jj, hjj⟩ : ∃ jj, oc = jj + 1 := ⟨oc - 1, by omega⟩
            have hjn : jj < xs.length := by omega
            have hat0 : A = (jj : Int) := by have := HA.out; omega
            obtain ⟨g, hgE⟩ : ∃ g, va = some ⟨g, 0, none⟩ := by
              obtain ⟨R, _, _, ⟨h1, h0⟩ | ⟨g, c, h1, _⟩⟩ := HO15.out.ex
              · omega
              · injection h1 with h1 _ _; exact ⟨g, h1⟩
            subst hgE
            have hrow : Ct w15 g xs.length (fun i => (Rule.rest (sys xs) t i : Int)) := by
              obtain ⟨R, _, _, ⟨h1, h0⟩ | ⟨g', c, h1, _, _, h2, _⟩⟩ := HO15.out.ex
              · omega
              · injection h1 with h1 _ _; injection h1 with h1; injection h1 with h1 _ _; subst h1; exact h2
            have x1 := hrow.at' jj hjn
            have x2 := hrow.fz jj
            have hrl : Rule.rest (sys xs) t jj ≤ 1048576 := by have := Rule.rest_le (sys xs) t jj; have := HV.out.bd.bud jj hjn; omega
            have HNX : Hid (Orl w (w15.setCell ⟨g, jj, none⟩ (.int .i64 ((Rule.rest (sys xs) t jj : Int) - 1))) d xs t (.slice (some ⟨g, 0, none⟩) xs.length vc) (fun i => if i = jj then (Rule.rest (sys xs) t jj : Int) - 1 else (Rule.rest (sys xs) t i : Int))) := HO15.out.less jj _ (by omega)
            have HJJ : Hid (oc = jj + 1) := hjj
            obtain ⟨RJ, hRJ⟩ : ∃ RJ, Rule.rest (sys xs) t jj = RJ := ⟨_, rfl⟩
            have HRJ : Hid (Rule.rest (sys xs) t jj = RJ) := hRJ
            rw [hRJ] at x1 hrl HNX
            clear hrow hjj hRJ hoz
            subst hat0
            have hat1 : (0 : Int) ≤ (jj : Int) := by omega
            go_wp2
            go_roundw
            case rel =>
              refine ⟨t + 1, un, _, t, _, by omega, by omega, by go_num, rfl, rfl, ?_, by omega, HNX.out, fun e => by omega, fun _ i hi => ?_⟩
              · intro hlt
                have := HNU.out hlt
                omega
              · rw [Nat.add_sub_cancel, HOC.out]
                by_cases e : i = jj
                · subst e; rw [if_pos rfl, if_pos HJJ.out, HRJ.out]
                · rw [if_neg e, if_neg (by have := HJJ.out; omega)]; omega
            case measure => simp [intOf]; omega
      · have htu' : (u : Int) < (t : Int) := by omega
        have HTU : Hid (¬ t = u) := htu
        clear htu
        go_upto_region 22 with (go_at_call 18; refine rl.mono ?_; rintro e w8 ⟨v8, rfl, hri, hk8⟩; have HO8 : Hid (Orl w w8 d xs t v8 (fun i => (Rule.rest (sys xs) t i : Int))) := (HO7.out.row hk8 hri).like HRL.out; obtain ⟨a8, c8, hv8⟩ := HO8.out.sl; subst hv8; clear hri hk8 rl)
        have fi := firstR_any (r := Rule.rest (sys xs) t) w8 (HS.out.keep HO8.out.kp) hn HO8.out.rd (fun i hi => by have := Rule.rest_le (sys xs) t i; have := HV.out.bd.bud i hi; omega)
        have hfe : ((Rule.pick (sys xs) (Rule.rest (sys xs) t) xs.length : Int) - 1) = (Rule.occ (sys xs) t : Int) - 1 := rfl
        rw [hfe] at fi
        clear hfe
        obtain ⟨A, hA⟩ : ∃ A, (Rule.occ (sys xs) t : Int) - 1 = A := ⟨_, rfl⟩
        rw [hA] at fi
        have HA : Hid ((Rule.occ (sys xs) t : Int) - 1 = A) := hA
        clear hA
        have hocl : Rule.occ (sys xs) t ≤ xs.length := Rule.occ_le (sys xs) t
        have HCU : Hid (∀ W, Orl w W d xs t (.slice a8 xs.length c8) (fun i => (Rule.rest (sys xs) t i : Int)) → Calls Tryz.prog 16 #[.pointer (some ⟨d, 0, none⟩)] W fun e w' => e = .returned (.int .i64 (Rule.until' (sys xs) t)) ∧ Kept No W w') := fun W ho => by
          obtain ⟨R, q1, _⟩ := ho.ex
          exact until_dn HV.out q1 hg2
        have HCO : Hid (∀ W, Orl w W d xs t (.slice a8 xs.length c8) (fun i => (Rule.rest (sys xs) t i : Int)) → Calls Tryz.prog 15 #[.pointer (some ⟨d, 0, none⟩)] W fun e w' => e = .returned (.int .i64 (Rule.occ (sys xs) t)) ∧ Kept No W w') := fun W ho => by
          obtain ⟨R, q1, _⟩ := ho.ex
          exact occ_dn HV.out q1
        have HCR : Hid (∀ W, Orl w W d xs t (.slice a8 xs.length c8) (fun i => (Rule.rest (sys xs) t i : Int)) → Calls Tryz.prog 14 #[.pointer (some ⟨d, 0, none⟩)] W fun e w' => ∃ v, e = .returned v ∧ (∃ a c, v = .slice a xs.length c) ∧ Rd0 w' v xs.length (fun i => (Rule.rest (sys xs) t i : Int)) ∧ Kept No W w') := fun W ho => by
          obtain ⟨R, q1, _⟩ := ho.ex
          exact (rests_dn HV.out q1).mono (by rintro e w' ⟨g, c, rfl, _, z1, z2, z3, z4⟩; exact ⟨_, rfl, ⟨_, _, rfl⟩, .inr ⟨g, c, rfl, z1, z2, z3⟩, z4⟩)
        have hun1 := Rule.until_gt HV.out.bd.ok (s := sys xs) (t := t) hg2
        have hun2 := Rule.until_le (sys xs) t
        have HNU : Hid (((t + 1 : Nat) : Int) < (Rule.until' (sys xs) t : Int) → (Rule.occ (sys xs) t : Int) - 1 = (Rule.occ (sys xs) (t + 1) : Int) - 1) := fun hlt => by
          obtain ⟨y1, y2, _⟩ := Rule.until_rel HV.out.bd.ok (s := sys xs) (t := t) (m := 2) (by omega)
          have := (Rule.stretch HV.out.bd.ok y1 y2 1 (by omega)).1
          rw [this]
        go_upto_region 23 with (go_at_call 19; refine fi.mono ?_; rintro e w9 ⟨rfl, hk9⟩; have HO9 : Hid (Orl w w9 d xs t (.slice a8 xs.length c8) (fun i => (Rule.rest (sys xs) t i : Int))) := HO8.out.keep hk9; clear hk9 fi)
        have rr := HCR.out w9 HO9.out
        have HLS : Hid ((t : Int) < ui → li = (Rule.occ (sys xs) t : Int) - 1) := HU.out
        generalize hoc : Rule.occ (sys xs) t = oc at *
        generalize Rule.until' (sys xs) t = un at *
        have HOC : Hid (Rule.occ (sys xs) t = oc) := hoc
        clear hoc
        have eO : A + 1 = (oc : Int) := by have := HA.out; omega
        have hA0 : -1 ≤ A ∧ A ≤ 32 := by have := HA.out; omega
        have hd1 : decide ((un : Int) ≤ (t : Int)) = false := decide_eq_false (by omega)
        have hd2 : decide (un ≤ t) = false := decide_eq_false (by omega)
        have hd3 : decide ((1099511627776 : Int) < (un : Int)) = false := decide_eq_false (by omega)
        have hle1 : ¬ (un : Int) ≤ (t : Int) := by omega
        have hle2 : ¬ (1099511627776 : Int) < (un : Int) := by omega
        by_cases hq : (t : Int) < ui
        · have hli : A = li := by rw [← HA.out]; exact (HLS.out hq).symm
          subst hli
          go_upto_region 25 with (first
            | (go_at_call 14; refine rr.mono ?_; rintro e w10 ⟨v10, rfl, ⟨a10, c10, hv10⟩, hrd10, hk10⟩; subst hv10; have HO10 : Hid (Orl w w10 d xs t (.slice a8 xs.length c8) (fun i => (Rule.rest (sys xs) t i : Int))) := HO9.out.keep hk10; have sm := sameInts_rd w10 hrd10 HO10.out.rd hn; clear hrd10 hk10 rr)
            | (go_at_call 13; refine sm.mono ?_; rintro e w11 ⟨rfl, hk11⟩; have HO11 : Hid (Orl w w11 d xs t (.slice a8 xs.length c8) (fun i => (Rule.rest (sys xs) t i : Int))) := HO10.out.keep hk11; have oo := HCO.out w11 HO11.out; clear hk11 sm)
            | (go_at_call 15; refine oo.mono ?_; rintro e w12 ⟨rfl, hk12⟩; have HO12 : Hid (Orl w w12 d xs t (.slice a8 xs.length c8) (fun i => (Rule.rest (sys xs) t i : Int))) := HO11.out.keep hk12; have u1 := HCU.out w12 HO12.out; clear hk12 oo)
            | (go_at_call 16; refine u1.mono ?_; rintro e w13 ⟨rfl, hk13⟩; have HO13 : Hid (Orl w w13 d xs t (.slice a8 xs.length c8) (fun i => (Rule.rest (sys xs) t i : Int))) := HO12.out.keep hk13; have u2 := HCU.out w13 HO13.out; clear hk13 u1)
            | (go_at_call 16; refine u2.mono ?_; rintro e w14 ⟨rfl, hk14⟩; have HO14 : Hid (Orl w w14 d xs t (.slice a8 xs.length c8) (fun i => (Rule.rest (sys xs) t i : Int))) := HO13.out.keep hk14; have u3 := HCU.out w14 HO14.out; clear hk14 u2))
          go_upto_region 26 with (go_at_call 16; refine u3.mono ?_; rintro e w15 ⟨rfl, hk15⟩; have HO15 : Hid (Orl w w15 d xs t (.slice a8 xs.length c8) (fun i => (Rule.rest (sys xs) t i : Int))) := HO14.out.keep hk15; clear hk15 u3)
          clear HCU HCO HCR
          by_cases hoz : oc = 0
          · have HOZ : Hid (oc = 0) := hoz
            have hat : decide ((0 : Int) ≤ A) = false := decide_eq_false (by have := HA.out; omega)
            have hat2 : ¬ (0 : Int) ≤ A := by have := HA.out; omega
            clear hoz
            go_wp2
            go_roundw
            case rel => exact ⟨t + 1, un, A, t, _, by omega, by omega, by go_num, rfl, rfl, (fun hlt => by rw [← HA.out]; exact HNU.out hlt), by omega, HO15.out, fun e => by omega, fun _ i hi => by rw [Nat.add_sub_cancel, HOC.out, if_neg (by have := HOZ.out; omega)]; omega⟩
            case measure => simp [intOf]; omega
          · obtain ⟨jj, hjj⟩ : ∃ jj, oc = jj + 1 := ⟨oc - 1, by omega⟩
            have hjn : jj < xs.length := by omega
            have hat0 : A = (jj : Int) := by have := HA.out; omega
            obtain ⟨g, hgE⟩ : ∃ g, a8 = some ⟨g, 0, none⟩ := by
              obtain ⟨R, _, _, ⟨h1, h0⟩ | ⟨g, c, h1, _⟩⟩ := HO15.out.ex
              · omega
              · injection h1 with h1 _ _; exact ⟨g, h1⟩
            subst hgE
            have hrow : Ct w15 g xs.length (fun i => (Rule.rest (sys xs) t i : Int)) := by
              obtain ⟨R, _, _, ⟨h1, h0⟩ | ⟨g', c, h1, _, _, h2, _⟩⟩ := HO15.out.ex
              · omega
              · injection h1 with h1 _ _; injection h1 with h1; injection h1 with h1 _ _; subst h1; exact h2
            have x1 := hrow.at' jj hjn
            have x2 := hrow.fz jj
            have hrl : Rule.rest (sys xs) t jj ≤ 1048576 := by have := Rule.rest_le (sys xs) t jj; have := HV.out.bd.bud jj hjn; omega
            have HNX : Hid (Orl w (w15.setCell ⟨g, jj, none⟩ (.int .i64 ((Rule.rest (sys xs) t jj : Int) - 1))) d xs t (.slice (some ⟨g, 0, none⟩) xs.length c8) (fun i => if i = jj then (Rule.rest (sys xs) t jj : Int) - 1 else (Rule.rest (sys xs) t i : Int))) := HO15.out.less jj _ (by omega)
            have HJJ : Hid (oc = jj + 1) := hjj
            obtain ⟨RJ, hRJ⟩ : ∃ RJ, Rule.rest (sys xs) t jj = RJ := ⟨_, rfl⟩
            have HRJ : Hid (Rule.rest (sys xs) t jj = RJ) := hRJ
            rw [hRJ] at x1 hrl HNX
            clear hrow hjj hRJ hoz
            subst hat0
            have hat1 : (0 : Int) ≤ (jj : Int) := by omega
            go_wp2
            go_roundw
            case rel =>
              refine ⟨t + 1, un, _, t, _, by omega, by omega, by go_num, rfl, rfl, ?_, by omega, HNX.out, fun e => by omega, fun _ i hi => ?_⟩
              · intro hlt
                have := HNU.out hlt
                omega
              · rw [Nat.add_sub_cancel, HOC.out]
                by_cases e : i = jj
                · subst e; rw [if_pos rfl, if_pos HJJ.out, HRJ.out]
                · rw [if_neg e, if_neg (by have := HJJ.out; omega)]; omega
            case measure => simp [intOf]; omega
        · have hq' : decide ((t : Int) < ui) = false := decide_eq_false hq
          go_upto_region 25 with (first
            | (go_at_call 14; refine rr.mono ?_; rintro e w10 ⟨v10, rfl, ⟨a10, c10, hv10⟩, hrd10, hk10⟩; subst hv10; have HO10 : Hid (Orl w w10 d xs t (.slice a8 xs.length c8) (fun i => (Rule.rest (sys xs) t i : Int))) := HO9.out.keep hk10; have sm := sameInts_rd w10 hrd10 HO10.out.rd hn; clear hrd10 hk10 rr)
            | (go_at_call 13; refine sm.mono ?_; rintro e w11 ⟨rfl, hk11⟩; have HO11 : Hid (Orl w w11 d xs t (.slice a8 xs.length c8) (fun i => (Rule.rest (sys xs) t i : Int))) := HO10.out.keep hk11; have oo := HCO.out w11 HO11.out; clear hk11 sm)
            | (go_at_call 15; refine oo.mono ?_; rintro e w12 ⟨rfl, hk12⟩; have HO12 : Hid (Orl w w12 d xs t (.slice a8 xs.length c8) (fun i => (Rule.rest (sys xs) t i : Int))) := HO11.out.keep hk12; have u1 := HCU.out w12 HO12.out; clear hk12 oo)
            | (go_at_call 16; refine u1.mono ?_; rintro e w13 ⟨rfl, hk13⟩; have HO13 : Hid (Orl w w13 d xs t (.slice a8 xs.length c8) (fun i => (Rule.rest (sys xs) t i : Int))) := HO12.out.keep hk13; have u2 := HCU.out w13 HO13.out; clear hk13 u1)
            | (go_at_call 16; refine u2.mono ?_; rintro e w14 ⟨rfl, hk14⟩; have HO14 : Hid (Orl w w14 d xs t (.slice a8 xs.length c8) (fun i => (Rule.rest (sys xs) t i : Int))) := HO13.out.keep hk14; have u3 := HCU.out w14 HO14.out; clear hk14 u2))
          go_upto_region 26 with (go_at_call 16; refine u3.mono ?_; rintro e w15 ⟨rfl, hk15⟩; have HO15 : Hid (Orl w w15 d xs t (.slice a8 xs.length c8) (fun i => (Rule.rest (sys xs) t i : Int))) := HO14.out.keep hk15; clear hk15 u3)
          clear HCU HCO HCR
          by_cases hoz : oc = 0
          · have HOZ : Hid (oc = 0) := hoz
            have hat : decide ((0 : Int) ≤ A) = false := decide_eq_false (by have := HA.out; omega)
            have hat2 : ¬ (0 : Int) ≤ A := by have := HA.out; omega
            clear hoz
            go_wp2
            go_roundw
            case rel => exact ⟨t + 1, un, A, t, _, by omega, by omega, by go_num, rfl, rfl, (fun hlt => by rw [← HA.out]; exact HNU.out hlt), by omega, HO15.out, fun e => by omega, fun _ i hi => by rw [Nat.add_sub_cancel, HOC.out, if_neg (by have := HOZ.out; omega)]; omega⟩
            case measure => simp [intOf]; omega
          · obtain ⟨jj, hjj⟩ : ∃ jj, oc = jj + 1 := ⟨oc - 1, by omega⟩
            have hjn : jj < xs.length := by omega
            have hat0 : A = (jj : Int) := by have := HA.out; omega
            obtain ⟨g, hgE⟩ : ∃ g, a8 = some ⟨g, 0, none⟩ := by
              obtain ⟨R, _, _, ⟨h1, h0⟩ | ⟨g, c, h1, _⟩⟩ := HO15.out.ex
              · omega
              · injection h1 with h1 _ _; exact ⟨g, h1⟩
            subst hgE
            have hrow : Ct w15 g xs.length (fun i => (Rule.rest (sys xs) t i : Int)) := by
              obtain ⟨R, _, _, ⟨h1, h0⟩ | ⟨g', c, h1, _, _, h2, _⟩⟩ := HO15.out.ex
              · omega
              · injection h1 with h1 _ _; injection h1 with h1; injection h1 with h1 _ _; subst h1; exact h2
            have x1 := hrow.at' jj hjn
            have x2 := hrow.fz jj
            have hrl : Rule.rest (sys xs) t jj ≤ 1048576 := by have := Rule.rest_le (sys xs) t jj; have := HV.out.bd.bud jj hjn; omega
            have HNX : Hid (Orl w (w15.setCell ⟨g, jj, none⟩ (.int .i64 ((Rule.rest (sys xs) t jj : Int) - 1))) d xs t (.slice (some ⟨g, 0, none⟩) xs.length c8) (fun i => if i = jj then (Rule.rest (sys xs) t jj : Int) - 1 else (Rule.rest (sys xs) t i : Int))) := HO15.out.less jj _ (by omega)
            have HJJ : Hid (oc = jj + 1) := hjj
            obtain ⟨RJ, hRJ⟩ : ∃ RJ, Rule.rest (sys xs) t jj = RJ := ⟨_, rfl⟩
            have HRJ : Hid (Rule.rest (sys xs) t jj = RJ) := hRJ
            rw [hRJ] at x1 hrl HNX
            clear hrow hjj hRJ hoz
            subst hat0
            have hat1 : (0 : Int) ≤ (jj : Int) := by omega
            go_wp2
            go_roundw
            case rel =>
              refine ⟨t + 1, un, _, t, _, by omega, by omega, by go_num, rfl, rfl, ?_, by omega, HNX.out, fun e => by omega, fun _ i hi => ?_⟩
              · intro hlt
                have := HNU.out hlt
                omega
              · rw [Nat.add_sub_cancel, HOC.out]
                by_cases e : i = jj
                · subst e; rw [if_pos rfl, if_pos HJJ.out, HRJ.out]
                · rw [if_neg e, if_neg (by have := HJJ.out; omega)]; omega
            case measure => simp [intOf]; omega
    · have HE : Hid (Kept No w wr) := HOR.out.1.kp
      by_cases hg1 : (t : Int) < (u : Int) + tk
      · have hg2 : ¬ (t : Int) < 1099511627776 := fun h => hgo ⟨hg1, by omega⟩
        clear hgo
        go_wp2
        go_ret
        exact ⟨rfl, HE.out.below0⟩
      · clear hgo
        go_wp2
        go_ret
        exact ⟨rfl, HE.out.below0⟩
theorem orule_law {F : Nat → Prop} {a : Option Addr} {c : Nat} {xs : List Srv} (fr tk : Int) (w : World) (hg : Gl w) (h : Sv w F a xs.length c xs) (hk6 : I6 tk) :
    Calls Tryz.prog 6 #[.slice a xs.length c, .int .i64 fr, .int .i64 tk] w fun e w' => e = .returned (.bool true) ∧ Below w.heap.size w w' := by
  by_cases hk : 400 < tk
  · exact orule_many _ _ _ fr tk w hg hk
  · cases htm : timF xs xs.length with
    | some p => exact orule_none fr tk w hg h htm hk
    | none =>
      by_cases hb : fr < 0 ∨ 1099511627775 < fr
      · exact orule_bad fr tk w hg h htm hk hb
      · obtain ⟨u, rfl⟩ : ∃ u : Nat, fr = (u : Int) := ⟨fr.toNat, by omega⟩
        exact orule_in u tk w hg h htm hk hk6 (by omega)
end Go.Proofs.YtffgcijicmfmlaaGreatDoor

namespace Go.Proofs.YtffgcijicmfmlaaGreatDoor
open Go.RowKit Plain
set_option linter.unusedVariables false
set_option maxRecDepth 100000

structure Is (w : World) (F : Nat → Prop) (a : Option Addr) (n c : Nat) (ss : List Int) : Prop where
  len : ss.length = n
  cap : n ≤ c
  max : c ≤ 9223372036854775807
  i6 : ∀ x, x ∈ ss → I6 x
  at' : ∀ i x, ss[i]? = some x → ∃ g o, a = some ⟨g, o, none⟩ ∧ F g ∧ w.cell? ⟨g, o + i, none⟩ = some (.int .i64 x)

/-- Dtw dispatchers of one list, apart: the first at t, the second at 0. -/
def Dtw (W w : World) (d1 d2 : Nat) (xs : List Srv) (t : Nat) : Prop :=
  ∃ R1 R2 : Nat → Prop, Dn w d1 R1 xs t ∧ Dn w d2 R2 xs 0 ∧ (∀ k, R1 k → ¬ R2 k) ∧ (∀ k, R1 k → W.heap.size ≤ k) ∧ (∀ k, R2 k → W.heap.size ≤ k) ∧ (∀ k, R2 k → k < w.heap.size) ∧ Kept No W w
theorem Dtw.keep {W w w' : World} {d1 d2 : Nat} {xs : List Srv} {t : Nat} (h : Dtw W w d1 d2 xs t) (hk : Kept No w w') : Dtw W w' d1 d2 xs t := by
  obtain ⟨R1, R2, h1, h2, h3, h4, h5, h6, h7⟩ := h
  exact ⟨R1, R2, h1.keep hk, h2.keep hk, h3, h4, h5, fun k hk' => Nat.lt_of_lt_of_le (h6 k hk') hk.size, h7.trans hk (fun _ h => h.elim)⟩
theorem Dtw.k {W w : World} {d1 d2 : Nat} {xs : List Srv} {t : Nat} (h : Dtw W w d1 d2 xs t) : Kept No W w := by
  obtain ⟨R1, R2, h1, h2, h3, h4, h5, h6, h7⟩ := h
  exact h7
theorem Dtw.good {W w : World} {d1 d2 : Nat} {xs : List Srv} {t : Nat} (hv : Vd xs) (h : Dtw W w d1 d2 xs t) (x : Nat) (hx1 : t ≤ x) (hx2 : x < 1099511627776) :
    Calls Tryz.prog 11 #[.pointer (some ⟨d1, 0, none⟩), .int .i64 x] w fun e w' => e = .returned (.int .i64 0) ∧ Dtw W w' d1 d2 xs x := by
  obtain ⟨R1, R2, h1, h2, h3, h4, h5, h6, h7⟩ := h
  refine (good_dn hv h1 x hx1 hx2).mono ?_
  rintro e w' ⟨rfl, g1, g2⟩
  refine ⟨rfl, _, R2, g1, h2.kept g2 (fun k q1 q2 => h3 k q2 q1), ?_, ?_, h5, fun k hk => Nat.lt_of_lt_of_le (h6 k hk) g2.size, h7.trans g2 (fun k hk => .inr (h4 k hk))⟩
  · rintro k (hk | hk) h8
    · exact h3 k hk h8
    · have := h6 k h8; omega
  · rintro k (hk | hk)
    · exact h4 k hk
    · have := h7.size; omega
theorem Dtw.bad {W w : World} {d1 d2 : Nat} {xs : List Srv} {t : Nat} (h : Dtw W w d1 d2 xs t) (x : Int) (hx : x < t ∨ 1099511627775 < x) :
    Calls Tryz.prog 11 #[.pointer (some ⟨d1, 0, none⟩), .int .i64 x] w fun e w' => e = .returned (.int .i64 2) ∧ Dtw W w' d1 d2 xs t := by
  obtain ⟨R1, R2, h1, h2, h3, h4, h5, h6, h7⟩ := h
  refine (bad_dn h1 x hx).mono ?_
  rintro e w' ⟨rfl, rfl⟩
  exact ⟨rfl, R1, R2, h1, h2, h3, h4, h5, h6, h7⟩
theorem Dtw.now {W w : World} {d1 d2 : Nat} {xs : List Srv} {t : Nat} (h : Dtw W w d1 d2 xs t) :
    Calls Tryz.prog 12 #[.pointer (some ⟨d1, 0, none⟩)] w fun e w' => e = .returned (.int .i64 t) ∧ Dtw W w' d1 d2 xs t := by
  have h' := h
  obtain ⟨R1, R2, h1, h2, h3, h4, h5, h6, h7⟩ := h
  refine (now_dn h1).mono ?_
  rintro e w' ⟨rfl, g1⟩
  exact ⟨rfl, h'.keep g1⟩
/-- Dtw dispatchers of one list that stand at one tick. -/
def Tws (W w : World) (d1 d2 : Nat) (xs : List Srv) (t : Nat) : Prop :=
  ∃ R1 R2 : Nat → Prop, Dn w d1 R1 xs t ∧ Dn w d2 R2 xs t ∧ Kept No W w
theorem Dtw.last {W w : World} {d1 d2 : Nat} {xs : List Srv} {t : Nat} (hv : Vd xs) (h : Dtw W w d1 d2 xs t) (hx2 : t < 1099511627776) :
    Calls Tryz.prog 11 #[.pointer (some ⟨d2, 0, none⟩), .int .i64 t] w fun e w' => e = .returned (.int .i64 0) ∧ Tws W w' d1 d2 xs t := by
  obtain ⟨R1, R2, h1, h2, h3, h4, h5, h6, h7⟩ := h
  refine (good_dn hv h2 t (Nat.zero_le _) hx2).mono ?_
  rintro e w' ⟨rfl, g1, g2⟩
  exact ⟨rfl, R1, _, h1.kept g2 h3, g1, h7.trans g2 (fun k hk => .inr (h5 k hk))⟩
theorem Tws.keep {W w w' : World} {d1 d2 : Nat} {xs : List Srv} {t : Nat} (h : Tws W w d1 d2 xs t) (hk : Kept No w w') : Tws W w' d1 d2 xs t := by
  obtain ⟨R1, R2, h1, h2, h7⟩ := h
  exact ⟨R1, R2, h1.keep hk, h2.keep hk, h7.trans hk (fun _ h => h.elim)⟩
theorem Tws.a {W w : World} {d1 d2 : Nat} {xs : List Srv} {t : Nat} (h : Tws W w d1 d2 xs t) : ∃ R, Dn w d1 R xs t := by
  obtain ⟨R1, R2, h1, h2, h7⟩ := h
  exact ⟨_, h1⟩
theorem Tws.b {W w : World} {d1 d2 : Nat} {xs : List Srv} {t : Nat} (h : Tws W w d1 d2 xs t) : ∃ R, Dn w d2 R xs t := by
  obtain ⟨R1, R2, h1, h2, h7⟩ := h
  exact ⟨_, h2⟩
theorem Tws.k {W w : World} {d1 d2 : Nat} {xs : List Srv} {t : Nat} (h : Tws W w d1 d2 xs t) : Kept No W w := by
  obtain ⟨R1, R2, h1, h2, h7⟩ := h
  exact h7

set_option maxHeartbeats 4000000 in
theorem osteps_no {F : Nat → Prop} {a : Option Addr} {c : Nat} {xs : List Srv} {p : Int × Int} (ps : Option Addr) (sn sc : Nat) (w : World) (hg : Gl w) (h : Sv w F a xs.length c xs) (ht : timF xs xs.length = some p) :
    Calls Tryz.prog 3 #[.slice a xs.length c, .slice ps sn sc] w fun e w' => e = .returned (.bool true) ∧ Below w.heap.size w w' := by
  have HA : Hid (∀ W, Kept No w W → Calls Tryz.prog 9 #[.slice a xs.length c] W fun e w' => e = .returned (.tuple #[.pointer none, .int .i64 0, .bool true]) ∧ Kept No W w') := fun W hk => able_no W (hg.kept hk) (h.keep hk) ht
  have HKN : Hid (∀ W, Kept No w W → Calls Tryz.prog 10 #[] W fun e w' => e = .returned (.bool true) ∧ Kept No W w') := fun W hk => known_any W (hg.kept hk)
  have q2 : ∀ (w : World), (binOp .eql 24 (.pointer none) (.pointer none)).run Tryz.prog w = .ok (.bool true) w := fun w => by rfl
  clear h hg ht
  have a1 := HA.out w (Kept.refl No w)
  go_enter Tryz.func3, Tryz.ntmps3
  go_upto_region 2 with (go_at_call 9; refine a1.mono ?_; rintro e w1 ⟨rfl, hk1⟩; have HK1 : Hid (Kept No w w1) := hk1; clear hk1 a1)
  have a2 := HA.out w1 HK1.out
  go_wp2_with (first
    | (go_at_call 9; refine a2.mono ?_; rintro e w2 ⟨rfl, hk2⟩; have HK2 : Hid (Kept No w w2) := HK1.out.trans hk2 (fun _ h => h.elim); have kn := HKN.out w2 HK2.out; clear hk2 a2)
    | (go_at_call 10; refine kn.mono ?_; rintro e w3 ⟨rfl, hk3⟩; have HK3 : Hid (Kept No w w3) := HK2.out.trans hk3 (fun _ h => h.elim); clear hk3 kn))
  go_ret
  exact ⟨rfl, HK3.out.below0⟩

set_option maxHeartbeats 8000000 in
theorem osteps_yes {F G : Nat → Prop} {a : Option Addr} {c : Nat} {xs : List Srv} {ps : Option Addr} {sn sc : Nat} {ss : List Int} (w : World) (hg : Gl w) (h : Sv w F a xs.length c xs) (hi : Is w G ps sn sc ss) (ht : timF xs xs.length = none) :
    Calls Tryz.prog 3 #[.slice a xs.length c, .slice ps sn sc] w fun e w' => e = .returned (.bool true) ∧ Below w.heap.size w w' := by
  have HV : Hid (Vd xs) := vd_of ht
  have hn := HV.out.num
  have HI : Hid (Is w G ps sn sc ss) := hi
  have hscap := hi.cap
  have hsmax := hi.max
  have HA : Hid (∀ W, Kept No w W → Calls Tryz.prog 9 #[.slice a xs.length c] W fun e w' => ∃ d, e = .returned (.tuple #[.pointer (some ⟨d, 0, none⟩), .int .i64 (hyp xs), .bool true]) ∧ Dn w' d (fun k => W.heap.size ≤ k ∧ k < w'.heap.size) xs 0 ∧ Kept No W w') := fun W hk => (able_yes W (hg.kept hk) (h.keep hk) ht).mono (by
    rintro e w' ⟨d, rfl, h1, h2⟩
    exact ⟨d, rfl, h1.dn, h2⟩)
  have HKN : Hid (∀ W, Kept No w W → Calls Tryz.prog 10 #[] W fun e w' => e = .returned (.bool true) ∧ Kept No W w') := fun W hk => known_any W (hg.kept hk)
  have q2 : ∀ (w : World) (d : Nat), (binOp .eql 24 (.pointer (some ⟨d, 0, none⟩)) (.pointer none)).run Tryz.prog w = .ok (.bool false) w := fun w d => by rfl
  obtain ⟨H, hH⟩ : ∃ H, hyp xs = H := ⟨_, rfl⟩
  rw [hH] at HA
  clear h hg ht hH hi
  have a1 := HA.out w (Kept.refl No w)
  go_enter Tryz.func3, Tryz.ntmps3
  go_upto_region 2 with (go_at_call 9; refine a1.mono ?_; rintro e w1 ⟨d1, rfl, hd1, hk1⟩; have H1 : Hid (Dn w1 d1 (fun k => w.heap.size ≤ k ∧ k < w1.heap.size) xs 0 ∧ Kept No w w1) := ⟨hd1, hk1⟩; clear hd1 hk1 a1)
  have a2 := HA.out w1 H1.out.2
  go_upto_region 8 with (first
    | (go_at_call 9; refine a2.mono ?_; rintro e w2 ⟨d2, rfl, hd2, hk2⟩; have H2 : Hid (Dtw w w2 d1 d2 xs 0) := ⟨_, _, H1.out.1.keep hk2, hd2, (fun k q1 q2 => by have := q1.2; have := q2.1; omega), (fun k q => q.1), (fun k q => Nat.le_trans H1.out.2.size q.1), (fun k q => q.2), H1.out.2.trans hk2 (fun _ h => h.elim)⟩; have kn := HKN.out w2 H2.out.k; clear hd2 hk2 a2)
    | (go_at_call 10; refine kn.mono ?_; rintro e w3 ⟨rfl, hk3⟩; have H3 : Hid (Dtw w w3 d1 d2 xs 0) := H2.out.keep hk3; clear hk3 kn))
  go_wp2
  go_loopw [11, 12] (fun v x wr => ∃ t k : Nat, t < 1099511627776 ∧ k ≤ sn ∧ v = .int .i64 t ∧ x = .int .i64 k ∧ Dtw w wr d1 d2 xs t) (fun _ x _ => sn - (intOf x).toNat)
  case atStart => exact ⟨0, 0, by omega, Nat.zero_le _, rfl, rfl, H3.out⟩
  case round =>
    obtain ⟨t, k, htM, hk, rfl, rfl, hT⟩ := hrel
    have HT : Hid (Dtw w wr d1 d2 xs t) := hT
    clear hT H3
    by_cases hgo : k < sn ∧ k < 200
    · obtain ⟨hg1, hg2⟩ := hgo
      obtain ⟨x, hx⟩ : ∃ x, ss[k]? = some x := ⟨_, List.getElem?_eq_getElem (by rw [HI.out.len]; exact hg1)⟩
      have hx6 : I6 x := HI.out.i6 x (List.mem_of_getElem? hx)
      obtain ⟨g, o, rfl, _, hc⟩ := HI.out.at' k x hx
      have HC : Hid (∀ w', Kept No w w' → w'.cell? ⟨g, o + k, none⟩ = some (.int .i64 x)) := fun w' hk => hk.cell hc (fun h => h)
      clear hc hx
      unfold I6 at hx6
      have c1 := HC.out wr HT.out.k
      by_cases hgood : (t : Int) ≤ x ∧ x < 1099511627776
      · obtain ⟨hx1, hx2⟩ := hgood
        obtain ⟨u, rfl⟩ : ∃ u : Nat, x = (u : Int) := ⟨x.toNat, by omega⟩
        have ad := HT.out.good HV.out u (by omega) (by omega)
        have hx3 : t ≤ u := by omega
        have hg3 : (k : Int) < 200 := by omega
        have hx5 : ((u : Int) ≥ (t : Int)) := hx1
        have hx7 : decide ((t : Int) ≤ (u : Int)) = true := decide_eq_true hx1
        clear hx6 hx1
        go_upto_region 12 with (fail)
        go_upto_region 13 with (go_at_call 11; refine ad.mono ?_; rintro e w4 ⟨rfl, h4⟩; have H4 : Hid (Dtw w w4 d1 d2 xs u) := h4; clear h4 ad)
        have c2 := HC.out w4 H4.out.k
        have nw := H4.out.now
        clear c1
        go_wp2_with (go_at_call 12; refine nw.mono ?_; rintro e w5 ⟨rfl, h5⟩; have H5 : Hid (Dtw w w5 d1 d2 xs u) := h5; clear h5 nw)
        go_roundw
        case rel => exact ⟨u, k + 1, by omega, by omega, rfl, by go_num, H5.out⟩
        case measure => simp [intOf]; omega
      · have hg3 : (k : Int) < 200 := by omega
        by_cases hlo : x < (t : Int)
        · have ad := HT.out.bad x (.inl hlo)
          have hx5 : ¬ (x ≥ (t : Int)) := by omega
          have hx7 : decide ((t : Int) ≤ x) = false := decide_eq_false (by omega)
          clear hgood
          go_upto_region 12 with (fail)
          go_upto_region 13 with (go_at_call 11; refine ad.mono ?_; rintro e w4 ⟨rfl, h4⟩; have H4 : Hid (Dtw w w4 d1 d2 xs t) := h4; clear h4 ad)
          have nw := H4.out.now
          clear c1
          go_wp2_with (go_at_call 12; refine nw.mono ?_; rintro e w5 ⟨rfl, h5⟩; have H5 : Hid (Dtw w w5 d1 d2 xs t) := h5; clear h5 nw)
          go_roundw
          case rel => exact ⟨t, k + 1, by omega, by omega, rfl, by go_num, H5.out⟩
          case measure => simp [intOf]; omega
        · have hx2 : ¬ (x < 1099511627776) := by omega
          have ad := HT.out.bad x (.inr (by omega))
          have hx5 : x ≥ (t : Int) := by omega
          have hx7 : decide ((t : Int) ≤ x) = true := decide_eq_true (by omega)
          have hx8 : decide (x < 1099511627776) = false := decide_eq_false hx2
          clear hgood
          go_upto_region 12 with (fail)
          go_upto_region 13 with (go_at_call 11; refine ad.mono ?_; rintro e w4 ⟨rfl, h4⟩; have H4 : Hid (Dtw w w4 d1 d2 xs t) := h4; clear h4 ad)
          have nw := H4.out.now
          clear c1
          go_wp2_with (go_at_call 12; refine nw.mono ?_; rintro e w5 ⟨rfl, h5⟩; have H5 : Hid (Dtw w w5 d1 d2 xs t) := h5; clear h5 nw)
          go_roundw
          case rel => exact ⟨t, k + 1, by omega, by omega, rfl, by go_num, H5.out⟩
          case measure => simp [intOf]; omega
    · have la := HT.out.last HV.out htM
      have HM : Hid (t < 1099511627776) := htM
      obtain ⟨O, hO⟩ : ∃ O, Rule.occ (sys xs) t = O := ⟨_, rfl⟩
      obtain ⟨U, hU⟩ : ∃ U, Rule.until' (sys xs) t = U := ⟨_, rfl⟩
      by_cases hge : k < sn
      · have hg3 : ¬ (k : Int) < 200 := by omega
        clear hgo
        go_wp2_with (first
          | (go_at_call 11; refine la.mono ?_; rintro e w4 ⟨rfl, h4⟩; have H4 : Hid (Tws w w4 d1 d2 xs t) := h4; obtain ⟨Ra, hra⟩ := h4.a; have r1 := rests_dn HV.out hra; clear h4 hra la)
          | (go_at_call 14; refine r1.mono ?_; rintro e w5 ⟨g1, cg1, rfl, _, _, _, ct1, hk5⟩; have H5 : Hid (Tws w w5 d1 d2 xs t ∧ Ct w5 g1 xs.length (fun i => (Rule.rest (sys xs) t i : Int))) := ⟨H4.out.keep hk5, ct1⟩; obtain ⟨Rb, hrb⟩ := H5.out.1.b; have r2 := rests_dn HV.out hrb; clear ct1 hk5 hrb r1)
          | (go_at_call 14; refine r2.mono ?_; rintro e w6 ⟨g2, cg2, rfl, _, _, _, ct2, hk6⟩; have H6 : Hid (Tws w w6 d1 d2 xs t) := H5.out.1.keep hk6; have sm := sameInts_yes (c := cg1) (c' := cg2) w6 (H5.out.2.keep hk6) ct2 hn; clear ct2 hk6 r2)
          | (go_at_call 13; refine sm.mono ?_; rintro e w7 ⟨rfl, hk7⟩; have H7 : Hid (Tws w w7 d1 d2 xs t) := H6.out.keep hk7; obtain ⟨Rc, hrc⟩ := H7.out.a; have o1 := occ_dn HV.out hrc; rw [hO] at o1; clear hk7 hrc sm)
          | (go_at_call 15; refine o1.mono ?_; rintro e w8 ⟨rfl, hk8⟩; have H8 : Hid (Tws w w8 d1 d2 xs t) := H7.out.keep hk8; obtain ⟨Rd, hrd⟩ := H8.out.b; have o2 := occ_dn HV.out hrd; rw [hO] at o2; clear hk8 hrd o1)
          | (go_at_call 15; refine o2.mono ?_; rintro e w9 ⟨rfl, hk9⟩; have H9 : Hid (Tws w w9 d1 d2 xs t) := H8.out.keep hk9; obtain ⟨Re, hre⟩ := H9.out.a; have u1 := until_dn HV.out hre HM.out; rw [hU] at u1; clear hk9 hre o2)
          | (go_at_call 16; refine u1.mono ?_; rintro e w10 ⟨rfl, hk10⟩; have H10 : Hid (Tws w w10 d1 d2 xs t) := H9.out.keep hk10; obtain ⟨Rf, hrf⟩ := H10.out.b; have u2 := until_dn HV.out hrf HM.out; rw [hU] at u2; clear hk10 hrf u1)
          | (go_at_call 16; refine u2.mono ?_; rintro e w11 ⟨rfl, hk11⟩; have H11 : Hid (Tws w w11 d1 d2 xs t) := H10.out.keep hk11; clear hk11 u2))
        go_ret
        exact ⟨rfl, H11.out.k.below0⟩
      · clear hgo hk
        go_wp2_with (first
          | (go_at_call 11; refine la.mono ?_; rintro e w4 ⟨rfl, h4⟩; have H4 : Hid (Tws w w4 d1 d2 xs t) := h4; obtain ⟨Ra, hra⟩ := h4.a; have r1 := rests_dn HV.out hra; clear h4 hra la)
          | (go_at_call 14; refine r1.mono ?_; rintro e w5 ⟨g1, cg1, rfl, _, _, _, ct1, hk5⟩; have H5 : Hid (Tws w w5 d1 d2 xs t ∧ Ct w5 g1 xs.length (fun i => (Rule.rest (sys xs) t i : Int))) := ⟨H4.out.keep hk5, ct1⟩; obtain ⟨Rb, hrb⟩ := H5.out.1.b; have r2 := rests_dn HV.out hrb; clear ct1 hk5 hrb r1)
          | (go_at_call 14; refine r2.mono ?_; rintro e w6 ⟨g2, cg2, rfl, _, _, _, ct2, hk6⟩; have H6 : Hid (Tws w w6 d1 d2 xs t) := H5.out.1.keep hk6; have sm := sameInts_yes (c := cg1) (c' := cg2) w6 (H5.out.2.keep hk6) ct2 hn; clear ct2 hk6 r2)
          | (go_at_call 13; refine sm.mono ?_; rintro e w7 ⟨rfl, hk7⟩; have H7 : Hid (Tws w w7 d1 d2 xs t) := H6.out.keep hk7; obtain ⟨Rc, hrc⟩ := H7.out.a; have o1 := occ_dn HV.out hrc; rw [hO] at o1; clear hk7 hrc sm)
          | (go_at_call 15; refine o1.mono ?_; rintro e w8 ⟨rfl, hk8⟩; have H8 : Hid (Tws w w8 d1 d2 xs t) := H7.out.keep hk8; obtain ⟨Rd, hrd⟩ := H8.out.b; have o2 := occ_dn HV.out hrd; rw [hO] at o2; clear hk8 hrd o1)
          | (go_at_call 15; refine o2.mono ?_; rintro e w9 ⟨rfl, hk9⟩; have H9 : Hid (Tws w w9 d1 d2 xs t) := H8.out.keep hk9; obtain ⟨Re, hre⟩ := H9.out.a; have u1 := until_dn HV.out hre HM.out; rw [hU] at u1; clear hk9 hre o2)
          | (go_at_call 16; refine u1.mono ?_; rintro e w10 ⟨rfl, hk10⟩; have H10 : Hid (Tws w w10 d1 d2 xs t) := H9.out.keep hk10; obtain ⟨Rf, hrf⟩ := H10.out.b; have u2 := until_dn HV.out hrf HM.out; rw [hU] at u2; clear hk10 hrf u1)
          | (go_at_call 16; refine u2.mono ?_; rintro e w11 ⟨rfl, hk11⟩; have H11 : Hid (Tws w w11 d1 d2 xs t) := H10.out.keep hk11; clear hk11 u2))
        go_ret
        exact ⟨rfl, H11.out.k.below0⟩

theorem osteps_law {F G : Nat → Prop} {a : Option Addr} {c : Nat} {xs : List Srv} {ps : Option Addr} {sn sc : Nat} {ss : List Int} (w : World) (hg : Gl w) (h : Sv w F a xs.length c xs) (hi : Is w G ps sn sc ss) :
    Calls Tryz.prog 3 #[.slice a xs.length c, .slice ps sn sc] w fun e w' => e = .returned (.bool true) ∧ Below w.heap.size w w' := by
  cases htm : timF xs xs.length with
  | some p => exact osteps_no ps sn sc w hg h htm
  | none => exact osteps_yes w hg h hi htm
end Go.Proofs.YtffgcijicmfmlaaGreatDoor

namespace Go.Proofs.YtffgcijicmfmlaaGreatDoor
open Go.RowKit Plain
set_option linter.unusedVariables false
set_option maxRecDepth 100000

theorem own_over {w w' : World} {G : Nat → Prop} {base size n : Nat} {e : TypeId} {v : Value} {xs : List Value} (h : w.ownsRow base e size v n xs) (hk : Kept G w w') (hG : ∀ g, v.ownBlock = some g → ¬ G g) : w'.ownsRow base e size v n xs := by
  have hc := h
  obtain ⟨h0, h1 | ⟨g, cap, cur, rfl, hb, hg, hn, hm, h5, h6⟩⟩ := h
  · exact ⟨h0, .inl h1⟩
  · exact ⟨h0, .inr ⟨g, cap, cur, rfl, hb, by rw [hk.block g (hc.lt g rfl).2 (hG g rfl)]; exact hg, hn, hm, h5, h6⟩⟩

/-- what Advance answers, and where it stands behind it -/
def adE (t : Nat) (x : Int) : Int := if (t : Int) ≤ x ∧ x < 1099511627776 then 0 else 2
def adT (t : Nat) (x : Int) : Nat := if (t : Int) ≤ x ∧ x < 1099511627776 then x.toNat else t
theorem adT_lt {t : Nat} {x : Int} (h : t < 1099511627776) : adT t x < 1099511627776 := by
  unfold adT; split <;> omega
theorem adv_dn {w : World} {d : Nat} {R : Nat → Prop} {xs : List Srv} {t : Nat} (hv : Vd xs) (h : Dn w d R xs t) (x : Int) :
    Calls Tryz.prog 11 #[.pointer (some ⟨d, 0, none⟩), .int .i64 x] w fun e w' => e = .returned (.int .i64 (adE t x)) ∧ Dn w' d (fun k => R k ∨ w.heap.size ≤ k) xs (adT t x) ∧ Kept R w w' := by
  by_cases hx : (t : Int) ≤ x ∧ x < 1099511627776
  · obtain ⟨u, rfl⟩ : ∃ u : Nat, x = (u : Int) := ⟨x.toNat, by omega⟩
    have := good_dn hv h u (by omega) (by omega)
    unfold adE adT
    rw [if_pos hx, if_pos hx, Int.toNat_natCast]
    exact this
  · refine (bad_dn h x (by omega)).mono ?_
    rintro e w' ⟨rfl, rfl⟩
    unfold adE adT
    rw [if_neg hx, if_neg hx]
    exact ⟨rfl, h.mono (fun k hk => .inl hk), Kept.refl _ _⟩
theorem rests_own {w : World} {d : Nat} {R : Nat → Prop} {xs : List Srv} {t : Nat} (hv : Vd xs) (h : Dn w d R xs t) : Calls Tryz.prog 14 #[.pointer (some ⟨d, 0, none⟩)] w fun e w' => ∃ g c, e = .returned (.slice (some ⟨g, 0, none⟩) xs.length c) ∧ w.heap.size ≤ g ∧ g < w'.heap.size ∧ xs.length ≤ c ∧ c ≤ 9223372036854775807 ∧ Ct w' g xs.length (fun i => (Rule.rest (sys xs) t i : Int)) ∧ (∃ L, w'.ownsRow w.heap.size 3 1 (.slice (some ⟨g, 0, none⟩) xs.length c) xs.length L) ∧ Kept No w w' := by
  obtain ⟨gR, bW, a, c, FS, FW, ⟨L, h1, _⟩, h2⟩ := h
  exact (restsD_any h1 hv.num).mono (by rintro e w' ⟨g', c', rfl, q1, q2, q3, q4, q6, q5⟩; exact ⟨g', c', rfl, q1, q4.lt, q2, q3, q4, ⟨_, q6⟩, q5⟩)

set_option maxHeartbeats 4000000 in
theorem spoilt_any {g c n m : Nat} {L : List Value} (w : World) (how : w.ownsRow m 3 1 (.slice (some ⟨g, 0, none⟩) n c) n L) (hn : n ≤ 32) (hm : m ≤ w.heap.size) :
    Calls Tryz.prog 17 #[.slice (some ⟨g, 0, none⟩) n c] w fun e w' => e = .returned (.int .i64 ((n : Int) + 64)) ∧ Kept (fun k => k = g) w w' := by
  obtain ⟨i0, hi0, hz0, hz1, hz2⟩ := info_parts Tryz.infoI3
  have hcap : n ≤ c ∧ c ≤ 9223372036854775807 := by
    rcases owns_cells how with ⟨h1, _⟩ | ⟨g', cap, h1, _, _, h2, h3, _⟩
    · cases h1
    · injection h1 with _ _ h1
      subst h1
      exact ⟨h2, by unfold maxLen at h3; omega⟩
  obtain ⟨hcap, hmax⟩ := hcap
  have HO : Hid (w.ownsRow m 3 1 (.slice (some ⟨g, 0, none⟩) n c) n L) := how
  have HM : Hid (m ≤ w.heap.size) := hm
  clear how hm
  go_enter Tryz.func17, Tryz.ntmps17
  go_wp2
  go_loopw [3] (fun x wr => ∃ k : Nat, k ≤ n ∧ x = .int .i64 k ∧ (∃ L', wr.ownsRow m 3 1 (.slice (some ⟨g, 0, none⟩) n c) n L') ∧ Kept (fun k => k = g) w wr) (fun x _ => n - (intOf x).toNat)
  case atStart => exact ⟨0, Nat.zero_le _, rfl, ⟨_, HO.out⟩, Kept.refl _ w⟩
  case round =>
    obtain ⟨k, hk, rfl, ⟨L', hown⟩, hkr⟩ := hrel
    have HK : Hid (wr.ownsRow m 3 1 (.slice (some ⟨g, 0, none⟩) n c) n L' ∧ Kept (fun k => k = g) w wr) := ⟨hown, hkr⟩
    clear hown hkr
    by_cases hlt : k < n
    · have hl : L'.length = n := by have := HK.out.1.1; omega
      obtain ⟨u, hu⟩ : ∃ u, L'[k]? = some u := ⟨_, List.getElem?_eq_getElem (by omega)⟩
      have x1 : wr.cell? ⟨g, k, none⟩ = some u := by rw [HK.out.1.cellAt k (by omega)]; exact hu
      have x2 : wr.frozen? ⟨g, k, none⟩ = false := HK.out.1.frozenAt k
      clear hl hu
      go_wp2
      go_roundw
      case rel => exact ⟨k + 1, by omega, by go_num, ⟨_, (HK.out.1.stored k _).1⟩, HK.out.2.grown (HK.out.1.stored k _).2 (fun j e => .inl (by injection e with e; exact e.symm))⟩
      case measure => simp [intOf]; omega
    · have hke : k = n := by omega
      subst hke
      clear HO
      go_wp2
      go_loopw [0, 4] (fun v x w2 => ∃ j : Nat, j ≤ 64 ∧ x = .int .i64 j ∧ (∃ L', w2.ownsRow m 3 1 v (k + j) L') ∧ (∀ b, v.ownBlock = some b → b = g ∨ w.heap.size ≤ b) ∧ Kept (fun k => k = g) w w2) (fun _ x _ => 64 - (intOf x).toNat)
      case atStart => exact ⟨0, Nat.zero_le _, rfl, ⟨_, HK.out.1⟩, fun b e => .inl (by injection e with e; exact e.symm), HK.out.2⟩
      case round =>
        obtain ⟨j, hj, rfl, ⟨L2, hown⟩, hv, hkr⟩ := hrel
        have H2 : Hid (wr.ownsRow m 3 1 u0 (k + j) L2 ∧ (∀ b, u0.ownBlock = some b → b = g ∨ w.heap.size ≤ b) ∧ Kept (fun k => k = g) w wr) := ⟨hown, hv, hkr⟩
        clear hown hv hkr
        by_cases hlt2 : j < 64
        · go_wp2_with (at_builtin; refine wpList_append_own_at _ rfl _ _ 23 rfl m 3 i0 (.int .i64 0) 1 8 Tryz.underlying23 hi0 hz0 hz1 hz2 rfl (by decide) _ _ _ rfl (World.ownsRow.alloc H2.out.1 _) ⟨wr.heap.size, 0, none⟩ 1 1 [.int .i64 (-8)] rfl rfl (cell_one_new _ _ _) (one_one _ _) (by unfold maxLen; omega) (by omega) (by have := H2.out.2.2.size; have := HM.out; simp; omega) ?_; intro v9 w10 own10 grow10 _ at10)
          have HN : Hid (w10.ownsRow m 3 1 v9 (k + j + 1) (L2 ++ [.int .i64 (-8)]) ∧ (∀ b, v9.ownBlock = some b → b = g ∨ w.heap.size ≤ b) ∧ Kept (fun k => k = g) w w10) := by
            refine ⟨own10, fun b e => ?_, (H2.out.2.2.alloc _).grown grow10 (fun b e => H2.out.2.1 b e)⟩
            rcases at10 with h | h
            · exact H2.out.2.1 b (h ▸ e)
            · rw [h] at e
              injection e with e
              have := H2.out.2.2.size
              right
              simp at e
              omega
          clear own10 grow10 at10
          go_wp2
          go_roundw
          case rel => exact ⟨j + 1, by omega, by go_num, ⟨_, HN.out.1⟩, HN.out.2.1, HN.out.2.2⟩
          case measure => simp [intOf]; omega
        · have hj4 : j = 64 := by omega
          subst hj4
          rcases owns_cells H2.out.1 with ⟨_, h0⟩ | ⟨g2, cap2, hv2, _, _, q2, q3, _⟩
          · omega
          · subst hv2
            have e64 : (((k + 64 : Nat) : Int)) = (k : Int) + 64 := by omega
            go_wp2
            go_ret
            exact ⟨by first | rfl | (rw [e64]) | (simp; omega), H2.out.2.2⟩

/-- three dispatchers apart, their blocks ahead of m -/
def Tri (W w : World) (m d1 d2 d3 : Nat) (xs ys : List Srv) (t1 t2 t3 : Nat) : Prop :=
  ∃ R1 R2 R3 : Nat → Prop, Dn w d1 R1 xs t1 ∧ Dn w d2 R2 ys t2 ∧ Dn w d3 R3 xs t3 ∧ (∀ k, R1 k → ¬ R2 k ∧ ¬ R3 k) ∧ (∀ k, R2 k → ¬ R3 k) ∧ (∀ k, R1 k → W.heap.size ≤ k ∧ k < m) ∧ (∀ k, R2 k → W.heap.size ≤ k ∧ k < m) ∧ (∀ k, R3 k → W.heap.size ≤ k ∧ k < m) ∧ W.heap.size ≤ m ∧ m ≤ w.heap.size ∧ Kept No W w
section
variable {W w w' : World} {m d1 d2 d3 : Nat} {xs ys : List Srv} {t1 t2 t3 : Nat}
theorem Tri.k (h : Tri W w m d1 d2 d3 xs ys t1 t2 t3) : Kept No W w := by
  obtain ⟨R1, R2, R3, h1, h2, h3, h4, h5, h6, h7, h8, h9, h10, h11⟩ := h
  exact h11
theorem Tri.le (h : Tri W w m d1 d2 d3 xs ys t1 t2 t3) : m ≤ w.heap.size := by
  obtain ⟨R1, R2, R3, h1, h2, h3, h4, h5, h6, h7, h8, h9, h10, h11⟩ := h
  exact h10
theorem Tri.over {G : Nat → Prop} (h : Tri W w m d1 d2 d3 xs ys t1 t2 t3) (hk : Kept G w w') (hG : ∀ k, G k → m ≤ k) : Tri W w' m d1 d2 d3 xs ys t1 t2 t3 := by
  obtain ⟨R1, R2, R3, h1, h2, h3, h4, h5, h6, h7, h8, h9, h10, h11⟩ := h
  exact ⟨R1, R2, R3, h1.kept hk (fun k q g => by have := (h6 k q).2; have := hG k g; omega), h2.kept hk (fun k q g => by have := (h7 k q).2; have := hG k g; omega), h3.kept hk (fun k q g => by have := (h8 k q).2; have := hG k g; omega), h4, h5, h6, h7, h8, h9, Nat.le_trans h10 hk.size, h11.trans hk (fun k g => .inr (by have := hG k g; omega))⟩
theorem Tri.keep (h : Tri W w m d1 d2 d3 xs ys t1 t2 t3) (hk : Kept No w w') : Tri W w' m d1 d2 d3 xs ys t1 t2 t3 := h.over hk (fun _ h => h.elim)
theorem Tri.a (h : Tri W w m d1 d2 d3 xs ys t1 t2 t3) : ∃ R, Dn w d1 R xs t1 := by
  obtain ⟨R1, R2, R3, h1, h2, h3, _⟩ := h
  exact ⟨_, h1⟩
theorem Tri.c (h : Tri W w m d1 d2 d3 xs ys t1 t2 t3) : ∃ R, Dn w d3 R xs t3 := by
  obtain ⟨R1, R2, R3, h1, h2, h3, _⟩ := h
  exact ⟨_, h3⟩
theorem Tri.adv1 (hv : Vd xs) (h : Tri W w m d1 d2 d3 xs ys t1 t2 t3) (x : Int) :
    Calls Tryz.prog 11 #[.pointer (some ⟨d1, 0, none⟩), .int .i64 x] w fun e w' => e = .returned (.int .i64 (adE t1 x)) ∧ Tri W w' w'.heap.size d1 d2 d3 xs ys (adT t1 x) t2 t3 := by
  obtain ⟨R1, R2, R3, h1, h2, h3, h4, h5, h6, h7, h8, h9, h10, h11⟩ := h
  refine (adv_dn hv h1 x).mono ?_
  rintro e w' ⟨rfl, g1, g2⟩
  have hs := g2.size
  refine ⟨rfl, _, R2, R3, g1.cut, h2.kept g2 (fun k q1 q2 => (h4 k q2).1 q1), h3.kept g2 (fun k q1 q2 => (h4 k q2).2 q1), ?_, h5, ?_, fun k hk => ⟨(h7 k hk).1, by have := (h7 k hk).2; omega⟩, fun k hk => ⟨(h8 k hk).1, by have := (h8 k hk).2; omega⟩, by omega, Nat.le_refl _, h11.trans g2 (fun k hk => .inr (h6 k hk).1)⟩
  · rintro k ⟨hk | hk, _⟩
    · exact h4 k hk
    · exact ⟨fun q => by have := (h7 k q).2; omega, fun q => by have := (h8 k q).2; omega⟩
  · rintro k ⟨hk | hk, hlt⟩
    · exact ⟨(h6 k hk).1, hlt⟩
    · exact ⟨by omega, hlt⟩
theorem Tri.adv2 (hv : Vd ys) (h : Tri W w m d1 d2 d3 xs ys t1 t2 t3) (x : Int) :
    Calls Tryz.prog 11 #[.pointer (some ⟨d2, 0, none⟩), .int .i64 x] w fun e w' => e = .returned (.int .i64 (adE t2 x)) ∧ Tri W w' w'.heap.size d1 d2 d3 xs ys t1 (adT t2 x) t3 := by
  obtain ⟨R1, R2, R3, h1, h2, h3, h4, h5, h6, h7, h8, h9, h10, h11⟩ := h
  refine (adv_dn hv h2 x).mono ?_
  rintro e w' ⟨rfl, g1, g2⟩
  have hs := g2.size
  refine ⟨rfl, R1, _, R3, h1.kept g2 (fun k q1 q2 => (h4 k q1).1 q2), g1.cut, h3.kept g2 (fun k q1 q2 => h5 k q2 q1), ?_, ?_, fun k hk => ⟨(h6 k hk).1, by have := (h6 k hk).2; omega⟩, ?_, fun k hk => ⟨(h8 k hk).1, by have := (h8 k hk).2; omega⟩, by omega, Nat.le_refl _, h11.trans g2 (fun k hk => .inr (h7 k hk).1)⟩
  · intro k hk
    exact ⟨fun q => by
      rcases q.1 with q | q
      · exact (h4 k hk).1 q
      · have := (h6 k hk).2; omega, (h4 k hk).2⟩
  · rintro k ⟨hk | hk, _⟩
    · exact h5 k hk
    · exact fun q => by have := (h8 k q).2; omega
  · rintro k ⟨hk | hk, hlt⟩
    · exact ⟨(h7 k hk).1, hlt⟩
    · exact ⟨by omega, hlt⟩
theorem Tri.adv3 (hv : Vd xs) (h : Tri W w m d1 d2 d3 xs ys t1 t2 t3) (x : Int) :
    Calls Tryz.prog 11 #[.pointer (some ⟨d3, 0, none⟩), .int .i64 x] w fun e w' => e = .returned (.int .i64 (adE t3 x)) ∧ Tri W w' w'.heap.size d1 d2 d3 xs ys t1 t2 (adT t3 x) := by
  obtain ⟨R1, R2, R3, h1, h2, h3, h4, h5, h6, h7, h8, h9, h10, h11⟩ := h
  refine (adv_dn hv h3 x).mono ?_
  rintro e w' ⟨rfl, g1, g2⟩
  have hs := g2.size
  refine ⟨rfl, R1, R2, _, h1.kept g2 (fun k q1 q2 => (h4 k q1).2 q2), h2.kept g2 (fun k q1 q2 => h5 k q1 q2), g1.cut, ?_, ?_, fun k hk => ⟨(h6 k hk).1, by have := (h6 k hk).2; omega⟩, fun k hk => ⟨(h7 k hk).1, by have := (h7 k hk).2; omega⟩, ?_, by omega, Nat.le_refl _, h11.trans g2 (fun k hk => .inr (h8 k hk).1)⟩
  · intro k hk
    exact ⟨(h4 k hk).1, fun q => by
      rcases q.1 with q | q
      · exact (h4 k hk).2 q
      · have := (h6 k hk).2; omega⟩
  · intro k hk q
    rcases q.1 with q | q
    · exact h5 k hk q
    · have := (h7 k hk).2; omega
  · rintro k ⟨hk | hk, hlt⟩
    · exact ⟨(h8 k hk).1, hlt⟩
    · exact ⟨by omega, hlt⟩
end
end Go.Proofs.YtffgcijicmfmlaaGreatDoor
