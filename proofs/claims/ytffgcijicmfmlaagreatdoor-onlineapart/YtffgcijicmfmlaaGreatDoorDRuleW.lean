/-
  The walk of OnlineRule.
-/
import Derived.Test.YtffgcijicmfmlaaGreatDoorDFirst
namespace Go.Proofs.YtffgcijicmfmlaaGreatDoor
open Go.RowKit Plain
set_option linter.unusedVariables false
set_option maxRecDepth 100000

theorem Dn.cut {w : World} {d : Nat} {R : Nat → Prop} {xs : List Srv} {t : Nat} (h : Dn w d R xs t) : Dn w d (fun k => R k ∧ k < w.heap.size) xs t := by
  obtain ⟨gR, bW, a, c, FS, FW, ⟨L, h1, h3⟩, h2⟩ := h
  refine ⟨gR, bW, a, c, FS, _, ⟨L, h1.cut, h3⟩, fun k hk => ?_⟩
  rcases hk with h | h | h | h
  · exact ⟨h2 k (.inl h), by rw [h]; exact cell_lt h1.c0⟩
  · exact ⟨h2 k (.inr (.inl h)), by rw [h]; exact h1.ct.lt⟩
  · exact ⟨h2 k (.inr (.inr (.inl h))), h1.sl k h⟩
  · exact ⟨h2 k (.inr (.inr (.inr h.1))), h.2⟩

/-- what the rounds of OnlineRule keep: the dispatcher at tn, the row of rests outside its blocks -/
structure Orl (w wr : World) (d : Nat) (xs : List Srv) (tn : Nat) (v : Value) (f : Nat → Int) : Prop where
  kp : Kept No w wr
  ex : ∃ R, Dn wr d R xs tn ∧ (∀ k, R k → w.heap.size ≤ k) ∧ ((v = .slice none 0 0 ∧ xs.length = 0) ∨ ∃ g c, v = .slice (some ⟨g, 0, none⟩) xs.length c ∧ xs.length ≤ c ∧ c ≤ 9223372036854775807 ∧ Ct wr g xs.length f ∧ ¬ R g ∧ w.heap.size ≤ g)
theorem Orl.rd {w wr : World} {d : Nat} {xs : List Srv} {tn : Nat} {v : Value} {f : Nat → Int} (h : Orl w wr d xs tn v f) : Rd0 wr v xs.length f := by
  obtain ⟨R, _, _, h3⟩ := h.ex
  rcases h3 with h3 | ⟨g, c, h3, h4, h5, h6, _⟩
  · exact .inl h3
  · exact .inr ⟨g, c, h3, h4, h5, h6⟩
theorem Orl.keep {w wr w' : World} {d : Nat} {xs : List Srv} {tn : Nat} {v : Value} {f : Nat → Int} (h : Orl w wr d xs tn v f) (hk : Kept No wr w') : Orl w w' d xs tn v f := by
  obtain ⟨R, h1, h2, h3⟩ := h.ex
  refine ⟨h.kp.trans hk (fun _ h => h.elim), R, h1.keep hk, h2, ?_⟩
  rcases h3 with h3 | ⟨g, c, h3, h4, h5, h6, h7⟩
  · exact .inl h3
  · exact .inr ⟨g, c, h3, h4, h5, h6.keep hk, h7⟩
theorem Orl.sl {w wr : World} {d : Nat} {xs : List Srv} {tn : Nat} {v : Value} {f : Nat → Int} (h : Orl w wr d xs tn v f) : ∃ a c, v = .slice a xs.length c := by
  obtain ⟨R, _, _, h3⟩ := h.ex
  rcases h3 with ⟨h3, h0⟩ | ⟨g, c, h3, _⟩
  · exact ⟨none, 0, by rw [h3, h0]⟩
  · exact ⟨_, _, h3⟩
/-- the dispatcher goes on -/
theorem Orl.adv {w wr : World} {d : Nat} {xs : List Srv} {tn : Nat} {v : Value} {f : Nat → Int} (hv : Vd xs) (h : Orl w wr d xs tn v f) (x : Nat) (h1 : tn ≤ x) (h2 : x < 1099511627776) :
    Calls Tryz.prog 11 #[.pointer (some ⟨d, 0, none⟩), .int .i64 x] wr fun e w' => e = .returned (.int .i64 0) ∧ Orl w w' d xs x v f := by
  obtain ⟨R, q1, q2, q3⟩ := h.ex
  refine (good_dn hv q1 x h1 h2).mono ?_
  rintro e w' ⟨rfl, g1, g2⟩
  have hs := h.kp.size
  have hs2 := g2.size
  refine ⟨rfl, h.kp.trans g2 (fun k hk => .inr (q2 k hk)), _, g1.cut, fun k hk => ?_, ?_⟩
  · rcases hk.1 with h | h
    · exact q2 k h
    · omega
  · rcases q3 with q3 | ⟨g, c, q3, q4, q5, q6, q7, q8⟩
    · exact .inl q3
    · refine .inr ⟨g, c, q3, q4, q5, q6.over g2 q7, fun hk => ?_, q8⟩
      have := q6.lt
      rcases hk.1 with h | h
      · exact q7 h
      · omega
/-- another row of rests -/
theorem Orl.row {w wr w' : World} {d : Nat} {xs : List Srv} {tn : Nat} {v v' : Value} {f f' : Nat → Int} (h : Orl w wr d xs tn v f) (hk : Kept No wr w') (hr : Ri w' wr.heap.size v' xs.length f') : Orl w w' d xs tn v' f' := by
  obtain ⟨R, q1, q2, q3⟩ := h.ex
  have hs := h.kp.size
  refine ⟨h.kp.trans hk (fun _ h => h.elim), _, (q1.cut).keep hk, fun k hk => q2 k hk.1, ?_⟩
  rcases hr.ct with hr | ⟨g, c, h1, h2, h3, h4, h5⟩
  · exact .inl hr
  · exact .inr ⟨g, c, h1, h3, h4, h5, fun h => by have := h.2; omega, by omega⟩
/-- one rest less -/
theorem Orl.less {w wr : World} {d : Nat} {xs : List Srv} {tn : Nat} {g c : Nat} {f : Nat → Int} (h : Orl w wr d xs tn (.slice (some ⟨g, 0, none⟩) xs.length c) f) (i : Nat) (x : Int) (hn : 0 < xs.length) : Orl w (wr.setCell ⟨g, i, none⟩ (.int .i64 x)) d xs tn (.slice (some ⟨g, 0, none⟩) xs.length c) (fun j => if j = i then x else f j) := by
  obtain ⟨R, q1, q2, q3⟩ := h.ex
  rcases q3 with ⟨_, h0⟩ | ⟨g', c', q3, q4, q5, q6, q7, q8⟩
  · omega
  · injection q3 with e1 _ e3
    injection e1 with e1
    injection e1 with e1 _ _
    subst e1 e3
    have k : Kept (fun j => j = g) wr (wr.setCell ⟨g, i, none⟩ (.int .i64 x)) := Kept.setCell (Kept.refl (fun j => j = g) wr) (p := ⟨g, i, none⟩) (Or.inl rfl) _
    exact ⟨h.kp.trans k (fun j e => .inr (by omega)), R, q1.kept k (fun j hj e => q7 (by rw [← e]; exact hj)), q2, .inr ⟨g, c, rfl, q4, q5, q6.put i x, q7, q8⟩⟩
theorem Orl.like {w wr : World} {d : Nat} {xs : List Srv} {tn : Nat} {v : Value} {f f' : Nat → Int} (h : Orl w wr d xs tn v f) (he : ∀ i, i < xs.length → f i = f' i) : Orl w wr d xs tn v f' := by
  obtain ⟨R, q1, q2, q3⟩ := h.ex
  refine ⟨h.kp, R, q1, q2, ?_⟩
  rcases q3 with q3 | ⟨g, c, q3, q4, q5, q6, q7⟩
  · exact .inl q3
  · exact .inr ⟨g, c, q3, q4, q5, q6.like he, q7⟩
theorem sameInts_rd {v v' : Value} {n : Nat} {r : Nat → Int} (w : World) (h : Rd0 w v n r) (h' : Rd0 w v' n r) (hn : n ≤ 32) : Calls Tryz.prog 13 #[v, v'] w fun e w' => e = .returned (.bool true) ∧ Kept No w w' := by
  by_cases h0 : n = 0
  · subst h0
    obtain ⟨a, c, rfl⟩ : ∃ a c, v = .slice a 0 c := by
      rcases h with ⟨h1, _⟩ | ⟨g, c, h1, _⟩
      · exact ⟨_, _, h1⟩
      · exact ⟨_, _, h1⟩
    obtain ⟨a', c', rfl⟩ : ∃ a c, v' = .slice a 0 c := by
      rcases h' with ⟨h1, _⟩ | ⟨g, c, h1, _⟩
      · exact ⟨_, _, h1⟩
      · exact ⟨_, _, h1⟩
    clear h h'
    go_enter Tryz.func13, Tryz.ntmps13
    go_wp2
    go_loopw [5] (fun x wr => x = .int .i64 0 ∧ wr = w) (fun _ _ => 0)
    case atStart => exact ⟨rfl, rfl⟩
    case round =>
      obtain ⟨rfl, hw⟩ := hrel
      obtain rfl := hw.symm
      go_wp2
      go_ret
      exact ⟨rfl, Kept.refl No _⟩
  · rcases h with ⟨_, h1⟩ | ⟨g, c, rfl, _, _, h1⟩
    · omega
    · rcases h' with ⟨_, h2⟩ | ⟨g', c', rfl, _, _, h2⟩
      · omega
      · exact sameInts_yes w h1 h2 hn

set_option maxHeartbeats 2000000 in
theorem orule_many (a : Option Addr) (n c : Nat) (fr tk : Int) (w : World) (hg : Gl w) (hk : 400 < tk) :
    Calls Tryz.prog 6 #[.slice a n c, .int .i64 fr, .int .i64 tk] w fun e w' => e = .returned (.bool true) ∧ Below w.heap.size w w' := by
  have kn := known_any w hg
  clear hg
  go_enter Tryz.func6, Tryz.ntmps6
  go_wp2_with (go_at_call 10; refine kn.mono ?_; rintro e w3 ⟨rfl, hk3⟩; have HK3 : Hid (Kept No w w3) := hk3; clear hk3 kn)
  go_ret
  exact ⟨rfl, HK3.out.below0⟩
set_option maxHeartbeats 4000000 in
theorem orule_none {F : Nat → Prop} {a : Option Addr} {c : Nat} {xs : List Srv} {p : Int × Int} (fr tk : Int) (w : World) (hg : Gl w) (h : Sv w F a xs.length c xs) (ht : timF xs xs.length = some p) (hk : ¬ 400 < tk) :
    Calls Tryz.prog 6 #[.slice a xs.length c, .int .i64 fr, .int .i64 tk] w fun e w' => e = .returned (.bool true) ∧ Below w.heap.size w w' := by
  have a1 := able_no w hg h ht
  have HKN : Hid (∀ W, Kept No w W → Calls Tryz.prog 10 #[] W fun e w' => e = .returned (.bool true) ∧ Kept No W w') := fun W hk => known_any W (hg.kept hk)
  have q2 : ∀ (w : World), (binOp .eql 24 (.pointer none) (.pointer none)).run Tryz.prog w = .ok (.bool true) w := fun w => by rfl
  clear h hg ht
  go_enter Tryz.func6, Tryz.ntmps6
  go_wp2_with (first
    | (go_at_call 9; refine a1.mono ?_; rintro e w2 ⟨rfl, hk2⟩; have HK2 : Hid (Kept No w w2) := hk2; have kn := HKN.out w2 HK2.out; clear hk2 a1)
    | (go_at_call 10; refine kn.mono ?_; rintro e w3 ⟨rfl, hk3⟩; have HK3 : Hid (Kept No w w3) := HK2.out.trans hk3 (fun _ h => h.elim); clear hk3 kn))
  go_ret
  exact ⟨rfl, HK3.out.below0⟩
set_option maxHeartbeats 4000000 in
theorem orule_bad {F : Nat → Prop} {a : Option Addr} {c : Nat} {xs : List Srv} (fr tk : Int) (w : World) (hg : Gl w) (h : Sv w F a xs.length c xs) (ht : timF xs xs.length = none) (hk : ¬ 400 < tk) (hb : fr < 0 ∨ 1099511627775 < fr) :
    Calls Tryz.prog 6 #[.slice a xs.length c, .int .i64 fr, .int .i64 tk] w fun e w' => e = .returned (.bool true) ∧ Below w.heap.size w w' := by
  have a1 := able_yes w hg h ht
  have HKN : Hid (∀ W, Kept No w W → Calls Tryz.prog 10 #[] W fun e w' => e = .returned (.bool true) ∧ Kept No W w') := fun W hk => known_any W (hg.kept hk)
  have q2 : ∀ (w : World) (d : Nat), (binOp .eql 24 (.pointer (some ⟨d, 0, none⟩)) (.pointer none)).run Tryz.prog w = .ok (.bool false) w := fun w d => by rfl
  have hb' : fr < ((0 : Nat) : Int) ∨ 1099511627775 < fr := hb
  clear h hg ht
  generalize hyp xs = H at *
  go_enter Tryz.func6, Tryz.ntmps6
  go_upto_region 7 with (first
    | (go_at_call 9; refine a1.mono ?_; rintro e w2 ⟨d, rfl, hd2, hk2⟩; have HK2 : Hid (Dm w2 d w.heap.size w2.heap.size xs 0 ∧ Kept No w w2) := ⟨hd2, hk2⟩; have kn := HKN.out w2 HK2.out.2; clear hd2 hk2 a1)
    | (go_at_call 10; refine kn.mono ?_; rintro e w3 ⟨rfl, hk3⟩; have HK3 : Hid (Dn w3 d (fun k => w.heap.size ≤ k ∧ k < w2.heap.size) xs 0 ∧ Kept No w w3) := ⟨HK2.out.1.dn.keep hk3, HK2.out.2.trans hk3 (fun _ h => h.elim)⟩; have ad := bad_dn HK3.out.1 fr hb'; clear hk3 kn)
    | (go_at_call 11; refine ad.mono ?_; rintro e w4 ⟨rfl, hw4⟩; obtain rfl := hw4.symm; clear ad))
  by_cases h1 : fr < 0
  · go_wp2
    go_ret
    exact ⟨rfl, HK3.out.2.below0⟩
  · have h2 : 1099511627776 ≤ fr := by omega
    go_wp2
    go_ret
    refine ⟨?_, HK3.out.2.below0⟩
    first
      | rfl
      | (simp [h1, h2])

set_option maxHeartbeats 16000000 in
theorem orule_in {F : Nat → Prop} {a : Option Addr} {c : Nat} {xs : List Srv} (u : Nat) (tk : Int) (w : World) (hg : Gl w) (h : Sv w F a xs.length c xs) (ht : timF xs xs.length = none) (hk : ¬ 400 < tk) (hk6 : I6 tk) (hu : u < 1099511627776) :
    Calls Tryz.prog 6 #[.slice a xs.length c, .int .i64 u, .int .i64 tk] w fun e w' => e = .returned (.bool true) ∧ Below w.heap.size w w' := by
  have HV : Hid (Vd xs) := vd_of ht
  have hn := HV.out.num
  have hcap := h.cap
  have hmax := h.max
  unfold I6 at hk6
  have a1 := able_yes w hg h ht
  have HKN : Hid (∀ W, Kept No w W → Calls Tryz.prog 10 #[] W fun e w' => e = .returned (.bool true) ∧ Kept No W w') := fun W hk => known_any W (hg.kept hk)
  have HS : Hid (Sv w F a xs.length c xs) := h
  have q2 : ∀ (w : World) (d : Nat), (binOp .eql 24 (.pointer (some ⟨d, 0, none⟩)) (.pointer none)).run Tryz.prog w = .ok (.bool false) w := fun w d => by rfl
  clear h hg ht
  generalize hyp xs = H at *
  go_enter Tryz.func6, Tryz.ntmps6
  go_upto_region 8 with (first
    | (go_at_call 9; refine a1.mono ?_; rintro e w2 ⟨d, rfl, hd2, hk2⟩; have HK2 : Hid (Dm w2 d w.heap.size w2.heap.size xs 0 ∧ Kept No w w2) := ⟨hd2, hk2⟩; have kn := HKN.out w2 HK2.out.2; clear hd2 hk2 a1)
    | (go_at_call 10; refine kn.mono ?_; rintro e w3 ⟨rfl, hk3⟩; have HK3 : Hid (Dn w3 d (fun k => w.heap.size ≤ k) xs 0 ∧ Kept No w w3) := ⟨(HK2.out.1.dn.keep hk3).mono (fun k hk => hk.1), HK2.out.2.trans hk3 (fun _ h => h.elim)⟩; have ad := good_dn HV.out HK3.out.1 u (by omega) hu; clear hk3 kn)
    | (go_at_call 11; refine ad.mono ?_; rintro e w4 ⟨rfl, hd4, hk4⟩; have HK4 : Hid (Dn w4 d (fun k => w.heap.size ≤ k ∧ k < w4.heap.size) xs u ∧ Kept No w w4) := ⟨hd4.cut.mono (fun k hk => ⟨by have := HK3.out.2.size; rcases hk.1 with h | h; exact h; omega, hk.2⟩), HK3.out.2.trans hk4 (fun k hk => .inr hk)⟩; clear hd4 hk4 ad))
  have r1 := rests_dn HV.out HK4.out.1
  go_upto_region 9 with (go_at_call 14; refine r1.mono ?_; rintro e w5 ⟨g0, c0, rfl, hg0, hc0, hc0', ct0, hk5⟩; have HO : Hid (Orl w w5 d xs u (.slice (some ⟨g0, 0, none⟩) xs.length c0) (fun i => (Rule.rest (sys xs) u i : Int))) := ⟨HK4.out.2.trans hk5 (fun _ h => h.elim), _, HK4.out.1.keep hk5, fun k hk => hk.1, .inr ⟨g0, c0, rfl, hc0, hc0', ct0, fun hk => by have := hk.2; omega, by have := HK4.out.2.size; omega⟩⟩; clear hg0 ct0 hk5 r1)
  go_wp2
  clear hc0 hc0'
  go_loopw [10, 11, 12, 13] (fun v un la x wr => ∃ (t : Nat) (ui li : Int) (tn : Nat) (f : Nat → Int), u ≤ t ∧ t ≤ 1099511627776 ∧ x = .int .i64 t ∧ un = .int .i64 ui ∧ la = .int .i64 li ∧ ((t : Int) < ui → li = (Rule.occ (sys xs) t : Int) - 1) ∧ tn ≤ t ∧ Orl w wr d xs tn v f ∧ (t = u → ∀ i, i < xs.length → f i = (Rule.rest (sys xs) u i : Int)) ∧ (u < t → ∀ i, i < xs.length → f i = (Rule.rest (sys xs) (t - 1) i : Int) - (if Rule.occ (sys xs) (t - 1) = i + 1 then 1 else 0))) (fun _ _ _ x _ => ((u : Int) + tk - intOf x).toNat)
  case atStart => exact ⟨u, 0, -2, u, _, Nat.le_refl _, by omega, rfl, rfl, rfl, fun h => by omega, Nat.le_refl _, HO.out, fun _ i hi => rfl, fun h => by omega⟩
  case round =>
    clear HO
    obtain ⟨t, ui, li, tn, f, hut, htM, rfl, rfl, rfl, hui, htn, hor, hf1, hf2⟩ := hrel
    have HU : Hid ((t : Int) < ui → li = (Rule.occ (sys xs) t : Int) - 1) := hui
    have HOR : Hid (Orl w wr d xs tn u10 f ∧ (t = u → ∀ i, i < xs.length → f i = (Rule.rest (sys xs) u i : Int)) ∧ (u < t → ∀ i, i < xs.length → f i = (Rule.rest (sys xs) (t - 1) i : Int) - (if Rule.occ (sys xs) (t - 1) = i + 1 then 1 else 0))) := ⟨hor, hf1, hf2⟩
    obtain ⟨va, vc, hvv⟩ := hor.sl
    subst hvv
    clear hor hf1 hf2 hui
    by_cases hgo : (t : Int) < (u : Int) + tk ∧ t < 1099511627776
    · obtain ⟨hg1, hg2⟩ := hgo
      have hg2' : (t : Int) < 1099511627776 := by omega
      have ad := HOR.out.1.adv HV.out t htn hg2
      have HRL : Hid (∀ i, i < xs.length → rlF (sys xs) t f i = (Rule.rest (sys xs) t i : Int)) := fun i hi => by
        unfold rlF
        by_cases e : t = u
        · have := HOR.out.2.1 e i hi
          rw [this, ← e]
          by_cases hr : Rule.rel (sys xs) i t
          · rw [if_pos hr, Rule.rest_rel hr]
          · rw [if_neg hr]
        · have := HOR.out.2.2 (by omega) i hi
          have e2 := Rule.rest_next HV.out.bd.ok (s := sys xs) (i := i) hi (t - 1)
          rw [show t - 1 + 1 = t by omega] at e2
          rw [e2, this]
      go_upto_region 18 with (first
        | (go_at_call 11; refine ad.mono ?_; rintro e w6 ⟨rfl, ho6⟩; have HO6 : Hid (Orl w w6 d xs t (.slice va xs.length vc) f) := ho6; have nw : Calls Tryz.prog 12 #[.pointer (some ⟨d, 0, none⟩)] w6 (fun e w' => e = .returned (.int .i64 t) ∧ Kept No w6 w') := (by obtain ⟨R, q1, _⟩ := ho6.ex; exact now_dn q1); clear ho6 ad)
        | (go_at_call 12; refine nw.mono ?_; rintro e w7 ⟨rfl, hk7⟩; have HO7 : Hid (Orl w w7 d xs t (.slice va xs.length vc) f) := HO6.out.keep hk7; clear hk7 nw))
      have rl := released_any HV.out w7 (HS.out.keep HO7.out.kp) HO7.out.rd t hg2
      by_cases htu : t = u
      · have htu' : ¬ (u : Int) < (t : Int) := by omega
        have HTU : Hid (t = u) := htu
        clear htu
        go_upto_region 22 with (first
          | (go_at_call 18; refine rl.mono ?_; rintro e w8 ⟨v8, rfl, hri, hk8⟩; obtain ⟨a8, c8, hv8⟩ : ∃ a c, v8 = .slice a xs.length c := (by rcases hri.ct with ⟨q1, q2⟩ | ⟨g, c, q1, _⟩; exact ⟨none, 0, by rw [q1, q2]⟩; exact ⟨_, _, q1⟩); subst hv8; have HO8a : Hid (Orl w w8 d xs t (.slice va xs.length vc) (fun i => (Rule.rest (sys xs) t i : Int))) := (HO7.out.keep hk8).like (fun i hi => by have e := HTU.out; have := HOR.out.2.1 e i hi; rw [this, e]); have hrd8 : Rd0 w8 (.slice a8 xs.length c8) xs.length (fun i => (Rule.rest (sys xs) t i : Int)) := (by rcases hri.ct with q1 | ⟨g, c, q1, _, q3, q4, q5⟩; exact .inl q1; exact .inr ⟨g, c, q1, q3, q4, q5.like HRL.out⟩); have sm0 := sameInts_rd w8 hrd8 HO8a.out.rd hn; clear hri hk8 hrd8 rl)
          | (go_at_call 13; refine sm0.mono ?_; rintro e w8b ⟨rfl, hk8b⟩; have HO8 : Hid (Orl w w8b d xs t (.slice va xs.length vc) (fun i => (Rule.rest (sys xs) t i : Int))) := HO8a.out.keep hk8b; clear hk8b sm0))
        have fi := firstR_any (r := Rule.rest (sys xs) t) w8b (HS.out.keep HO8.out.kp) hn HO8.out.rd (fun i hi => by have := Rule.rest_le (sys xs) t i; have := HV.out.bd.bud i hi; omega)
        have hfe : ((Rule.pick (sys xs) (Rule.rest (sys xs) t) xs.length : Int) - 1) = (Rule.occ (sys xs) t : Int) - 1 := rfl
        rw [hfe] at fi
        clear hfe
        obtain ⟨A, hA⟩ : ∃ A, (Rule.occ (sys xs) t : Int) - 1 = A := ⟨_, rfl⟩
        rw [hA] at fi
        have HA : Hid ((Rule.occ (sys xs) t : Int) - 1 = A) := hA
        clear hA
        have hocl : Rule.occ (sys xs) t ≤ xs.length := Rule.occ_le (sys xs) t
        have HCU : Hid (∀ W, Orl w W d xs t (.slice va xs.length vc) (fun i => (Rule.rest (sys xs) t i : Int)) → Calls Tryz.prog 16 #[.pointer (some ⟨d, 0, none⟩)] W fun e w' => e = .returned (.int .i64 (Rule.until' (sys xs) t)) ∧ Kept No W w') := fun W ho => by
          obtain ⟨R, q1, _⟩ := ho.ex
          exact until_dn HV.out q1 hg2
        have HCO : Hid (∀ W, Orl w W d xs t (.slice va xs.length vc) (fun i => (Rule.rest (sys xs) t i : Int)) → Calls Tryz.prog 15 #[.pointer (some ⟨d, 0, none⟩)] W fun e w' => e = .returned (.int .i64 (Rule.occ (sys xs) t)) ∧ Kept No W w') := fun W ho => by
          obtain ⟨R, q1, _⟩ := ho.ex
          exact occ_dn HV.out q1
        have HCR : Hid (∀ W, Orl w W d xs t (.slice va xs.length vc) (fun i => (Rule.rest (sys xs) t i : Int)) → Calls Tryz.prog 14 #[.pointer (some ⟨d, 0, none⟩)] W fun e w' => ∃ v, e = .returned v ∧ (∃ a c, v = .slice a xs.length c) ∧ Rd0 w' v xs.length (fun i => (Rule.rest (sys xs) t i : Int)) ∧ Kept No W w') := fun W ho => by
          obtain ⟨R, q1, _⟩ := ho.ex
          exact (rests_dn HV.out q1).mono (by rintro e w' ⟨g, c, rfl, _, z1, z2, z3, z4⟩; exact ⟨_, rfl, ⟨_, _, rfl⟩, .inr ⟨g, c, rfl, z1, z2, z3⟩, z4⟩)
        have hun1 := Rule.until_gt HV.out.bd.ok (s := sys xs) (t := t) hg2
        have hun2 := Rule.until_le (sys xs) t
        have HNU : Hid (((t + 1 : Nat) : Int) < (Rule.until' (sys xs) t : Int) → (Rule.occ (sys xs) t : Int) - 1 = (Rule.occ (sys xs) (t + 1) : Int) - 1) := fun hlt => by
          obtain ⟨y1, y2, _⟩ := Rule.until_rel HV.out.bd.ok (s := sys xs) (t := t) (m := 2) (by omega)
          have := (Rule.stretch HV.out.bd.ok y1 y2 1 (by omega)).1
          rw [this]
        go_upto_region 23 with (go_at_call 19; refine fi.mono ?_; rintro e w9 ⟨rfl, hk9⟩; have HO9 : Hid (Orl w w9 d xs t (.slice va xs.length vc) (fun i => (Rule.rest (sys xs) t i : Int))) := HO8.out.keep hk9; clear hk9 fi)
        have rr := HCR.out w9 HO9.out
        have HLS : Hid ((t : Int) < ui → li = (Rule.occ (sys xs) t : Int) - 1) := HU.out
        generalize hoc : Rule.occ (sys xs) t = oc at *
        generalize Rule.until' (sys xs) t = un at *
        have HOC : Hid (Rule.occ (sys xs) t = oc) := hoc
        clear hoc
        have eO : A + 1 = (oc : Int) := by have := HA.out; omega
        have hA0 : -1 ≤ A ∧ A ≤ 32 := by have := HA.out; omega
        have hd1 : decide ((un : Int) ≤ (t : Int)) = false := decide_eq_false (by omega)
        have hd2 : decide (un ≤ t) = false := decide_eq_false (by omega)
        have hd3 : decide ((1099511627776 : Int) < (un : Int)) = false := decide_eq_false (by omega)
        have hle1 : ¬ (un : Int) ≤ (t : Int) := by omega
        have hle2 : ¬ (1099511627776 : Int) < (un : Int) := by omega
        by_cases hq : (t : Int) < ui
        · have hli : A = li := by rw [← HA.out]; exact (HLS.out hq).symm
          subst hli
          go_upto_region 25 with (first
            | (go_at_call 14; refine rr.mono ?_; rintro e w10 ⟨v10, rfl, ⟨a10, c10, hv10⟩, hrd10, hk10⟩; subst hv10; have HO10 : Hid (Orl w w10 d xs t (.slice va xs.length vc) (fun i => (Rule.rest (sys xs) t i : Int))) := HO9.out.keep hk10; have sm := sameInts_rd w10 hrd10 HO10.out.rd hn; clear hrd10 hk10 rr)
            | (go_at_call 13; refine sm.mono ?_; rintro e w11 ⟨rfl, hk11⟩; have HO11 : Hid (Orl w w11 d xs t (.slice va xs.length vc) (fun i => (Rule.rest (sys xs) t i : Int))) := HO10.out.keep hk11; have oo := HCO.out w11 HO11.out; clear hk11 sm)
            | (go_at_call 15; refine oo.mono ?_; rintro e w12 ⟨rfl, hk12⟩; have HO12 : Hid (Orl w w12 d xs t (.slice va xs.length vc) (fun i => (Rule.rest (sys xs) t i : Int))) := HO11.out.keep hk12; have u1 := HCU.out w12 HO12.out; clear hk12 oo)
            | (go_at_call 16; refine u1.mono ?_; rintro e w13 ⟨rfl, hk13⟩; have HO13 : Hid (Orl w w13 d xs t (.slice va xs.length vc) (fun i => (Rule.rest (sys xs) t i : Int))) := HO12.out.keep hk13; have u2 := HCU.out w13 HO13.out; clear hk13 u1)
            | (go_at_call 16; refine u2.mono ?_; rintro e w14 ⟨rfl, hk14⟩; have HO14 : Hid (Orl w w14 d xs t (.slice va xs.length vc) (fun i => (Rule.rest (sys xs) t i : Int))) := HO13.out.keep hk14; have u3 := HCU.out w14 HO14.out; clear hk14 u2))
          go_upto_region 26 with (go_at_call 16; refine u3.mono ?_; rintro e w15 ⟨rfl, hk15⟩; have HO15 : Hid (Orl w w15 d xs t (.slice va xs.length vc) (fun i => (Rule.rest (sys xs) t i : Int))) := HO14.out.keep hk15; clear hk15 u3)
          clear HCU HCO HCR
          by_cases hoz : oc = 0
          · have HOZ : Hid (oc = 0) := hoz
            have hat : decide ((0 : Int) ≤ A) = false := decide_eq_false (by have := HA.out; omega)
            have hat2 : ¬ (0 : Int) ≤ A := by have := HA.out; omega
            clear hoz
            go_wp2
            go_roundw
            case rel => exact ⟨t + 1, un, A, t, _, by omega, by omega, by go_num, rfl, rfl, (fun hlt => by rw [← HA.out]; exact HNU.out hlt), by omega, HO15.out, fun e => by omega, fun _ i hi => by rw [Nat.add_sub_cancel, HOC.out, if_neg (by have := HOZ.out; omega)]; omega⟩
            case measure => simp [intOf]; omega
          · obtain ⟨jj, hjj⟩ : ∃ jj, oc = jj + 1 := ⟨oc - 1, by omega⟩
            have hjn : jj < xs.length := by omega
            have hat0 : A = (jj : Int) := by have := HA.out; omega
            obtain ⟨g, hgE⟩ : ∃ g, va = some ⟨g, 0, none⟩ := by
              obtain ⟨R, _, _, ⟨h1, h0⟩ | ⟨g, c, h1, _⟩⟩ := HO15.out.ex
              · omega
              · injection h1 with h1 _ _; exact ⟨g, h1⟩
            subst hgE
            have hrow : Ct w15 g xs.length (fun i => (Rule.rest (sys xs) t i : Int)) := by
              obtain ⟨R, _, _, ⟨h1, h0⟩ | ⟨g', c, h1, _, _, h2, _⟩⟩ := HO15.out.ex
              · omega
              · injection h1 with h1 _ _; injection h1 with h1; injection h1 with h1 _ _; subst h1; exact h2
            have x1 := hrow.at' jj hjn
            have x2 := hrow.fz jj
            have hrl : Rule.rest (sys xs) t jj ≤ 1048576 := by have := Rule.rest_le (sys xs) t jj; have := HV.out.bd.bud jj hjn; omega
            have HNX : Hid (Orl w (w15.setCell ⟨g, jj, none⟩ (.int .i64 ((Rule.rest (sys xs) t jj : Int) - 1))) d xs t (.slice (some ⟨g, 0, none⟩) xs.length vc) (fun i => if i = jj then (Rule.rest (sys xs) t jj : Int) - 1 else (Rule.rest (sys xs) t i : Int))) := HO15.out.less jj _ (by omega)
            have HJJ : Hid (oc = jj + 1) := hjj
            obtain ⟨RJ, hRJ⟩ : ∃ RJ, Rule.rest (sys xs) t jj = RJ := ⟨_, rfl⟩
            have HRJ : Hid (Rule.rest (sys xs) t jj = RJ) := hRJ
            rw [hRJ] at x1 hrl HNX
            clear hrow hjj hRJ hoz
            subst hat0
            have hat1 : (0 : Int) ≤ (jj : Int) := by omega
            go_wp2
            go_roundw
            case rel =>
              refine ⟨t + 1, un, _, t, _, by omega, by omega, by go_num, rfl, rfl, ?_, by omega, HNX.out, fun e => by omega, fun _ i hi => ?_⟩
              · intro hlt
                have := HNU.out hlt
                omega
              · rw [Nat.add_sub_cancel, HOC.out]
                by_cases e : i = jj
                · subst e; rw [if_pos rfl, if_pos HJJ.out, HRJ.out]
                · rw [if_neg e, if_neg (by have := HJJ.out; omega)]; omega
            case measure => simp [intOf]; omega
        · have hq' : decide ((t : Int) < ui) = false := decide_eq_false hq
          go_upto_region 25 with (first
            | (go_at_call 14; refine rr.mono ?_; rintro e w10 ⟨v10, rfl, ⟨a10, c10, hv10⟩, hrd10, hk10⟩; subst hv10; have HO10 : Hid (Orl w w10 d xs t (.slice va xs.length vc) (fun i => (Rule.rest (sys xs) t i : Int))) := HO9.out.keep hk10; have sm := sameInts_rd w10 hrd10 HO10.out.rd hn; clear hrd10 hk10 rr)
            | (go_at_call 13; refine sm.mono ?_; rintro e w11 ⟨rfl, hk11⟩; have HO11 : Hid (Orl w w11 d xs t (.slice va xs.length vc) (fun i => (Rule.rest (sys xs) t i : Int))) := HO10.out.keep hk11; have oo := HCO.out w11 HO11.out; clear hk11 sm)
            | (go_at_call 15; refine oo.mono ?_; rintro e w12 ⟨rfl, hk12⟩; have HO12 : Hid (Orl w w12 d xs t (.slice va xs.length vc) (fun i => (Rule.rest (sys xs) t i : Int))) := HO11.out.keep hk12; have u1 := HCU.out w12 HO12.out; clear hk12 oo)
            | (go_at_call 16; refine u1.mono ?_; rintro e w13 ⟨rfl, hk13⟩; have HO13 : Hid (Orl w w13 d xs t (.slice va xs.length vc) (fun i => (Rule.rest (sys xs) t i : Int))) := HO12.out.keep hk13; have u2 := HCU.out w13 HO13.out; clear hk13 u1)
            | (go_at_call 16; refine u2.mono ?_; rintro e w14 ⟨rfl, hk14⟩; have HO14 : Hid (Orl w w14 d xs t (.slice va xs.length vc) (fun i => (Rule.rest (sys xs) t i : Int))) := HO13.out.keep hk14; have u3 := HCU.out w14 HO14.out; clear hk14 u2))
          go_upto_region 26 with (go_at_call 16; refine u3.mono ?_; rintro e w15 ⟨rfl, hk15⟩; have HO15 : Hid (Orl w w15 d xs t (.slice va xs.length vc) (fun i => (Rule.rest (sys xs) t i : Int))) := HO14.out.keep hk15; clear hk15 u3)
          clear HCU HCO HCR
          by_cases hoz : oc = 0
          · have HOZ : Hid (oc = 0) := hoz
            have hat : decide ((0 : Int) ≤ A) = false := decide_eq_false (by have := HA.out; omega)
            have hat2 : ¬ (0 : Int) ≤ A := by have := HA.out; omega
            clear hoz
            go_wp2
            go_roundw
            case rel => exact ⟨t + 1, un, A, t, _, by omega, by omega, by go_num, rfl, rfl, (fun hlt => by rw [← HA.out]; exact HNU.out hlt), by omega, HO15.out, fun e => by omega, fun _ i hi => by rw [Nat.add_sub_cancel, HOC.out, if_neg (by have := HOZ.out; omega)]; omega⟩
            case measure => simp [intOf]; omega
          · obtain ⟨jj, hjj⟩ : ∃ jj, oc = jj + 1 := ⟨oc - 1, by omega⟩
            have hjn : jj < xs.length := by omega
            have hat0 : A = (jj : Int) := by have := HA.out; omega
            obtain ⟨g, hgE⟩ : ∃ g, va = some ⟨g, 0, none⟩ := by
              obtain ⟨R, _, _, ⟨h1, h0⟩ | ⟨g, c, h1, _⟩⟩ := HO15.out.ex
              · omega
              · injection h1 with h1 _ _; exact ⟨g, h1⟩
            subst hgE
            have hrow : Ct w15 g xs.length (fun i => (Rule.rest (sys xs) t i : Int)) := by
              obtain ⟨R, _, _, ⟨h1, h0⟩ | ⟨g', c, h1, _, _, h2, _⟩⟩ := HO15.out.ex
              · omega
              · injection h1 with h1 _ _; injection h1 with h1; injection h1 with h1 _ _; subst h1; exact h2
            have x1 := hrow.at' jj hjn
            have x2 := hrow.fz jj
            have hrl : Rule.rest (sys xs) t jj ≤ 1048576 := by have := Rule.rest_le (sys xs) t jj; have := HV.out.bd.bud jj hjn; omega
            have HNX : Hid (Orl w (w15.setCell ⟨g, jj, none⟩ (.int .i64 ((Rule.rest (sys xs) t jj : Int) - 1))) d xs t (.slice (some ⟨g, 0, none⟩) xs.length vc) (fun i => if i = jj then (Rule.rest (sys xs) t jj : Int) - 1 else (Rule.rest (sys xs) t i : Int))) := HO15.out.less jj _ (by omega)
            have HJJ : Hid (oc = jj + 1) := hjj
            obtain ⟨RJ, hRJ⟩ : ∃ RJ, Rule.rest (sys xs) t jj = RJ := ⟨_, rfl⟩
            have HRJ : Hid (Rule.rest (sys xs) t jj = RJ) := hRJ
            rw [hRJ] at x1 hrl HNX
            clear hrow hjj hRJ hoz
            subst hat0
            have hat1 : (0 : Int) ≤ (jj : Int) := by omega
            go_wp2
            go_roundw
            case rel =>
              refine ⟨t + 1, un, _, t, _, by omega, by omega, by go_num, rfl, rfl, ?_, by omega, HNX.out, fun e => by omega, fun _ i hi => ?_⟩
              · intro hlt
                have := HNU.out hlt
                omega
              · rw [Nat.add_sub_cancel, HOC.out]
                by_cases e : i = jj
                · subst e; rw [if_pos rfl, if_pos HJJ.out, HRJ.out]
                · rw [if_neg e, if_neg (by have := HJJ.out; omega)]; omega
            case measure => simp [intOf]; omega
      · have htu' : (u : Int) < (t : Int) := by omega
        have HTU : Hid (¬ t = u) := htu
        clear htu
        go_upto_region 22 with (go_at_call 18; refine rl.mono ?_; rintro e w8 ⟨v8, rfl, hri, hk8⟩; have HO8 : Hid (Orl w w8 d xs t v8 (fun i => (Rule.rest (sys xs) t i : Int))) := (HO7.out.row hk8 hri).like HRL.out; obtain ⟨a8, c8, hv8⟩ := HO8.out.sl; subst hv8; clear hri hk8 rl)
        have fi := firstR_any (r := Rule.rest (sys xs) t) w8 (HS.out.keep HO8.out.kp) hn HO8.out.rd (fun i hi => by have := Rule.rest_le (sys xs) t i; have := HV.out.bd.bud i hi; omega)
        have hfe : ((Rule.pick (sys xs) (Rule.rest (sys xs) t) xs.length : Int) - 1) = (Rule.occ (sys xs) t : Int) - 1 := rfl
        rw [hfe] at fi
        clear hfe
        obtain ⟨A, hA⟩ : ∃ A, (Rule.occ (sys xs) t : Int) - 1 = A := ⟨_, rfl⟩
        rw [hA] at fi
        have HA : Hid ((Rule.occ (sys xs) t : Int) - 1 = A) := hA
        clear hA
        have hocl : Rule.occ (sys xs) t ≤ xs.length := Rule.occ_le (sys xs) t
        have HCU : Hid (∀ W, Orl w W d xs t (.slice a8 xs.length c8) (fun i => (Rule.rest (sys xs) t i : Int)) → Calls Tryz.prog 16 #[.pointer (some ⟨d, 0, none⟩)] W fun e w' => e = .returned (.int .i64 (Rule.until' (sys xs) t)) ∧ Kept No W w') := fun W ho => by
          obtain ⟨R, q1, _⟩ := ho.ex
          exact until_dn HV.out q1 hg2
        have HCO : Hid (∀ W, Orl w W d xs t (.slice a8 xs.length c8) (fun i => (Rule.rest (sys xs) t i : Int)) → Calls Tryz.prog 15 #[.pointer (some ⟨d, 0, none⟩)] W fun e w' => e = .returned (.int .i64 (Rule.occ (sys xs) t)) ∧ Kept No W w') := fun W ho => by
          obtain ⟨R, q1, _⟩ := ho.ex
          exact occ_dn HV.out q1
        have HCR : Hid (∀ W, Orl w W d xs t (.slice a8 xs.length c8) (fun i => (Rule.rest (sys xs) t i : Int)) → Calls Tryz.prog 14 #[.pointer (some ⟨d, 0, none⟩)] W fun e w' => ∃ v, e = .returned v ∧ (∃ a c, v = .slice a xs.length c) ∧ Rd0 w' v xs.length (fun i => (Rule.rest (sys xs) t i : Int)) ∧ Kept No W w') := fun W ho => by
          obtain ⟨R, q1, _⟩ := ho.ex
          exact (rests_dn HV.out q1).mono (by rintro e w' ⟨g, c, rfl, _, z1, z2, z3, z4⟩; exact ⟨_, rfl, ⟨_, _, rfl⟩, .inr ⟨g, c, rfl, z1, z2, z3⟩, z4⟩)
        have hun1 := Rule.until_gt HV.out.bd.ok (s := sys xs) (t := t) hg2
        have hun2 := Rule.until_le (sys xs) t
        have HNU : Hid (((t + 1 : Nat) : Int) < (Rule.until' (sys xs) t : Int) → (Rule.occ (sys xs) t : Int) - 1 = (Rule.occ (sys xs) (t + 1) : Int) - 1) := fun hlt => by
          obtain ⟨y1, y2, _⟩ := Rule.until_rel HV.out.bd.ok (s := sys xs) (t := t) (m := 2) (by omega)
          have := (Rule.stretch HV.out.bd.ok y1 y2 1 (by omega)).1
          rw [this]
        go_upto_region 23 with (go_at_call 19; refine fi.mono ?_; rintro e w9 ⟨rfl, hk9⟩; have HO9 : Hid (Orl w w9 d xs t (.slice a8 xs.length c8) (fun i => (Rule.rest (sys xs) t i : Int))) := HO8.out.keep hk9; clear hk9 fi)
        have rr := HCR.out w9 HO9.out
        have HLS : Hid ((t : Int) < ui → li = (Rule.occ (sys xs) t : Int) - 1) := HU.out
        generalize hoc : Rule.occ (sys xs) t = oc at *
        generalize Rule.until' (sys xs) t = un at *
        have HOC : Hid (Rule.occ (sys xs) t = oc) := hoc
        clear hoc
        have eO : A + 1 = (oc : Int) := by have := HA.out; omega
        have hA0 : -1 ≤ A ∧ A ≤ 32 := by have := HA.out; omega
        have hd1 : decide ((un : Int) ≤ (t : Int)) = false := decide_eq_false (by omega)
        have hd2 : decide (un ≤ t) = false := decide_eq_false (by omega)
        have hd3 : decide ((1099511627776 : Int) < (un : Int)) = false := decide_eq_false (by omega)
        have hle1 : ¬ (un : Int) ≤ (t : Int) := by omega
        have hle2 : ¬ (1099511627776 : Int) < (un : Int) := by omega
        by_cases hq : (t : Int) < ui
        · have hli : A = li := by rw [← HA.out]; exact (HLS.out hq).symm
          subst hli
          go_upto_region 25 with (first
            | (go_at_call 14; refine rr.mono ?_; rintro e w10 ⟨v10, rfl, ⟨a10, c10, hv10⟩, hrd10, hk10⟩; subst hv10; have HO10 : Hid (Orl w w10 d xs t (.slice a8 xs.length c8) (fun i => (Rule.rest (sys xs) t i : Int))) := HO9.out.keep hk10; have sm := sameInts_rd w10 hrd10 HO10.out.rd hn; clear hrd10 hk10 rr)
            | (go_at_call 13; refine sm.mono ?_; rintro e w11 ⟨rfl, hk11⟩; have HO11 : Hid (Orl w w11 d xs t (.slice a8 xs.length c8) (fun i => (Rule.rest (sys xs) t i : Int))) := HO10.out.keep hk11; have oo := HCO.out w11 HO11.out; clear hk11 sm)
            | (go_at_call 15; refine oo.mono ?_; rintro e w12 ⟨rfl, hk12⟩; have HO12 : Hid (Orl w w12 d xs t (.slice a8 xs.length c8) (fun i => (Rule.rest (sys xs) t i : Int))) := HO11.out.keep hk12; have u1 := HCU.out w12 HO12.out; clear hk12 oo)
            | (go_at_call 16; refine u1.mono ?_; rintro e w13 ⟨rfl, hk13⟩; have HO13 : Hid (Orl w w13 d xs t (.slice a8 xs.length c8) (fun i => (Rule.rest (sys xs) t i : Int))) := HO12.out.keep hk13; have u2 := HCU.out w13 HO13.out; clear hk13 u1)
            | (go_at_call 16; refine u2.mono ?_; rintro e w14 ⟨rfl, hk14⟩; have HO14 : Hid (Orl w w14 d xs t (.slice a8 xs.length c8) (fun i => (Rule.rest (sys xs) t i : Int))) := HO13.out.keep hk14; have u3 := HCU.out w14 HO14.out; clear hk14 u2))
          go_upto_region 26 with (go_at_call 16; refine u3.mono ?_; rintro e w15 ⟨rfl, hk15⟩; have HO15 : Hid (Orl w w15 d xs t (.slice a8 xs.length c8) (fun i => (Rule.rest (sys xs) t i : Int))) := HO14.out.keep hk15; clear hk15 u3)
          clear HCU HCO HCR
          by_cases hoz : oc = 0
          · have HOZ : Hid (oc = 0) := hoz
            have hat : decide ((0 : Int) ≤ A) = false := decide_eq_false (by have := HA.out; omega)
            have hat2 : ¬ (0 : Int) ≤ A := by have := HA.out; omega
            clear hoz
            go_wp2
            go_roundw
            case rel => exact ⟨t + 1, un, A, t, _, by omega, by omega, by go_num, rfl, rfl, (fun hlt => by rw [← HA.out]; exact HNU.out hlt), by omega, HO15.out, fun e => by omega, fun _ i hi => by rw [Nat.add_sub_cancel, HOC.out, if_neg (by have := HOZ.out; omega)]; omega⟩
            case measure => simp [intOf]; omega
          · obtain ⟨jj, hjj⟩ : ∃ jj, oc = jj + 1 := ⟨oc - 1, by omega⟩
            have hjn : jj < xs.length := by omega
            have hat0 : A = (jj : Int) := by have := HA.out; omega
            obtain ⟨g, hgE⟩ : ∃ g, a8 = some ⟨g, 0, none⟩ := by
              obtain ⟨R, _, _, ⟨h1, h0⟩ | ⟨g, c, h1, _⟩⟩ := HO15.out.ex
              · omega
              · injection h1 with h1 _ _; exact ⟨g, h1⟩
            subst hgE
            have hrow : Ct w15 g xs.length (fun i => (Rule.rest (sys xs) t i : Int)) := by
              obtain ⟨R, _, _, ⟨h1, h0⟩ | ⟨g', c, h1, _, _, h2, _⟩⟩ := HO15.out.ex
              · omega
              · injection h1 with h1 _ _; injection h1 with h1; injection h1 with h1 _ _; subst h1; exact h2
            have x1 := hrow.at' jj hjn
            have x2 := hrow.fz jj
            have hrl : Rule.rest (sys xs) t jj ≤ 1048576 := by have := Rule.rest_le (sys xs) t jj; have := HV.out.bd.bud jj hjn; omega
            have HNX : Hid (Orl w (w15.setCell ⟨g, jj, none⟩ (.int .i64 ((Rule.rest (sys xs) t jj : Int) - 1))) d xs t (.slice (some ⟨g, 0, none⟩) xs.length c8) (fun i => if i = jj then (Rule.rest (sys xs) t jj : Int) - 1 else (Rule.rest (sys xs) t i : Int))) := HO15.out.less jj _ (by omega)
            have HJJ : Hid (oc = jj + 1) := hjj
            obtain ⟨RJ, hRJ⟩ : ∃ RJ, Rule.rest (sys xs) t jj = RJ := ⟨_, rfl⟩
            have HRJ : Hid (Rule.rest (sys xs) t jj = RJ) := hRJ
            rw [hRJ] at x1 hrl HNX
            clear hrow hjj hRJ hoz
            subst hat0
            have hat1 : (0 : Int) ≤ (jj : Int) := by omega
            go_wp2
            go_roundw
            case rel =>
              refine ⟨t + 1, un, _, t, _, by omega, by omega, by go_num, rfl, rfl, ?_, by omega, HNX.out, fun e => by omega, fun _ i hi => ?_⟩
              · intro hlt
                have := HNU.out hlt
                omega
              · rw [Nat.add_sub_cancel, HOC.out]
                by_cases e : i = jj
                · subst e; rw [if_pos rfl, if_pos HJJ.out, HRJ.out]
                · rw [if_neg e, if_neg (by have := HJJ.out; omega)]; omega
            case measure => simp [intOf]; omega
        · have hq' : decide ((t : Int) < ui) = false := decide_eq_false hq
          go_upto_region 25 with (first
            | (go_at_call 14; refine rr.mono ?_; rintro e w10 ⟨v10, rfl, ⟨a10, c10, hv10⟩, hrd10, hk10⟩; subst hv10; have HO10 : Hid (Orl w w10 d xs t (.slice a8 xs.length c8) (fun i => (Rule.rest (sys xs) t i : Int))) := HO9.out.keep hk10; have sm := sameInts_rd w10 hrd10 HO10.out.rd hn; clear hrd10 hk10 rr)
            | (go_at_call 13; refine sm.mono ?_; rintro e w11 ⟨rfl, hk11⟩; have HO11 : Hid (Orl w w11 d xs t (.slice a8 xs.length c8) (fun i => (Rule.rest (sys xs) t i : Int))) := HO10.out.keep hk11; have oo := HCO.out w11 HO11.out; clear hk11 sm)
            | (go_at_call 15; refine oo.mono ?_; rintro e w12 ⟨rfl, hk12⟩; have HO12 : Hid (Orl w w12 d xs t (.slice a8 xs.length c8) (fun i => (Rule.rest (sys xs) t i : Int))) := HO11.out.keep hk12; have u1 := HCU.out w12 HO12.out; clear hk12 oo)
            | (go_at_call 16; refine u1.mono ?_; rintro e w13 ⟨rfl, hk13⟩; have HO13 : Hid (Orl w w13 d xs t (.slice a8 xs.length c8) (fun i => (Rule.rest (sys xs) t i : Int))) := HO12.out.keep hk13; have u2 := HCU.out w13 HO13.out; clear hk13 u1)
            | (go_at_call 16; refine u2.mono ?_; rintro e w14 ⟨rfl, hk14⟩; have HO14 : Hid (Orl w w14 d xs t (.slice a8 xs.length c8) (fun i => (Rule.rest (sys xs) t i : Int))) := HO13.out.keep hk14; have u3 := HCU.out w14 HO14.out; clear hk14 u2))
          go_upto_region 26 with (go_at_call 16; refine u3.mono ?_; rintro e w15 ⟨rfl, hk15⟩; have HO15 : Hid (Orl w w15 d xs t (.slice a8 xs.length c8) (fun i => (Rule.rest (sys xs) t i : Int))) := HO14.out.keep hk15; clear hk15 u3)
          clear HCU HCO HCR
          by_cases hoz : oc = 0
          · have HOZ : Hid (oc = 0) := hoz
            have hat : decide ((0 : Int) ≤ A) = false := decide_eq_false (by have := HA.out; omega)
            have hat2 : ¬ (0 : Int) ≤ A := by have := HA.out; omega
            clear hoz
            go_wp2
            go_roundw
            case rel => exact ⟨t + 1, un, A, t, _, by omega, by omega, by go_num, rfl, rfl, (fun hlt => by rw [← HA.out]; exact HNU.out hlt), by omega, HO15.out, fun e => by omega, fun _ i hi => by rw [Nat.add_sub_cancel, HOC.out, if_neg (by have := HOZ.out; omega)]; omega⟩
            case measure => simp [intOf]; omega
          · obtain ⟨jj, hjj⟩ : ∃ jj, oc = jj + 1 := ⟨oc - 1, by omega⟩
            have hjn : jj < xs.length := by omega
            have hat0 : A = (jj : Int) := by have := HA.out; omega
            obtain ⟨g, hgE⟩ : ∃ g, a8 = some ⟨g, 0, none⟩ := by
              obtain ⟨R, _, _, ⟨h1, h0⟩ | ⟨g, c, h1, _⟩⟩ := HO15.out.ex
              · omega
              · injection h1 with h1 _ _; exact ⟨g, h1⟩
            subst hgE
            have hrow : Ct w15 g xs.length (fun i => (Rule.rest (sys xs) t i : Int)) := by
              obtain ⟨R, _, _, ⟨h1, h0⟩ | ⟨g', c, h1, _, _, h2, _⟩⟩ := HO15.out.ex
              · omega
              · injection h1 with h1 _ _; injection h1 with h1; injection h1 with h1 _ _; subst h1; exact h2
            have x1 := hrow.at' jj hjn
            have x2 := hrow.fz jj
            have hrl : Rule.rest (sys xs) t jj ≤ 1048576 := by have := Rule.rest_le (sys xs) t jj; have := HV.out.bd.bud jj hjn; omega
            have HNX : Hid (Orl w (w15.setCell ⟨g, jj, none⟩ (.int .i64 ((Rule.rest (sys xs) t jj : Int) - 1))) d xs t (.slice (some ⟨g, 0, none⟩) xs.length c8) (fun i => if i = jj then (Rule.rest (sys xs) t jj : Int) - 1 else (Rule.rest (sys xs) t i : Int))) := HO15.out.less jj _ (by omega)
            have HJJ : Hid (oc = jj + 1) := hjj
            obtain ⟨RJ, hRJ⟩ : ∃ RJ, Rule.rest (sys xs) t jj = RJ := ⟨_, rfl⟩
            have HRJ : Hid (Rule.rest (sys xs) t jj = RJ) := hRJ
            rw [hRJ] at x1 hrl HNX
            clear hrow hjj hRJ hoz
            subst hat0
            have hat1 : (0 : Int) ≤ (jj : Int) := by omega
            go_wp2
            go_roundw
            case rel =>
              refine ⟨t + 1, un, _, t, _, by omega, by omega, by go_num, rfl, rfl, ?_, by omega, HNX.out, fun e => by omega, fun _ i hi => ?_⟩
              · intro hlt
                have := HNU.out hlt
                omega
              · rw [Nat.add_sub_cancel, HOC.out]
                by_cases e : i = jj
                · subst e; rw [if_pos rfl, if_pos HJJ.out, HRJ.out]
                · rw [if_neg e, if_neg (by have := HJJ.out; omega)]; omega
            case measure => simp [intOf]; omega
    · have HE : Hid (Kept No w wr) := HOR.out.1.kp
      by_cases hg1 : (t : Int) < (u : Int) + tk
      · have hg2 : ¬ (t : Int) < 1099511627776 := fun h => hgo ⟨hg1, by omega⟩
        clear hgo
        go_wp2
        go_ret
        exact ⟨rfl, HE.out.below0⟩
      · clear hgo
        go_wp2
        go_ret
        exact ⟨rfl, HE.out.below0⟩
theorem orule_law {F : Nat → Prop} {a : Option Addr} {c : Nat} {xs : List Srv} (fr tk : Int) (w : World) (hg : Gl w) (h : Sv w F a xs.length c xs) (hk6 : I6 tk) :
    Calls Tryz.prog 6 #[.slice a xs.length c, .int .i64 fr, .int .i64 tk] w fun e w' => e = .returned (.bool true) ∧ Below w.heap.size w w' := by
  by_cases hk : 400 < tk
  · exact orule_many _ _ _ fr tk w hg hk
  · cases htm : timF xs xs.length with
    | some p => exact orule_none fr tk w hg h htm hk
    | none =>
      by_cases hb : fr < 0 ∨ 1099511627775 < fr
      · exact orule_bad fr tk w hg h htm hk hb
      · obtain ⟨u, rfl⟩ : ∃ u : Nat, fr = (u : Int) := ⟨fr.toNat, by omega⟩
        exact orule_in u tk w hg h htm hk hk6 (by omega)
end Go.Proofs.YtffgcijicmfmlaaGreatDoor
