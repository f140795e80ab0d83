/-
  Runs: the occupants of a span, as slots.
-/
import Derived.Test.YthdmbikmjimmkaaGreatDoorOSupply
namespace Go.Proofs.YthdmbikmjimmkaaGreatDoor
open Go.RowKit Go.Shelf Plain
set_option linter.unusedVariables false
set_option maxRecDepth 100000

namespace Rule
theorem joinL_len (L : List (Nat × Nat)) (x : Nat × Nat) : L.length ≤ (joinL L x).length ∧ (joinL L x).length ≤ L.length + 1 := by
  rcases List.eq_nil_or_concat L with rfl | ⟨K, y, rfl⟩
  · rw [joinL_nil]; simp
  · rw [List.concat_eq_append, joinL_snoc]
    split <;> simp
theorem runsOf_len (f : Nat → Nat) (a m k : Nat) : (runsOf f a m).length ≤ (runsOf f a (m + k)).length := by
  induction k with
  | zero => exact Nat.le_refl _
  | succ k ih =>
    have := (joinL_len (runsOf f a (m + k)) (1, f (a + (m + k)))).1
    show _ ≤ (joinL (runsOf f a (m + k)) (1, f (a + (m + k)))).length
    omega
end Rule

/-- a list that is not too long yet; one that is -/
def Few (f : Nat → Nat) (a0 base bx : Nat) : St := fun q W S => Lst f a0 base bx q W S ∧ (Rule.runsOf f a0 (q - a0)).length ≤ 65536
def Many (f : Nat → Nat) (a0 b base bx : Nat) : St := fun q W S => Lst f a0 base bx q W S ∧ q ≤ b ∧ 65536 < (Rule.runsOf f a0 (q - a0)).length ∧ (Rule.runsOf f a0 (q - a0)).length ≤ 65537
theorem Few.hangs (f : Nat → Nat) (a0 base bx : Nat) : Hangs (Few f a0 base bx) :=
  ⟨fun q W S h => (Lst.hangs f a0 base bx).old q W S h.1, fun q W W' S h h1 h2 => ⟨(Lst.hangs f a0 base bx).kept q W W' S h.1 h1 h2, h.2⟩⟩
theorem Many.hangs (f : Nat → Nat) (a0 b base bx : Nat) : Hangs (Many f a0 b base bx) :=
  ⟨fun q W S h => (Lst.hangs f a0 base bx).old q W S h.1, fun q W W' S h h1 h2 => ⟨(Lst.hangs f a0 base bx).kept q W W' S h.1 h1 h2, h.2⟩⟩
theorem Few.keep {f : Nat → Nat} {a0 base bx q : Nat} {w w' : World} {S : Nat → Prop} (h : Few f a0 base bx q w S) (hk : Kept No w w') : Few f a0 base bx q w' S := ⟨h.1.keep hk, h.2⟩
theorem ow_len {w : World} {base : Nat} {a : Option Addr} {n c : Nat} {L : List (Nat × Nat)} (h : Ow w base (.slice a n c) L) : n = L.length := by
  obtain ⟨_, ⟨h, h0⟩ | ⟨g, cap, cur, h, _⟩⟩ := h
  · injection h with _ h _; omega
  · injection h with _ h _

set_option maxHeartbeats 1000000 in
theorem runs1_does (f : Nat → Nat) (a0 b base bx : Nat) (hb : b ≤ 1099511627776) : Does Tryz.prog 21 #[.pointer (some ⟨bx, 0, none⟩)] f b (Few f a0 base bx) (Many f a0 b base bx) := by
  intro q len W S hI h1 h2 h3
  obtain ⟨⟨v, rfl, hq, hbx, ho, hbs, hne⟩, hfew⟩ := hI
  have c0 := cell_box hbx
  have HB : Hid (W.heap[bx]? = some (.cells #[v] 29) ∧ Ow W base v (Rule.runsOf f a0 (q - a0)) ∧ base ≤ W.heap.size ∧ v.ownBlock ≠ some bx) := ⟨hbx, ho, hbs, hne⟩
  have HL : Hid (∀ W', Kept No W W' → Calls Tryz.prog 22 #[v, .agg #[.int .i64 len, .int .i64 (f q)]] W' (Joined W' base v (Rule.runsOf f a0 (q - a0)) (len, f q))) := fun W' hk => join_any base v _ len (f q) W' (hk.owns ho (fun _ _ h => h)) (by have := hk.size; omega) (by omega) (runs_bound _ _ _ _ (by omega) (by omega))
  have HV : Hid (∃ a n c, v = .slice a n c) := ow_slice ho
  have HJ : Hid (Rule.runsOf f a0 (q + len - a0) = Rule.joinL (Rule.runsOf f a0 (q - a0)) (len, f q)) := by
    have e : q + len - a0 = (q - a0) + len := by omega
    show Rule.runsOf f a0 (q + len - a0) = _
    rw [e, Rule.runsOf_join f a0 (q - a0) len (f q) h1 (fun u x y => by rw [show a0 + (q - a0) = q by omega] at x y; exact h3 u x y)]
  have hjl := (Rule.joinL_len (Rule.runsOf f a0 (q - a0)) (len, f q)).2
  have hjl2 : (Rule.joinL (Rule.runsOf f a0 (q - a0)) (len, f q)).length ≤ 65537 := by omega
  obtain ⟨va, vn, vc, hvv⟩ := HV.out
  unfold sv
  have hka : Kept No W (W.alloc (.cells #[.int .i64 len, .int .i64 (f q)] 33)) := (Kept.refl No W).alloc _
  have c1 := hka.cell c0 (fun h => h)
  have hc := HL.out _ hka
  have HKA : Hid (Kept No W (W.alloc (.cells #[.int .i64 len, .int .i64 (f q)] 33))) := hka
  clear hbx ho hbs hne HV c0 HL hka hjl hfew
  subst hvv
  by_cases hlong : 65536 < (Rule.joinL (Rule.runsOf f a0 (q - a0)) (len, f q)).length
  · have HLG : Hid (65536 < (Rule.joinL (Rule.runsOf f a0 (q - a0)) (len, f q)).length) := hlong
    go_enter Tryz.func21, Tryz.ntmps21
    go_wp2_with (go_at_call 22; refine hc.mono ?_; rintro e w1 ⟨v', rfl, ho1, hk1, hn1⟩; obtain ⟨va', vn', vc', hvv'⟩ := ow_slice ho1; subst hvv'; have hvn := ow_len ho1; have hl1 : (65536 : Int) < vn' := (by omega); have hl2 : vn' ≤ 65537 := (by omega); obtain ⟨hbx, ho, hbs, hne⟩ := HB.out; have hb1 := hk1.at' (HKA.out.at' hbx (fun h => h)) hne; have c2 := cell_box hb1; have fz1 : w1.frozen? ⟨bx, 0, none⟩ = false := (by simp [World.frozen?, hb1]); have hkk := joined_kept HKA.out hk1; have HF : Hid (Took (Few f a0 base bx) (Many f a0 b base bx) (q + len) W (fun k => k = bx ∨ (Value.slice va vn vc).ownBlock = some k) (.returned (.bool false)) (w1.setCell ⟨bx, 0, none⟩ (.slice va' vn' vc'))) := (by obtain ⟨S', z1, z2, z3⟩ := Lst.next hq h1 h3 hbx hbs hne ho1 hkk (fun k hk => by rcases hn1 k hk with h | h; exact .inl h; exact .inr (by have := HKA.out.size; omega)); exact ⟨S', z1, z2, .inr ⟨rfl, z3, h2, by rw [HJ.out]; exact HLG.out, by rw [HJ.out]; exact hjl2⟩⟩); clear ho1 hk1 hn1 hbx ho hbs hne hb1 hkk hc hvn hlong)
    go_ret
    show Took _ _ _ _ _ (.returned (.bool (decide ((vn' : Int) ≤ 65536)))) _
    rw [decide_eq_false (by omega)]
    exact HF.out
  · have HLG : Hid (¬ 65536 < (Rule.joinL (Rule.runsOf f a0 (q - a0)) (len, f q)).length) := hlong
    go_enter Tryz.func21, Tryz.ntmps21
    go_wp2_with (go_at_call 22; refine hc.mono ?_; rintro e w1 ⟨v', rfl, ho1, hk1, hn1⟩; obtain ⟨va', vn', vc', hvv'⟩ := ow_slice ho1; subst hvv'; have hvn := ow_len ho1; have hl1 : (vn' : Int) ≤ 65536 := (by omega); obtain ⟨hbx, ho, hbs, hne⟩ := HB.out; have hb1 := hk1.at' (HKA.out.at' hbx (fun h => h)) hne; have c2 := cell_box hb1; have fz1 : w1.frozen? ⟨bx, 0, none⟩ = false := (by simp [World.frozen?, hb1]); have hkk := joined_kept HKA.out hk1; have HF : Hid (Took (Few f a0 base bx) (Many f a0 b base bx) (q + len) W (fun k => k = bx ∨ (Value.slice va vn vc).ownBlock = some k) (.returned (.bool true)) (w1.setCell ⟨bx, 0, none⟩ (.slice va' vn' vc'))) := (by obtain ⟨S', z1, z2, z3⟩ := Lst.next hq h1 h3 hbx hbs hne ho1 hkk (fun k hk => by rcases hn1 k hk with h | h; exact .inl h; exact .inr (by have := HKA.out.size; omega)); exact ⟨S', z1, z2, .inl ⟨rfl, z3, by rw [HJ.out]; have := HLG.out; omega⟩⟩); clear ho1 hk1 hn1 hbx ho hbs hne hb1 hkk hc hvn hlong)
    go_ret
    exact HF.out

/-- what is told in the end -/
theorem few_many {f : Nat → Nat} {a0 b base bx : Nat} {W : World} {S : Nat → Prop} (hab : a0 ≤ b) (h : Few f a0 base bx b W S ∨ ∃ q, Many f a0 b base bx q W S) :
    ∃ v L, W.heap[bx]? = some (.cells #[v] 29) ∧ Ow W base v L ∧ L.length ≤ 65537 ∧ (L.length ≤ 65536 → L = Rule.runsOf f a0 (b - a0)) ∧ (65536 < L.length → 65536 < (Rule.runsOf f a0 (b - a0)).length) := by
  rcases h with ⟨⟨v, rfl, hq, hbx, ho, hbs, hne⟩, hf⟩ | ⟨q, ⟨v, rfl, hq, hbx, ho, hbs, hne⟩, hqb, hm, hm2⟩
  · exact ⟨v, _, hbx, ho, by omega, fun _ => rfl, fun h => h⟩
  · refine ⟨v, _, hbx, ho, hm2, fun h => by omega, fun _ => ?_⟩
    have := Rule.runsOf_len f a0 (q - a0) (b - q)
    rw [show q - a0 + (b - q) = b - a0 by omega] at this
    omega

set_option maxHeartbeats 2000000 in
theorem runs_yes {F : Nat → Prop} {a : Option Addr} {c : Nat} {xs : List Srv} (fr below : Nat) (w : World) (hg : Gl w) (h : Sv w F a xs.length c xs) (hF : ∀ k, F k → k < w.heap.size) (ht : timF xs xs.length = none) (hfb : fr ≤ below) (hb : below ≤ 1099511627776) :
    Calls Tryz.prog 7 #[.slice a xs.length c, .int .i64 fr, .int .i64 below] w fun e w' => Kept No w w' ∧ ((∃ v, (Rule.runsOf (Rule.occ (sys xs)) fr (below - fr)).length ≤ 65536 ∧ e = .returned (.tuple #[v, .int .i64 0]) ∧ Ow w' w.heap.size v (Rule.runsOf (Rule.occ (sys xs)) fr (below - fr))) ∨ (65536 < (Rule.runsOf (Rule.occ (sys xs)) fr (below - fr)).length ∧ e = .returned (.tuple #[.slice none 0 0, .int .i64 1]))) := by
  have hv := vd_of ht
  have hc := hyper_any F a xs.length c xs w hg h
  rw [(tim_yes ht).1, (tim_yes ht).2] at hc
  have hti := fun W => isSpan_yes fr below W hfb hb
  have HS : Hid (Sv w F a xs.length c xs ∧ (∀ k, F k → k < w.heap.size)) := ⟨h, hF⟩
  have HV : Hid (Vd xs) := hv
  clear h hF hg ht hv
  go_enter Tryz.func7, Tryz.ntmps7
  go_upto_region 6 with (first
    | (go_at_call 4; refine hc.mono ?_; rintro e w1 ⟨rfl, hk1⟩; have HK1 : Hid (Kept No w w1) := hk1; clear hk1 hc)
    | (go_at_call 18; refine (hti _).mono ?_; rintro e w2 ⟨rfl, hw2⟩; obtain rfl := hw2.symm))
  go_upto_region 7 with fail
  have k3 : Kept No w1 (w1.alloc (.cells #[.slice none 0 0] 29)) := (Kept.refl No w1).alloc _
  have kw3 : Kept No w (w1.alloc (.cells #[.slice none 0 0] 29)) := HK1.out.trans k3 (fun _ h => h.elim)
  have hs3 := HS.out.1.keep kw3
  have hF3 : ∀ k, F k → k < (w1.alloc (.cells #[.slice none 0 0] 29)).heap.size := fun k hk => by have := HS.out.2 k hk; have := kw3.size; omega
  have sz3 : (w1.alloc (.cells #[.slice none 0 0] 29)).heap.size = w1.heap.size + 1 := by simp
  have hst := lst_start (Rule.occ (sys xs)) fr w1
  have HF1 : Hid (∀ k, F k → k < w1.heap.size) := fun k hk => by have := HS.out.2 k hk; have := HK1.out.size; omega
  clear k3
  generalize w1.alloc (.cells #[.slice none 0 0] 29) = w3 at *
  have hgv := within_all HV.out hs3 hF3 fr below hfb hb
  have ksz := wW_size w3 a xs.length c (hyp xs) fr (below : Int)
  have kk := wW_kept w3 a xs.length c (hyp xs) fr (below : Int)
  have hfew : Few (Rule.occ (sys xs)) fr w1.heap.size w1.heap.size fr (wW w3 a xs.length c (hyp xs) fr (below : Int)) (fun k => k = w1.heap.size ∨ (Value.slice none 0 0).ownBlock = some k) := ⟨hst.keep kk, by rw [Nat.sub_self]; exact Nat.zero_le _⟩
  have hcall := each_any (enters_of Tryz.func32 (by kernel_rfl) rfl) (enters_of Tryz.func21 (by kernel_rfl) rfl) hgv (Nat.le_refl _) (fun k hk => ⟨by rcases hk with hk | hk | hk | hk; have := hF3 k hk; omega; omega; omega; omega, rfl⟩) (Few.hangs (Rule.occ (sys xs)) fr w1.heap.size w1.heap.size) (Many.hangs (Rule.occ (sys xs)) fr below w1.heap.size w1.heap.size) hfew (fun k hk hs => by
    have hs' : k = w1.heap.size := by rcases hs with h | h; exact h; simp [Value.ownBlock] at h
    rcases hk with hk | hk | hk | hk
    · have := HF1.out k hk; omega
    · omega
    · omega
    · omega) (runs1_does (Rule.occ (sys xs)) fr below w1.heap.size w1.heap.size hb)
  have hw2 := within_new a xs.length c (hyp xs) fr (below : Int) w3
  have HKK : Hid (Kept No w (wW w3 a xs.length c (hyp xs) fr (below : Int)) ∧ w.heap.size ≤ w1.heap.size) := ⟨kw3.trans kk (fun _ h => h.elim), HK1.out.size⟩
  unfold wlb at hcall
  clear hs3 hF3 sz3 hst hgv ksz kk kw3 hfew
  go_upto_region 8 with (first
    | (go_at_call 20; refine hw2.mono ?_; rintro e w4 ⟨rfl, hw4e⟩; have HW4 : Hid (w4 = wW w3 a xs.length c (hyp xs) fr (below : Int)) := hw4e; have hcall2 := hcall; rw [← HW4.out] at hcall2; clear hw4e hcall hw2)
    | (go_at_call 19; refine hcall2.mono ?_; rintro e w5 ⟨⟨v3, rfl⟩, S', hk5, hm5, hor⟩; clear hcall2; have hfm := few_many hfb hor; have HF : Hid (Kept No w w5 ∧ w.heap.size ≤ w1.heap.size) := (by have k4 := HKK.out.1; rw [← HW4.out] at k4; exact ⟨k4.trans hk5 (fun k h => .inr (by have := HKK.out.2; rcases h with h | h; omega; simp [Value.ownBlock] at h)), HKK.out.2⟩); clear hk5 hm5 hor))
  obtain ⟨v, L, hbx, ho, hl1, hl2, hl3⟩ := hfm
  have hl1' := hl1
  have hown : Ow w5 w.heap.size v L := by
    obtain ⟨e1, e2 | ⟨g, cap, cur, e2, e3, r⟩⟩ := ho
    · exact ⟨e1, .inl e2⟩
    · exact ⟨e1, .inr ⟨g, cap, cur, e2, Nat.le_trans HF.out.2 e3, r⟩⟩
  have HO : Hid (Ow w5 w.heap.size v L) := hown
  obtain ⟨va, vn, vc, hvv⟩ := ow_slice ho
  subst hvv
  have hvn := ow_len ho
  have c5 := cell_box hbx
  clear hbx ho hown
  by_cases hlong : 65536 < L.length
  · have HR : Hid (65536 < (Rule.runsOf (Rule.occ (sys xs)) fr (below - fr)).length) := hl3 hlong
    have hl4 : (65536 : Int) < vn := by omega
    clear hl1 hl2 hl3 hvn hlong
    go_wp2
    go_ret2
    exact ⟨HF.out.1, .inr ⟨HR.out, rfl⟩⟩
  · have e := hl2 (by omega)
    have HR : Hid ((Rule.runsOf (Rule.occ (sys xs)) fr (below - fr)).length ≤ 65536 ∧ Ow w5 w.heap.size (.slice va vn vc) (Rule.runsOf (Rule.occ (sys xs)) fr (below - fr))) := by
      rw [← e]
      exact ⟨by omega, HO.out⟩
    have hl4 : ¬ (65536 : Int) < vn := by omega
    clear hl1 hl2 hl3 hvn hlong e
    go_wp2
    go_ret2
    exact ⟨HF.out.1, .inl ⟨HR.out.1, _, rfl, HR.out.2⟩⟩
end Go.Proofs.YthdmbikmjimmkaaGreatDoor
