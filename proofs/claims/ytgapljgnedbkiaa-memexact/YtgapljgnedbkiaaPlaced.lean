/-
  'memoryPlaced': the calls of one round.
-/
import Derived.Test.YtgapljgnedbkiaaStep3
import Derived.Test.YtgapljgnedbkiaaShelf
namespace Go.Proofs.Ytgapljgnedbkiaa
open Go.RowKit
set_option linter.unusedVariables false

/-- 'append(nil, xs...)' -/
theorem wpList_copy_nil {w : World} {ops : Array Oper} {rest : List Oper} {o : Oper} {a : Act} {Q : Exit → Act → World → Prop} (hgd : o.guard = none) (s x : Operand)
    (ho : o.op = .call { callee := .builtin .append, args := #[s, x], argTypes := #[22, 22] }) (hs : a.eval s = .slice none 0 0) (xa : Option Addr) (n c : Nat) (hx : a.eval x = .slice xa n c)
    (F : Nat → Prop) (xs : List Int) (hz : Zs w F xa n c xs) (hn : n ≤ 17592186043904)
    (h : ∀ ya yc w', Hid (w'.ownsRow w.heap.size 2 1 (.slice ya n yc) n (xs.map iv)) → Hid (Kept No w w') → wpList Try.prog ops Q rest (a.put o.dst (.slice ya n yc)) w') : wpList Try.prog ops Q (o :: rest) a w := by
  obtain ⟨i0, hi, hz0, hz1, hz2⟩ := info_parts Try.info2
  cases xa with
  | none =>
    have hc0 := hz.nil rfl
    have hn0 : n = 0 := by have := hz.cap; omega
    have hx0 : xs = [] := List.eq_nil_of_length_eq_zero (by rw [hz.len]; exact hn0)
    subst hc0 hn0 hx0
    refine wpList_append_own_none hgd s x 22 ho w.heap.size 2 i0 1 Try.underlying22 hi _ _ _ hs (World.ownsRow_nil _ _ _ _) hx ?_
    exact h none 0 w (World.ownsRow_nil _ _ _ _) (Kept.refl _ _)
  | some ad =>
    refine wpList_append_own _ hgd s x 22 ho w.heap.size 2 i0 (.int .i64 0) 1 8 Try.underlying22 hi hz0 hz1 hz2 rfl (by decide) _ 0 [] hs (World.ownsRow_nil _ _ _ _) ad n c (xs.map iv) hx (by rw [List.length_map, hz.len]; omega) hz.news (iv_one _) (by unfold maxLen; omega) (by omega) (Nat.le_refl _) ?_
    intro v1 w1 own1 grow1 _
    rw [Nat.zero_add, List.nil_append] at own1
    obtain ⟨ya, yc, rfl⟩ := owns_shp own1
    exact h ya yc w1 own1 ((Kept.refl No w).grown grow1 (fun k e => by cases e))

theorem Zs.row {w : World} {B n : Nat} {a : Option Addr} {c : Nat} {xs : List Int} (h : w.ownsRow B 2 1 (.slice a n c) n (xs.map iv)) (hl : xs.length = n) : Zs w (fun k => (Value.slice a n c).ownBlock = some k) a n c xs := by
  subst hl
  obtain ⟨a', c', hv, hz⟩ := Zs.of_owns h
  injection hv with q1 q2 q3
  subst q1 q3
  exact hz

/-- the memory, the document's, the data; made since w0, apart -/
structure Pl (w0 : World) (ma xa ea : Option Addr) (mc xc ec n dn : Nat) (ms xs es : List Int) (w : World) : Prop where
  m : w.ownsRow w0.heap.size 2 1 (.slice ma n mc) n (ms.map iv)
  x : w.ownsRow w0.heap.size 2 1 (.slice xa n xc) n (xs.map iv)
  d : w.ownsRow w0.heap.size 2 1 (.slice ea dn ec) dn (es.map iv)
  lm : ms.length = n
  lx : xs.length = n
  le : es.length = dn
  mx : Far (.slice ma n mc) (.slice xa n xc)
  md : Far (.slice ma n mc) (.slice ea dn ec)
  bel : Below w0.heap.size w0 w

namespace Pl
variable {w0 w w' : World} {ma xa ea : Option Addr} {mc xc ec n dn : Nat} {ms xs es : List Int}
theorem kept (h : Pl w0 ma xa ea mc xc ec n dn ms xs es w) (k : Kept No w w') : Pl w0 ma xa ea mc xc ec n dn ms xs es w' :=
  ⟨k.owns h.m (fun _ _ h => h), k.owns h.x (fun _ _ h => h), k.owns h.d (fun _ _ h => h), h.lm, h.lx, h.le, h.mx, h.md, h.bel.trans (k.below (fun _ h => h.elim) h.bel.size)⟩
theorem mm (h : Pl w0 ma xa ea mc xc ec n dn ms xs es w) : Mm w w0.heap.size (.slice ma n mc) ms [] := Mm.of_owns (by rw [h.lm]; exact h.m)
theorem wrote {ys : List Int} (h : Pl w0 ma xa ea mc xc ec n dn ms xs es w) (hm : Mm w' w0.heap.size (.slice ma n mc) ys []) (hl : ys.length = n) (k : Kept (fun k => (Value.slice ma n mc).ownBlock = some k) w w') : Pl w0 ma xa ea mc xc ec n dn ys xs es w' :=
  ⟨(by have := hm.owns; rw [hl] at this; exact this), k.owns h.x (fun g e1 e2 => h.mx g e2 e1), k.owns h.d (fun g e1 e2 => h.md g e2 e1), hl, h.lx, h.le, h.mx, h.md, h.bel.trans (k.below (fun g e => (h.m.lt g e).1) h.bel.size)⟩
end Pl

/-- the memory turned, the document's made anew, the data -/
structure Pm (w0 : World) (ma ea : Option Addr) (mc ec n dn : Nat) (ys es : List Int) (vx : Value) (k : Nat) (w : World) : Prop where
  m : w.ownsRow w0.heap.size 2 1 (.slice ma n mc) n (ys.map iv)
  x : w.ownsRow w0.heap.size 2 1 vx k ((ys.take k).map iv)
  d : w.ownsRow w0.heap.size 2 1 (.slice ea dn ec) dn (es.map iv)
  lm : ys.length = n
  le : es.length = dn
  mx : Far (.slice ma n mc) vx
  md : Far (.slice ma n mc) (.slice ea dn ec)
  dx : Far (.slice ea dn ec) vx
  bel : Below w0.heap.size w0 w

namespace Pm
variable {w0 w w' : World} {ma ea : Option Addr} {mc ec n dn k b : Nat} {ys es : List Int} {vx v' : Value}
/-- a word of the memory turned -/
theorem setm (h : Pm w0 (some ⟨b, 0, none⟩) ea mc ec n dn ys es vx k w) (hk : k < n) (z : Int) : Pm w0 (some ⟨b, 0, none⟩) ea mc ec n dn (ys.set k z) es vx k (w.setCell ⟨b, k, none⟩ (.int .i64 z)) := by
  have hb : w0.heap.size ≤ b := (h.m.lt b rfl).1
  have kp : Kept (fun k => k = b) w (w.setCell ⟨b, k, none⟩ (.int .i64 z)) := (Kept.refl (fun k => k = b) w).setCell (p := ⟨b, k, none⟩) (.inl rfl) _
  refine ⟨owns_seti h.m rfl (by rw [h.lm]; exact hk) z, ?_, kp.owns h.d (fun g e1 e2 => h.md b rfl (by rw [e1, e2])), by rw [List.length_set]; exact h.lm, h.le, h.mx, h.md, h.dx, h.bel.setCell (p := ⟨b, k, none⟩) hb _⟩
  have e : (ys.set k z).take k = ys.take k := by rw [List.take_set, List.set_eq_of_length_le (by simp; omega)]
  rw [e]
  exact kp.owns h.x (fun g e1 e2 => h.mx b rfl (by rw [e1, e2]))
/-- a word of the data turned -/
theorem setd {q : Nat} (h : Pm w0 ma (some ⟨b, 0, none⟩) mc ec n dn ys es vx k w) (hq : q < dn) (z : Int) : Pm w0 ma (some ⟨b, 0, none⟩) mc ec n dn ys (es.set q z) vx k (w.setCell ⟨b, q, none⟩ (.int .i64 z)) := by
  have hb : w0.heap.size ≤ b := (h.d.lt b rfl).1
  have kp : Kept (fun k => k = b) w (w.setCell ⟨b, q, none⟩ (.int .i64 z)) := (Kept.refl (fun k => k = b) w).setCell (p := ⟨b, q, none⟩) (.inl rfl) _
  exact ⟨kp.owns h.m (fun g e1 e2 => h.md g e1 (by rw [e2]; rfl)), kp.owns h.x (fun g e1 e2 => h.dx b rfl (by rw [e1, e2])), owns_seti h.d rfl (by rw [h.le]; exact hq) z, h.lm, by rw [List.length_set]; exact h.le, h.mx, h.md, h.dx, h.bel.setCell (p := ⟨b, q, none⟩) hb _⟩
/-- a word more of the document's -/
theorem more {z : Int} {o : Obj} (h : Pm w0 ma ea mc ec n dn ys es vx k w) (hk : k < n) (hz : ys.getD k 0 = z) (own : w'.ownsRow w0.heap.size 2 1 v' (k + 1) ((ys.take k).map iv ++ [.int .i64 z])) (grow : (w.alloc o).grownBy w' vx.ownBlock) (at1 : v'.ownBlock = vx.ownBlock ∨ v'.ownBlock = some (w.alloc o).heap.size) : Pm w0 ma ea mc ec n dn ys es v' (k + 1) w' := by
  have kp : Kept (fun k => vx.ownBlock = some k) w w' := ((Kept.refl _ w).alloc o).grown grow (fun k e => .inl e)
  have far : ∀ {u : Value} {N : Nat} {zs : List Value}, w.ownsRow w0.heap.size 2 1 u N zs → Far u vx → Far u v' := by
    intro u N zs ho hf g e1 e2
    rcases at1 with h1 | h1
    · exact hf g e1 (by rw [← h1]; exact e2)
    · rw [h1] at e2; injection e2 with e2
      have := (ho.lt g e1).2
      simp at e2
      omega
  refine ⟨kp.owns h.m (fun g e1 e2 => h.mx g e1 e2), ?_, kp.owns h.d (fun g e1 e2 => h.dx g e1 e2), h.lm, h.le, far h.m h.mx, h.md, far h.d h.dx, h.bel.trans (kp.below (fun g e => (h.x.lt g e).1) h.bel.size)⟩
  rw [take_more ys k (by rw [h.lm]; exact hk), List.map_append, hz]
  exact own
end Pm

theorem rdX_all (xs : List Int) : rdX xs 0 xs.length = xs := by simp [rdX]

set_option maxRecDepth 100000 in
set_option maxHeartbeats 4000000 in
theorem memPlaced_any (Fw Fd : Nat → Prop) (A : Int) (wa da : Option Addr) (n wc' dn dc : Nat) (xs ds : List Int) (w : World) (hz : Zs w Fw wa n wc' xs) (hzd : Zs w Fd da dn dc ds) (hn : n ≤ 4096) (hd : dn ≤ 17592186043904) :
    Calls Try.prog 28 #[.slice wa n wc', .int .i64 A, .slice da dn dc] w fun ex w' => ex = .returned (.bool true) ∧ Kept No w w' := by
  obtain ⟨i0, hi, hz0, hz1, hz2⟩ := info_parts Try.info2
  have HL : Hid (xs.length = n ∧ ds.length = dn) := ⟨hz.len, hzd.len⟩
  have HZ : Hid (Zs w Fw wa n wc' xs ∧ Zs w Fd da dn dc ds) := ⟨hz, hzd⟩
  clear hz hzd
  go_enter Try.func28, Try.ntmps28
  go_upto_region 3 with (at_builtin; refine wpList_copy_nil rfl (.tmp 26) (.tmp 27) rfl rfl wa n wc' rfl _ xs HZ.out.1 (by omega) ?_; intro ma mc w1 om1 k1)
  go_upto_region 4 with (at_builtin; refine wpList_copy_nil rfl (.tmp 29) (.tmp 30) rfl rfl wa n wc' rfl _ xs (HZ.out.1.kept k1.out (fun _ _ h => h)) (by omega) ?_; intro xa xc w2 ox2 k2)
  go_wp2_with (at_builtin; refine wpList_copy_nil rfl (.tmp 32) (.tmp 33) rfl rfl da dn dc rfl _ ds ((HZ.out.2.kept k1.out (fun _ _ h => h)).kept k2.out (fun _ _ h => h)) (by omega) ?_; intro ea ec w3 oe3 k3)
  have HP : Hid (Pl w ma xa ea mc xc ec n dn xs xs ds w3) := by
    have om3 := k3.out.owns (k2.out.owns om1.out (fun _ _ h => h)) (fun _ _ h => h)
    have ox3 := k3.out.owns ox2.out (fun _ _ h => h)
    have s1 := k1.out.size
    have s2 := k2.out.size
    exact ⟨om3, owns_base ox3 s1, owns_base oe3.out (Nat.le_trans s1 s2), HL.out.1, HL.out.1, HL.out.2, (fun k e1 e2 => by have := (om1.out.lt k e1).2; have := (ox2.out.lt k e2).1; omega), (fun k e1 e2 => by have := (om1.out.lt k e1).2; have := (oe3.out.lt k e2).1; omega), ((k1.out.trans k2.out (fun k h => h.elim)).trans k3.out (fun k h => h.elim)).below0⟩
  clear k1 k2 k3 om1 ox2 oe3
  go_loopw [8, 10] (fun x i wr => ∃ (j : Nat) (xa : Option Addr) (xc : Nat) (ms es : List Int), j ≤ 2 ∧ i = .int .i64 j ∧ x = .slice xa n xc ∧ Pl w ma xa ea mc xc ec n dn ms ms es wr) (fun _ i _ => 2 - (intOf i).toNat)
  case atStart => exact ⟨0, xa, xc, xs, ds, by omega, rfl, rfl, HP.out⟩
  case round =>
    clear HP HZ HL
    obtain ⟨j, xa, xc, ms, es, hj, rfl, rfl, hp⟩ := hrel
    have HP : Hid (Pl w ma xa ea mc xc ec n dn ms ms es wr) := hp
    clear hp
    by_cases hlt : j < 2
    · have hcm : n ≤ mc ∧ mc ≤ 9223372036854775807 := by have h1 := (Zs.row HP.out.m HP.out.lm); exact ⟨h1.cap, h1.max⟩
      have hce : dn ≤ ec ∧ ec ≤ 9223372036854775807 := by have h1 := (Zs.row HP.out.d HP.out.le); exact ⟨h1.cap, h1.max⟩
      obtain ⟨wo, hwo⟩ : ∃ wo, wo = wr := ⟨_, rfl⟩
      subst hwo
      have c8 := read_yes _ 0 n ma n mc ms wo (Zs.row HP.out.m HP.out.lm) hn (wi_iff.2 (by omega))
      rw [show rdX ms 0 n = ms by rw [← HP.out.lm]; exact rdX_all ms, HP.out.lm] at c8
      obtain ⟨Y1, hY1⟩ : ∃ Y1, Y1 = wrX ms 0 A [7] := ⟨_, rfl⟩
      have hl1 : Y1.length = n := by rw [hY1, wrX_length]; exact HP.out.lm
      obtain ⟨Y2, hY2⟩ : ∃ Y2, Y2 = wrX Y1 0 A es := ⟨_, rfl⟩
      have hl2 : Y2.length = n := by rw [hY2, wrX_length]; exact hl1
      have HY : Hid (Y1 = wrX ms 0 A [7] ∧ Y1.length = n ∧ Y2 = wrX Y1 0 A es ∧ Y2.length = n) := ⟨hY1, hl1, hY2, hl2⟩
      clear hY1 hl1 hY2 hl2
      go_upto_region 13 with (first
        | (go_at_call 8; refine c8.mono ?_; rintro ex w1 ⟨v1, rfl, o1, k1⟩; obtain ⟨a1, b1, rfl⟩ := owns_shp o1; have P1 : Hid (Pl w ma xa ea mc xc ec n dn ms ms es w1) := HP.out.kept k1; have c16 := same_any _ _ a1 xa n n b1 xc ms ms w1 (Zs.row o1 HP.out.lm) (Zs.row P1.out.x P1.out.lx); rw [decide_eq_true rfl] at c16; clear o1 k1 c8)
        | (go_at_call 16; refine c16.mono ?_; rintro ex w2 ⟨rfl, q2, hw2⟩; have P2 : Hid (Pl w ma xa ea mc xc ec n dn ms ms es w2) := (by rw [hw2]; exact P1.out.kept ((Kept.refl No w1).drewN q2)); have c22 := refLoad_any _ A xa n xc ms w2 (Zs.row P2.out.x P2.out.lx); have c10 := load_any _ A ma n mc ms w2 (Zs.row P2.out.m P2.out.lm); clear c16 hw2 P1)
        | (go_at_call 22; refine c22.mono ?_; rintro ex w3 ⟨rfl, hw⟩; obtain rfl := hw.symm)
        | (go_at_call 10; refine c10.mono ?_; rintro ex w3 ⟨rfl, hw⟩; obtain rfl := hw.symm))
      clear c22 c10
      have c23 := refStore_any _ 0 A 7 xa n xc ms w2 (Zs.row P2.out.x P2.out.lx) hn
      rw [← HY.out.1, HY.out.2.1] at c23
      obtain ⟨bs, hbs⟩ : ∃ bs, bs = wb n 0 A 1 := ⟨_, rfl⟩
      rw [← hbs] at c23
      have HBS : Hid (bs = wb n 0 A 1) := hbs
      clear hbs
      go_upto_region 18 with (first
        | (go_at_call 23; refine c23.mono ?_; rintro ex w3 ⟨v3, rfl, o3, k3⟩; obtain ⟨a3, b3, rfl⟩ := owns_shp o3; have P3 : Hid (Pl w ma xa ea mc xc ec n dn ms ms es w3) := P2.out.kept k3; have O3 : Hid (w3.ownsRow w2.heap.size 2 1 (.slice a3 n b3) n (Y1.map iv) ∧ Far (.slice ma n mc) (.slice a3 n b3)) := ⟨o3, (fun k e1 e2 => by have := (P2.out.m.lt k e1).2; have := (o3.lt k e2).1; omega)⟩; have c13 := store_any w.heap.size 0 A 7 ma n mc ms [] w3 P3.out.mm P3.out.lm; rw [← HY.out.1, ← HBS.out] at c13; clear o3 k3 c23 P2)
        | (go_at_call 13; refine c13.mono ?_; rintro ex w4 ⟨rfl, hm4, k4⟩; have P4 : Hid (Pl w ma xa ea mc xc ec n dn Y1 ms es w4) := P3.out.wrote hm4 HY.out.2.1 k4; have O4 : Hid (w4.ownsRow w2.heap.size 2 1 (.slice a3 n b3) n (Y1.map iv) ∧ Far (.slice ma n mc) (.slice a3 n b3)) := ⟨k4.owns O3.out.1 (fun k e1 e2 => O3.out.2 k e2 e1), O3.out.2⟩; have c16 := same_any _ _ ma a3 n n mc b3 Y1 Y1 w4 (Zs.row P4.out.m P4.out.lm) (Zs.row O4.out.1 P4.out.lm); rw [decide_eq_true rfl] at c16; clear hm4 k4 c13 P3 O3)
        | (go_at_call 16; refine c16.mono ?_; rintro ex w5 ⟨rfl, q5, hw5⟩; have P5 : Hid (Pl w ma xa ea mc xc ec n dn Y1 ms es w5) := (by rw [hw5]; exact P4.out.kept ((Kept.refl No w4).drewN q5)); have O5 : Hid (w5.ownsRow w2.heap.size 2 1 (.slice a3 n b3) n (Y1.map iv) ∧ Far (.slice ma n mc) (.slice a3 n b3)) := (by rw [hw5]; exact ⟨((Kept.refl No w4).drewN q5).owns O4.out.1 (fun _ _ h => h), O4.out.2⟩); clear hw5 c16 P4 O4))
      go_upto_region 19 with (at_builtin; refine wpList_copy_nil rfl (.tmp 94) (.tmp 95) rfl rfl ea dn ec rfl _ es (Zs.row P5.out.d P5.out.le) (by omega) ?_; intro na nc w6 on6 k6)
      have P6 : Hid (Pl w ma xa ea mc xc ec n dn Y1 ms es w6) := P5.out.kept k6.out
      have O6 : Hid (w6.ownsRow w2.heap.size 2 1 (.slice a3 n b3) n (Y1.map iv) ∧ Far (.slice ma n mc) (.slice a3 n b3)) := ⟨k6.out.owns O5.out.1 (fun _ _ h => h), O5.out.2⟩
      have N6 : Hid (w6.ownsRow w5.heap.size 2 1 (.slice na dn nc) dn (es.map iv) ∧ Far (.slice ma n mc) (.slice na dn nc)) := ⟨on6.out, (fun k e1 e2 => by have := (P5.out.m.lt k e1).2; have := (on6.out.lt k e2).1; omega)⟩
      clear P5 O5 on6 k6
      have c25 := refWrite_any _ _ 0 A a3 na n b3 dn nc Y1 es w6 (Zs.row O6.out.1 P6.out.lm) (Zs.row N6.out.1 P6.out.le) hn
      obtain ⟨bw, hbw⟩ : ∃ bw, bw = wb n 0 A dn := ⟨_, rfl⟩
      rw [← HY.out.2.2.1, HY.out.2.2.2, ← hbw] at c25
      have HBW : Hid (bw = wb n 0 A dn) := hbw
      clear hbw
      go_upto_region 23 with (first
        | (go_at_call 25; refine c25.mono ?_; rintro ex w7 ⟨v7, rfl, o7, k7⟩; obtain ⟨a7, b7, rfl⟩ := owns_shp o7; have P7 : Hid (Pl w ma xa ea mc xc ec n dn Y1 ms es w7) := P6.out.kept k7; have N7 : Hid (w7.ownsRow w5.heap.size 2 1 (.slice na dn nc) dn (es.map iv) ∧ Far (.slice ma n mc) (.slice na dn nc)) := ⟨k7.owns N6.out.1 (fun _ _ h => h), N6.out.2⟩; have O7 : Hid (w7.ownsRow w6.heap.size 2 1 (.slice a7 n b7) n (Y2.map iv) ∧ Far (.slice ma n mc) (.slice a7 n b7)) := ⟨o7, (fun k e1 e2 => by have := (P6.out.m.lt k e1).2; have := (o7.lt k e2).1; omega)⟩; have c12 := write_any _ w.heap.size 0 A ma ea n mc dn ec Y1 [] es w7 P7.out.mm P7.out.lm (Zs.row P7.out.d P7.out.le); rw [← HY.out.2.2.1, ← HBW.out] at c12; clear o7 k7 c25 P6 N6 O6)
        | (go_at_call 12; refine c12.mono ?_; rintro ex w8 ⟨rfl, hm8, k8⟩; have P8 : Hid (Pl w ma xa ea mc xc ec n dn Y2 ms es w8) := P7.out.wrote hm8 HY.out.2.2.2 k8; have N8 : Hid (w8.ownsRow w5.heap.size 2 1 (.slice na dn nc) dn (es.map iv)) := k8.owns N7.out.1 (fun k e1 e2 => N7.out.2 k e2 e1); have O8 : Hid (w8.ownsRow w6.heap.size 2 1 (.slice a7 n b7) n (Y2.map iv)) := k8.owns O7.out.1 (fun k e1 e2 => O7.out.2 k e2 e1); have c16 := same_any _ _ ma a7 n n mc b7 Y2 Y2 w8 (Zs.row P8.out.m P8.out.lm) (Zs.row O8.out P8.out.lm); rw [decide_eq_true rfl] at c16; clear hm8 k8 c12 P7 N7 O7)
        | (go_at_call 16; refine c16.mono ?_; rintro ex w9 ⟨rfl, q9, hw9⟩; have P9 : Hid (Pl w ma xa ea mc xc ec n dn Y2 ms es w9) := (by rw [hw9]; exact P8.out.kept ((Kept.refl No w8).drewN q9)); have N9 : Hid (w9.ownsRow w5.heap.size 2 1 (.slice na dn nc) dn (es.map iv)) := (by rw [hw9]; exact ((Kept.refl No w8).drewN q9).owns N8.out (fun _ _ h => h)); have c16d := same_any _ _ ea na dn dn ec nc es es w9 (Zs.row P9.out.d P9.out.le) (Zs.row N9.out P9.out.le); rw [decide_eq_true rfl] at c16d; clear hw9 c16 P8 N8 O8)
        | (go_at_call 16; refine c16d.mono ?_; rintro ex w10 ⟨rfl, q10, hw10⟩; have P10 : Hid (Pl w ma xa ea mc xc ec n dn Y2 ms es w10) := (by rw [hw10]; exact P9.out.kept ((Kept.refl No w9).drewN q10)); clear hw10 c16d P9 N9))
      go_wp2
      go_loopw [8, 24] (fun x i wx => ∃ (k : Nat) (ys : List Int), k ≤ n ∧ i = .int .i64 k ∧ Pm w ma ea mc ec n dn ys es x k wx) (fun _ i _ => n - (intOf i).toNat)
      case atStart => exact ⟨0, Y2, by omega, rfl, P10.out.m, World.ownsRow_nil _ _ _ _, P10.out.d, P10.out.lm, P10.out.le, (fun k e1 e2 => by cases e2), P10.out.md, (fun k e1 e2 => by cases e2), P10.out.bel⟩
      case round =>
        clear P10
        obtain ⟨k, ys, hk, rfl, hpm⟩ := hrel
        have HPM : Hid (Pm w ma ea mc ec n dn ys es u8 k wr) := hpm
        by_cases hkn : k < n
        · obtain ⟨b, rfl⟩ : ∃ b, ma = some ⟨b, 0, none⟩ := by
            rcases owns_cells hpm.m with ⟨_, h0⟩ | ⟨b, cap, hv, _⟩
            · omega
            · injection hv with q1 _ _; exact ⟨b, q1⟩
          obtain ⟨hc, hf⟩ := owns_ati hpm.m (g := b) rfl (i := k) (by rw [hpm.lm]; exact hkn)
          obtain ⟨y, hy⟩ : ∃ y, y = ys.getD k 0 := ⟨_, rfl⟩
          rw [← hy] at hc
          unfold iv at hc
          clear hpm hy
          go_upto_region 28 with fail
          generalize bits BinOp.xor IntKind.i64 y 5 = z
          have HQ : Hid (Pm w (some ⟨b, 0, none⟩) ea mc ec n dn (ys.set k z) es u8 k (wr.setCell ⟨b, k, none⟩ (.int .i64 z))) := HPM.out.setm hkn z
          have hc2 : (wr.setCell ⟨b, k, none⟩ (.int .i64 z)).cell? ⟨b, k, none⟩ = some (.int .i64 z) := by
            have h1 := (owns_ati HQ.out.m (g := b) rfl (i := k) (by rw [HQ.out.lm]; exact hkn)).1
            have h2 : (ys.set k z).getD k 0 = z := by simp [List.getD, show k < ys.length by rw [HPM.out.lm]; exact hkn]
            rw [h2] at h1
            exact h1
          have HZ : Hid ((ys.set k z).getD k 0 = z) := by
            show (ys.set k z).getD k 0 = z
            simp [List.getD, show k < ys.length by rw [HPM.out.lm]; exact hkn]
          generalize hW2 : wr.setCell ⟨b, k, none⟩ (.int .i64 z) = W2
          rw [hW2] at HQ hc2
          have hsz : w.heap.size ≤ W2.heap.size := HQ.out.bel.size
          clear hW2 hc hf HPM
          go_wp2_with (at_builtin; refine wpList_append_own_at _ rfl _ _ 22 rfl w.heap.size 2 i0 (.int .i64 0) 1 8 Try.underlying22 hi hz0 hz1 hz2 rfl (by decide) _ _ _ rfl (HQ.out.x.alloc _) ⟨W2.heap.size, 0, none⟩ 1 1 [.int .i64 z] rfl rfl (cell_one_new _ _ _) (one_one _ _) (by unfold maxLen; omega) (by omega) (by simp; omega) ?_; intro v1 w1 own1 grow1 _ at1; have HN : Hid (Pm w (some ⟨b, 0, none⟩) ea mc ec n dn (ys.set k z) es v1 (k + 1) w1) := HQ.out.more hkn HZ.out own1 grow1 at1; clear own1 grow1 at1)
          go_roundw
          case rel => exact ⟨k + 1, ys.set k z, by omega, by go_num, HN.out⟩
          case measure => simp [intOf]; omega
        · have hkn2 : k = n := by omega
          subst hkn2
          obtain ⟨xa2, xc2, rfl⟩ := owns_shp hpm.x
          clear hpm
          go_wp2
          go_loopw [25] (fun i wx => ∃ (q : Nat) (es' : List Int), q ≤ dn ∧ i = .int .i64 q ∧ Pm w ma ea mc ec k dn ys es' (.slice xa2 k xc2) k wx) (fun i _ => dn - (intOf i).toNat)
          case atStart => exact ⟨0, es, by omega, rfl, HPM.out⟩
          case round =>
            clear HPM
            obtain ⟨q, es', hq, rfl, hpm⟩ := hrel
            have HPM : Hid (Pm w ma ea mc ec k dn ys es' (.slice xa2 k xc2) k wr) := hpm
            by_cases hqn : q < dn
            · obtain ⟨b, rfl⟩ : ∃ b, ea = some ⟨b, 0, none⟩ := by
                rcases owns_cells hpm.d with ⟨_, h0⟩ | ⟨b, cap, hv, _⟩
                · omega
                · injection hv with q1 _ _; exact ⟨b, q1⟩
              obtain ⟨hc, hf⟩ := owns_ati hpm.d (g := b) rfl (i := q) (by rw [hpm.le]; exact hqn)
              obtain ⟨y, hy⟩ : ∃ y, y = es'.getD q 0 := ⟨_, rfl⟩
              rw [← hy] at hc
              unfold iv at hc
              have HQ : Hid (∀ z, Pm w ma (some ⟨b, 0, none⟩) mc ec k dn ys (es'.set q z) (.slice xa2 k xc2) k (wr.setCell ⟨b, q, none⟩ (.int .i64 z))) := fun z => HPM.out.setd hqn z
              clear hpm hy
              go_wp2
              go_roundw
              case rel => exact ⟨q + 1, _, by omega, by go_num, HQ.out _⟩
              case measure => simp [intOf]; omega
            · clear hpm
              go_wp2
              go_roundw
              case rel => exact ⟨j + 1, xa2, xc2, ys, es', by omega, by go_num, rfl, HPM.out.m, (by have := HPM.out.x; rw [List.take_of_length_le (by rw [HPM.out.lm]; exact Nat.le_refl _)] at this; exact this), HPM.out.d, HPM.out.lm, HPM.out.lm, HPM.out.le, HPM.out.mx, HPM.out.md, HPM.out.bel⟩
              case measure => simp [intOf]; omega
    · have hj2 : j = 2 := by omega
      subst hj2
      go_wp2
      go_ret
      exact ⟨rfl, Kept.of_below HP.out.bel⟩

end Go.Proofs.Ytgapljgnedbkiaa
