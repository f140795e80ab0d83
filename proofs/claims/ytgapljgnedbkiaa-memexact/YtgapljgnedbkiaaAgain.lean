/-
  'placed'.
-/
import Derived.Test.YtgapljgnedbkiaaPlaced
namespace Go.Proofs.Ytgapljgnedbkiaa
open Go.RowKit
set_option linter.unusedVariables false

/-- New's words, of any numbers -/
def nwR (N : Int) (xs : List Int) : List Int := if nwOk N xs.length then nwX N xs else []
theorem nwR_length (N : Int) (xs : List Int) : (nwR N xs).length ≤ 4096 := by
  unfold nwR
  split
  · rename_i h; exact (nwX_length h).2
  · simp
theorem new_any (F : Nat → Prop) (N : Int) (a : Option Addr) (n c : Nat) (xs : List Int) (w : World) (hz : Zs w F a n c xs) :
    Calls Try.prog 6 #[.int .i64 N, .slice a n c] w fun ex w' => ∃ v, ex = .returned (.tuple #[v, .bool (nwOk N xs.length)]) ∧ w'.ownsRow w.heap.size 2 1 v (nwR N xs).length ((nwR N xs).map iv) ∧ Kept No w w' := by
  unfold nwR
  cases hk : nwOk N xs.length with
  | true => rw [if_pos rfl]; exact new_yes F N a n c xs w hz hk
  | false =>
    rw [if_neg (by simp)]
    rw [hz.len] at hk
    refine (new_no N a n c w hk).mono ?_
    rintro ex w' ⟨rfl, rfl⟩
    exact ⟨_, rfl, World.ownsRow_nil _ _ _ _, Kept.refl _ _⟩
theorem refNew_any (F : Nat → Prop) (N : Int) (a : Option Addr) (n c : Nat) (xs : List Int) (w : World) (hz : Zs w F a n c xs) :
    Calls Try.prog 15 #[.int .i64 N, .slice a n c] w fun ex w' => ∃ v, ex = .returned (.tuple #[v, .bool (nwOk N xs.length)]) ∧ w'.ownsRow w.heap.size 2 1 v (nwR N xs).length ((nwR N xs).map iv) ∧ Kept No w w' := by
  unfold nwR
  cases hk : nwOk N xs.length with
  | true => rw [if_pos rfl]; exact refNew_yes F N a n c xs w hz hk
  | false =>
    rw [if_neg (by simp)]
    rw [hz.len] at hk
    refine (refNew_no N a n c w hk).mono ?_
    rintro ex w' ⟨rfl, rfl⟩
    exact ⟨_, rfl, World.ownsRow_nil _ _ _ _, Kept.refl _ _⟩

/-- the words turned about, each one more -/
def trn (xs : List Int) : List Int := xs.reverse.map (fun x => wrap64 (x + 1))
theorem trn_len (xs : List Int) : (trn xs).length = xs.length := by simp [trn]
theorem trn_take (xs : List Int) (j : Nat) (h : j < xs.length) : (trn xs).take (j + 1) = (trn xs).take j ++ [wrap64 (xs.getD (xs.length - 1 - j) 0 + 1)] := by
  rw [take_more _ j (by rw [trn_len]; exact h)]
  congr 2
  simp [trn, List.getD, h]
  rw [List.getElem?_eq_getElem (by omega)]
  simp

/-- two lists that grow side by side -/
structure Pg (w0 : World) (T : List Int) (vg vt : Value) (jg jt : Nat) (w : World) : Prop where
  g : w.ownsRow w0.heap.size 2 1 vg jg ((T.take jg).map iv)
  t : w.ownsRow w0.heap.size 2 1 vt jt ((T.take jt).map iv)
  far : Far vg vt
  bel : Below w0.heap.size w0 w

namespace Pg
variable {w0 w w' : World} {T : List Int} {vg vt v' : Value} {jg jt : Nat} {z : Int} {o : Obj}
theorem moreg (h : Pg w0 T vg vt jg jt w) (hz : T.take (jg + 1) = T.take jg ++ [z]) (own : w'.ownsRow w0.heap.size 2 1 v' (jg + 1) ((T.take jg).map iv ++ [.int .i64 z])) (grow : (w.alloc o).grownBy w' vg.ownBlock) (at1 : v'.ownBlock = vg.ownBlock ∨ v'.ownBlock = some (w.alloc o).heap.size) : Pg w0 T v' vt (jg + 1) jt w' := by
  have kp : Kept (fun k => vg.ownBlock = some k) w w' := ((Kept.refl _ w).alloc o).grown grow (fun k e => .inl e)
  refine ⟨by rw [hz, List.map_append]; exact own, kp.owns h.t (fun g e1 e2 => h.far g e2 e1), ?_, h.bel.trans (kp.below (fun g e => (h.g.lt g e).1) h.bel.size)⟩
  intro g e1 e2
  rcases at1 with h1 | h1
  · exact h.far g (by rw [← h1]; exact e1) e2
  · rw [h1] at e1; injection e1 with e1
    have := (h.t.lt g e2).2
    simp at e1
    omega
theorem moret (h : Pg w0 T vg vt jg jt w) (hz : T.take (jt + 1) = T.take jt ++ [z]) (own : w'.ownsRow w0.heap.size 2 1 v' (jt + 1) ((T.take jt).map iv ++ [.int .i64 z])) (grow : (w.alloc o).grownBy w' vt.ownBlock) (at1 : v'.ownBlock = vt.ownBlock ∨ v'.ownBlock = some (w.alloc o).heap.size) : Pg w0 T vg v' jg (jt + 1) w' := by
  have kp : Kept (fun k => vt.ownBlock = some k) w w' := ((Kept.refl _ w).alloc o).grown grow (fun k e => .inl e)
  refine ⟨kp.owns h.g (fun g e1 e2 => h.far g e1 e2), by rw [hz, List.map_append]; exact own, ?_, h.bel.trans (kp.below (fun g e => (h.t.lt g e).1) h.bel.size)⟩
  intro g e1 e2
  rcases at1 with h1 | h1
  · exact h.far g e1 (by rw [← h1]; exact e2)
  · rw [h1] at e2; injection e2 with e2
    have := (h.g.lt g e1).2
    simp at e2
    omega
end Pg

/-- three lists, the first one written -/
structure Pa (w0 : World) (ga ta aa : Option Addr) (gc tc ac n A : Nat) (T X : List Int) (zs : List Int) (w : World) : Prop where
  g : w.ownsRow w0.heap.size 2 1 (.slice ga n gc) n (zs.map iv)
  t : w.ownsRow w0.heap.size 2 1 (.slice ta n tc) n (T.map iv)
  a : w.ownsRow w0.heap.size 2 1 (.slice aa A ac) A (X.map iv)
  lz : zs.length = n
  gt : Far (.slice ga n gc) (.slice ta n tc)
  ga' : Far (.slice ga n gc) (.slice aa A ac)
  bel : Below w0.heap.size w0 w

theorem Pa.kept {w0 w w' : World} {ga ta aa : Option Addr} {gc tc ac n A : Nat} {T X zs : List Int} (h : Pa w0 ga ta aa gc tc ac n A T X zs w) (k : Kept No w w') : Pa w0 ga ta aa gc tc ac n A T X zs w' :=
  ⟨k.owns h.g (fun _ _ h => h), k.owns h.t (fun _ _ h => h), k.owns h.a (fun _ _ h => h), h.lz, h.gt, h.ga', h.bel.trans (k.below (fun _ h => h.elim) h.bel.size)⟩
theorem Pa.set {w0 w : World} {ta aa : Option Addr} {b gc tc ac n A j : Nat} {T X zs : List Int} (h : Pa w0 (some ⟨b, 0, none⟩) ta aa gc tc ac n A T X zs w) (hj : j < n) (z : Int) : Pa w0 (some ⟨b, 0, none⟩) ta aa gc tc ac n A T X (zs.set j z) (w.setCell ⟨b, j, none⟩ (.int .i64 z)) := by
  have hb : w0.heap.size ≤ b := (h.g.lt b rfl).1
  have kp : Kept (fun k => k = b) w (w.setCell ⟨b, j, none⟩ (.int .i64 z)) := (Kept.refl (fun k => k = b) w).setCell (p := ⟨b, j, none⟩) (.inl rfl) _
  exact ⟨owns_seti h.g rfl (by rw [h.lz]; exact hj) z, kp.owns h.t (fun g e1 e2 => h.gt b rfl (by rw [e1, e2])), kp.owns h.a (fun g e1 e2 => h.ga' b rfl (by rw [e1, e2])), by rw [List.length_set]; exact h.lz, h.gt, h.ga', h.bel.setCell (p := ⟨b, j, none⟩) hb _⟩

theorem over_set (xs zs : List Int) (j : Nat) (h : zs.take j = xs.take j) (hj : j < xs.length) (hl : zs.length = xs.length) : (zs.set j (xs.getD j 0)).take (j + 1) = xs.take (j + 1) := by
  rw [take_more xs j hj, take_more _ j (by rw [List.length_set]; omega), List.take_set, List.set_eq_of_length_le (by simp; omega), h]
  congr 2
  simp [List.getD, show j < zs.length by omega]

set_option maxRecDepth 100000 in
set_option maxHeartbeats 4000000 in
theorem placed_any (F : Nat → Prop) (N : Int) (a : Option Addr) (n c : Nat) (xs : List Int) (w : World) (hz : Zs w F a n c xs) (hn : n ≤ 17592186043904) :
    Calls Try.prog 19 #[.int .i64 N, .slice a n c] w fun ex w' => ex = .returned (.bool true) ∧ Kept No w w' := by
  obtain ⟨i0, hi, hz0, hz1, hz2⟩ := info_parts Try.info2
  obtain ⟨T, hT⟩ : ∃ T, T = trn xs := ⟨_, rfl⟩
  have HT : Hid (T = trn xs ∧ T.length = n ∧ xs.length = n) := ⟨hT, by rw [hT, trn_len]; exact hz.len, hz.len⟩
  have HZ : Hid (Zs w F a n c xs) := hz
  have hcp := hz.cap
  have hmx := hz.max
  clear hz hT
  go_enter Try.func19, Try.ntmps19
  go_wp2_with fail
  have ew : wrap64 ((n : Int) - 1) = n - 1 := by unfold wrap64; omega
  go_loopw [5, 6, 7] (fun g t i wr => ∃ j : Nat, j ≤ n ∧ i = .int .i64 ((n : Int) - 1 - j) ∧ Pg w T g t j j wr) (fun _ _ i _ => (intOf i + 1).toNat)
  case atStart => exact ⟨0, by omega, by simp, World.ownsRow_nil _ _ _ _, World.ownsRow_nil _ _ _ _, (fun k e1 e2 => by cases e2), Below.refl _ _⟩
  case round =>
    obtain ⟨j, hj, rfl, hpg⟩ := hrel
    have HPG : Hid (Pg w T u5 u6 j j wr) := hpg
    by_cases hlt : j < n
    · obtain ⟨p, hp⟩ : ∃ p : Nat, p = n - 1 - j := ⟨_, rfl⟩
      have hpi : (n : Int) - 1 - j = (p : Int) := by omega
      have hpn : p < n := by omega
      rw [hpi]
      have HPP : Hid (p = n - 1 - j) := hp
      clear hp hpi
      obtain ⟨b, o, ha, _, hc0⟩ := (HZ.out.kept (Kept.of_below (F := No) hpg.bel) (fun _ _ h => h)).at' p hpn
      subst ha
      obtain ⟨x, hx⟩ : ∃ x, x = xs.getD p 0 := ⟨_, rfl⟩
      rw [← hx] at hc0
      have hc : wr.cell? ⟨b, o + p, none⟩ = some (.int .i64 x) := hc0
      obtain ⟨z, hz⟩ : ∃ z, z = wrap64 (x + 1) := ⟨_, rfl⟩
      have HZZ : Hid (T.take (j + 1) = T.take j ++ [z]) := by
        show T.take (j + 1) = T.take j ++ [z]
        rw [HT.out.1, trn_take xs j (by rw [HT.out.2.2]; exact hlt), hz, hx, HPP.out, HT.out.2.2]
      have ez : wrap64 (x + 1) = z := hz.symm
      have ep : wrap64 ((p : Int) - 1) = p - 1 := by unfold wrap64; omega
      have HXX : Hid (x = xs.getD p 0) := hx
      have hsz := hpg.bel.size
      clear hc0 hz hx hpg
      go_upto_region 6 with (at_builtin; refine wpList_append_own_at _ rfl _ _ 22 rfl w.heap.size 2 i0 (.int .i64 0) 1 8 Try.underlying22 hi hz0 hz1 hz2 rfl (by decide) _ _ _ rfl (HPG.out.g.alloc _) ⟨wr.heap.size, 0, none⟩ 1 1 [.int .i64 z] rfl rfl (cell_one_new _ _ _) (one_one _ _) (by unfold maxLen; omega) (by omega) (by simp; omega) ?_; intro v1 w1 own1 grow1 _ at1; have HG1 : Hid (Pg w T v1 u6 (j + 1) j w1) := HPG.out.moreg HZZ.out own1 grow1 at1; clear own1 grow1 at1)
      obtain ⟨b', o', ha', _, hc0⟩ := (HZ.out.kept (Kept.of_below (F := No) HG1.out.bel) (fun _ _ h => h)).at' p hpn
      obtain ⟨rfl, rfl⟩ : b = b' ∧ o = o' := by injection ha' with q; injection q with q1 q2 _; exact ⟨q1, q2⟩
      rw [← HXX.out] at hc0
      have hc1 : w1.cell? ⟨b, o + p, none⟩ = some (.int .i64 x) := hc0
      have hsz1 := HG1.out.bel.size
      clear hc0 ha' hc
      go_wp2_with (at_builtin; refine wpList_append_own_at _ rfl _ _ 22 rfl w.heap.size 2 i0 (.int .i64 0) 1 8 Try.underlying22 hi hz0 hz1 hz2 rfl (by decide) _ _ _ rfl (HG1.out.t.alloc _) ⟨w1.heap.size, 0, none⟩ 1 1 [.int .i64 z] rfl rfl (cell_one_new _ _ _) (one_one _ _) (by unfold maxLen; omega) (by omega) (by simp; omega) ?_; intro v2 w2 own2 grow2 _ at2; have HG2 : Hid (Pg w T v1 v2 (j + 1) (j + 1) w2) := HG1.out.moret HZZ.out own2 grow2 at2; clear own2 grow2 at2)
      go_roundw
      case rel => exact ⟨j + 1, by omega, by have := HPP.out; simp; omega, HG2.out⟩
      case measure => simp [intOf]
    · have hjn : j = n := by omega
      subst hjn
      obtain ⟨ga, gc, rfl⟩ := owns_shp hpg.g
      obtain ⟨ta, tc, rfl⟩ := owns_shp hpg.t
      have em : (j : Int) - 1 - j = -1 := by omega
      rw [em]
      have HG : Hid (wr.ownsRow w.heap.size 2 1 (.slice ga j gc) j (T.map iv) ∧ wr.ownsRow w.heap.size 2 1 (.slice ta j tc) j (T.map iv)) := by
        have h1 := hpg.g
        have h2 := hpg.t
        rw [List.take_of_length_le (by rw [HT.out.2.1]; exact Nat.le_refl _)] at h1 h2
        exact ⟨h1, h2⟩
      obtain ⟨wo, hwo⟩ : ∃ wo, wo = wr := ⟨_, rfl⟩
      subst hwo
      have c6 := new_any _ N ga j gc T wo (Zs.row HG.out.1 HT.out.2.1)
      obtain ⟨b1, hb1⟩ : ∃ b1, b1 = nwOk N T.length := ⟨_, rfl⟩
      obtain ⟨b2, hb2⟩ : ∃ b2, b2 = nwOk N xs.length := ⟨_, rfl⟩
      obtain ⟨X, hX⟩ : ∃ X, X = nwR N T := ⟨_, rfl⟩
      obtain ⟨Y, hY⟩ : ∃ Y, Y = nwR N xs := ⟨_, rfl⟩
      obtain ⟨Xl, hXl⟩ : ∃ Xl, Xl = X.length := ⟨_, rfl⟩
      obtain ⟨Yl, hYl⟩ : ∃ Yl, Yl = Y.length := ⟨_, rfl⟩
      rw [← hb1, ← hX, ← hXl] at c6
      have HE : Hid (b1 = nwOk N T.length ∧ b2 = nwOk N xs.length ∧ X = nwR N T ∧ Y = nwR N xs ∧ Xl = X.length ∧ Yl = Y.length) := ⟨hb1, hb2, hX, hY, hXl, hYl⟩
      clear hb1 hb2 hX hY hXl hYl hpg em
      go_wp2_with (go_at_call 6; refine c6.mono ?_; rintro ex w1 ⟨v1, rfl, o1, k1⟩; obtain ⟨aa, ac, rfl⟩ := owns_shp o1; have HA : Hid (Pa w ga ta aa gc tc ac j Xl T X T w1) := ⟨k1.owns HG.out.1 (fun _ _ h => h), k1.owns HG.out.2 (fun _ _ h => h), owns_base o1 HPG.out.bel.size, HT.out.2.1, HPG.out.far, (fun k e1 e2 => by have := (HG.out.1.lt k e1).2; have := (o1.lt k e2).1; omega), HPG.out.bel.trans (k1.below (fun _ h => h.elim) HPG.out.bel.size)⟩; clear o1 k1 c6)
      go_loopw [10] (fun i wx => ∃ (q : Nat) (zs : List Int), q ≤ j ∧ i = .int .i64 q ∧ zs.take q = xs.take q ∧ Pa w ga ta aa gc tc ac j Xl T X zs wx) (fun i _ => j - (intOf i).toNat)
      case atStart => exact ⟨0, T, by omega, rfl, rfl, HA.out⟩
      case round =>
        clear HA HPG HG
        obtain ⟨q, zs, hq, rfl, hzs, hpa⟩ := hrel
        have HPA : Hid (zs.take q = xs.take q ∧ Pa w ga ta aa gc tc ac j Xl T X zs wr) := ⟨hzs, hpa⟩
        by_cases hql : q < j
        · obtain ⟨b, rfl⟩ : ∃ b, ga = some ⟨b, 0, none⟩ := by
            rcases owns_cells hpa.g with ⟨_, h0⟩ | ⟨b, cap, hv, _⟩
            · omega
            · injection hv with q1 _ _; exact ⟨b, q1⟩
          obtain ⟨hc, hf⟩ := owns_ati hpa.g (g := b) rfl (i := q) (by rw [hpa.lz]; exact hql)
          obtain ⟨y, hy⟩ : ∃ y, y = zs.getD q 0 := ⟨_, rfl⟩
          rw [← hy] at hc
          unfold iv at hc
          obtain ⟨b', o', rfl, _, hi0⟩ := (HZ.out.kept (Kept.of_below (F := No) hpa.bel) (fun _ _ h => h)).at' q hql
          obtain ⟨x, hx⟩ : ∃ x, x = xs.getD q 0 := ⟨_, rfl⟩
          rw [← hx] at hi0
          have hi1 : wr.cell? ⟨b', o' + q, none⟩ = some (.int .i64 x) := hi0
          have HN : Hid ((zs.set q x).take (q + 1) = xs.take (q + 1) ∧ Pa w (some ⟨b, 0, none⟩) ta aa gc tc ac j Xl T X (zs.set q x) (wr.setCell ⟨b, q, none⟩ (.int .i64 x))) := ⟨by rw [hx]; exact over_set xs zs q hzs (by rw [HT.out.2.2]; exact hql) (by rw [hpa.lz, HT.out.2.2]), hpa.set hql x⟩
          clear hzs hpa hy hi0 hx
          go_wp2
          go_roundw
          case rel => exact ⟨q + 1, zs.set q x, by omega, by go_num, HN.out.1, HN.out.2⟩
          case measure => simp [intOf]; omega
        · have hqj : q = j := by omega
          subst hqj
          have hzx : zs = xs := by
            have h1 := hzs
            rw [List.take_of_length_le (by rw [hpa.lz]; exact Nat.le_refl _), List.take_of_length_le (by rw [HT.out.2.2]; exact Nat.le_refl _)] at h1
            exact h1
          subst hzx
          have c6 := new_any _ N ga q gc zs wr (Zs.row hpa.g hpa.lz)
          rw [← HE.out.2.1, ← HE.out.2.2.2.1, ← HE.out.2.2.2.2.2] at c6
          have HPB : Hid (Pa w ga ta aa gc tc ac q Xl T X zs wr) := hpa
          clear hzs hpa HPA
          go_upto_region 15 with (first
            | (go_at_call 6; refine c6.mono ?_; rintro ex w2 ⟨v2, rfl, o2, k2⟩; obtain ⟨ba, bc, rfl⟩ := owns_shp o2; have P2 : Hid (Pa w ga ta aa gc tc ac q Xl T X zs w2) := HPB.out.kept k2; have O2 : Hid (w2.ownsRow wr.heap.size 2 1 (.slice ba Yl bc) Yl (Y.map iv)) := o2; have c15 := refNew_any _ N ta q tc T w2 (Zs.row P2.out.t HT.out.2.1); rw [← HE.out.1, ← HE.out.2.2.1, ← HE.out.2.2.2.2.1] at c15; clear o2 k2 c6)
            | (go_at_call 15; refine c15.mono ?_; rintro ex w3 ⟨v3, rfl, o3, k3⟩; obtain ⟨xa, xc, rfl⟩ := owns_shp o3; have P3 : Hid (Pa w ga ta aa gc tc ac q Xl T X zs w3) := P2.out.kept k3; have O3 : Hid (w3.ownsRow wr.heap.size 2 1 (.slice ba Yl bc) Yl (Y.map iv) ∧ w3.ownsRow w2.heap.size 2 1 (.slice xa Xl xc) Xl (X.map iv)) := ⟨k3.owns O2.out (fun _ _ h => h), o3⟩; have c15b := refNew_any _ N a q c zs w3 (HZ.out.kept (Kept.of_below (F := No) P3.out.bel) (fun _ _ h => h)); rw [← HE.out.2.1, ← HE.out.2.2.2.1, ← HE.out.2.2.2.2.2] at c15b; clear o3 k3 c15)
            | (go_at_call 15; refine c15b.mono ?_; rintro ex w4 ⟨v4, rfl, o4, k4⟩; obtain ⟨ya, yc, rfl⟩ := owns_shp o4; have P4 : Hid (Pa w ga ta aa gc tc ac q Xl T X zs w4) := P3.out.kept k4; have O4 : Hid (w4.ownsRow wr.heap.size 2 1 (.slice ba Yl bc) Yl (Y.map iv) ∧ w4.ownsRow w2.heap.size 2 1 (.slice xa Xl xc) Xl (X.map iv) ∧ w4.ownsRow w3.heap.size 2 1 (.slice ya Yl yc) Yl (Y.map iv)) := ⟨k4.owns O3.out.1 (fun _ _ h => h), k4.owns O3.out.2 (fun _ _ h => h), o4⟩; clear o4 k4 c15b))
          have c16 := same_any _ _ aa xa Xl Xl ac xc X X w4 (Zs.row P4.out.a HE.out.2.2.2.2.1.symm) (Zs.row O4.out.2.1 HE.out.2.2.2.2.1.symm)
          rw [decide_eq_true rfl] at c16
          go_wp2_with (first
            | (go_at_call 16; refine c16.mono ?_; rintro ex w5 ⟨rfl, q5, hw5⟩; have P5 : Hid (Pa w ga ta aa gc tc ac q Xl T X zs w5) := (by rw [hw5]; exact P4.out.kept ((Kept.refl No w4).drewN q5)); have c16d := same_any _ _ ba ya Yl Yl bc yc Y Y w5 (by rw [hw5]; exact (Zs.row O4.out.1 HE.out.2.2.2.2.2.symm).kept ((Kept.refl No w4).drewN q5) (fun _ _ h => h)) (by rw [hw5]; exact (Zs.row O4.out.2.2 HE.out.2.2.2.2.2.symm).kept ((Kept.refl No w4).drewN q5) (fun _ _ h => h)); rw [decide_eq_true rfl] at c16d; clear hw5 c16)
            | (go_at_call 16; refine c16d.mono ?_; rintro ex w6 ⟨rfl, q6, hw6⟩; have P6 : Hid (Pa w ga ta aa gc tc ac q Xl T X zs w6) := (by rw [hw6]; exact P5.out.kept ((Kept.refl No w5).drewN q6)); clear hw6 c16d))
          go_ret
          exact ⟨by simp, Kept.of_below P6.out.bel⟩

end Go.Proofs.Ytgapljgnedbkiaa
