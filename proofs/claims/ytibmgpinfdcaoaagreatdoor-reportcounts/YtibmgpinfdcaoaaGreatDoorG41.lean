/-
  One text: QOth, KSv.
-/
import Derived.Test.YtibmgpinfdcaoaaGreatDoorG40
import Derived.Test.YtibmgpinfdcaoaaGreatDoorG37
import Derived.Test.YtibmgpinfdcaoaaGreatDoorHKRt
namespace Go.Proofs.YtibmgpinfdcaoaaGreatDoor
open Go.RowKit Plain
set_option linter.unusedVariables false
set_option linter.unusedSimpArgs false
set_option maxRecDepth 100000

/-- the j-th of the others -/
def othS (xs : List Srv) (j : Nat) : Srv := ⟨(xs.getD (xs.length - 1 - j) ⟨0, 0, 0, 0⟩).p, 1, (xs.getD (xs.length - 1 - j) ⟨0, 0, 0, 0⟩).o, (xs.getD (xs.length - 1 - j) ⟨0, 0, 0, 0⟩).q⟩
def othL (xs : List Srv) (k : Nat) : List Srv := (List.range k).map (othS xs)
theorem othL_len (xs : List Srv) (k : Nat) : (othL xs k).length = k := by simp [othL]
theorem othL_succ (xs : List Srv) (k : Nat) : fl (othL xs (k + 1)) = fl (othL xs k) ++ fl [othS xs k] := by rw [← fl_app]; simp [othL, List.range_succ]
theorem othL_get (xs : List Srv) {k i : Nat} (h : i < k) : (othL xs k).getD i ⟨0, 0, 0, 0⟩ = othS xs i := by simp [othL, List.getD, h]

set_option maxHeartbeats 4000000 in
theorem others_any {F : Nat → Prop} {a : Option Addr} {c : Nat} {xs : List Srv} (w : World) (h : Sv w F a xs.length c xs) (hn : xs.length * 32 ≤ 140737488351232) :
    Calls Tryz.prog 26 #[.slice a xs.length c] w fun e w' => ∃ v, e = .returned v ∧ w'.ownsRow w.heap.size 40 4 v xs.length (fl (othL xs xs.length)) ∧ Kept No w w' := by
  obtain ⟨i0, hi, hz0, hz1, hz2⟩ := info_parts Tryz.infoS
  have HS : Hid (Sv w F a xs.length c xs) := h
  have hcap := h.cap
  have hmax := h.max
  clear h
  go_enter Tryz.func26, Tryz.ntmps26
  go_wp2
  go_loopw [3, 4, 5] (fun v y z5 wr => ∃ k : Nat, k ≤ xs.length ∧ y = .int .i64 ((xs.length : Int) - 1 - k) ∧ wr.ownsRow w.heap.size 40 4 v k (fl (othL xs k)) ∧ Kept No w wr) (fun _ y _ _ => (intOf y + 1).toNat)
  case atStart => exact ⟨0, Nat.zero_le _, by congr 1; omega, ⟨rfl, .inl ⟨rfl, rfl⟩⟩, Kept.refl _ _⟩
  case round =>
    obtain ⟨k, hk, rfl, ho, hkr⟩ := hrel
    have HW : Hid (wr.ownsRow w.heap.size 40 4 u3 k (fl (othL xs k)) ∧ Kept No w wr) := ⟨ho, hkr⟩
    have HOW : Hid (∀ j, u3.ownBlock = some j → w.heap.size ≤ j) := fun j e => (ho.lt j e).1
    clear ho hkr
    by_cases hlt : k < xs.length
    · obtain ⟨p, hp⟩ : ∃ p : Nat, xs.length - 1 - k = p := ⟨_, rfl⟩
      have hpz : (xs.length : Int) - 1 - k = (p : Int) := by omega
      rw [hpz]
      have hpl : p < xs.length := by omega
      have hpl2 : (p : Int) < (xs.length : Int) := by omega
      have hx : xs[p]? = some (xs.getD p ⟨0, 0, 0, 0⟩) := by rw [List.getD, List.getElem?_eq_getElem hpl]; rfl
      obtain ⟨hok, b, o, rfl, hb, e0, e1, e2, e3⟩ := (HS.out.keep HW.out.2).at' p _ hx
      have HO : Hid (othS xs k = ⟨(xs.getD p ⟨0, 0, 0, 0⟩).p, 1, (xs.getD p ⟨0, 0, 0, 0⟩).o, (xs.getD p ⟨0, 0, 0, 0⟩).q⟩) := by show _ = _; unfold othS; rw [hp]
      have HP : Hid ((xs.length : Int) - 1 - k = (p : Int)) := hpz
      have HLS : Hid (fl (othL xs (k + 1)) = fl (othL xs k) ++ fl [othS xs k]) := othL_succ xs k
      clear hx hok hp hpz
      generalize xs.getD p ⟨0, 0, 0, 0⟩ = y at *
      obtain ⟨yp, yb, yo, yq⟩ := y
      simp only at e0 e1 e2 e3 HO
      have hbx := World.alloc_heap_new wr (.cells #[.int .i64 yp, .int .i64 yb, .int .i64 yo, .int .i64 yq] 40)
      obtain ⟨d0, d1, d2, d3⟩ := cellsS hbx
      have df : ∀ j, (wr.alloc (.cells #[.int .i64 yp, .int .i64 yb, .int .i64 yo, .int .i64 yq] 40)).frozen? ⟨wr.heap.size, j, none⟩ = false := fun j => by simp only [World.frozen?]; rw [hbx]; rfl
      go_upto_region 7 with fail
      clear d0 d1 d2 d3 df hbx e0 e1 e2 e3
      have kb : Kept No wr (wr.alloc (.cells #[.int .i64 yp, .int .i64 1, .int .i64 yo, .int .i64 yq] 40)) := (Kept.refl No wr).alloc _
      obtain ⟨d0, d1, d2, d3⟩ := cellsS (World.alloc_heap_new wr (.cells #[.int .i64 yp, .int .i64 1, .int .i64 yo, .int .i64 yq] 40))
      have HA : Hid ((wr.alloc (.cells #[.int .i64 yp, .int .i64 1, .int .i64 yo, .int .i64 yq] 40)).ownsRow w.heap.size 40 4 u3 k (fl (othL xs k)) ∧ Kept No w (wr.alloc (.cells #[.int .i64 yp, .int .i64 1, .int .i64 yo, .int .i64 yq] 40))) := ⟨kb.owns HW.out.1 (fun _ _ h => h), HW.out.2.trans kb (fun _ h => h.elim)⟩
      clear kb HW
      generalize (wr.alloc (.cells #[.int .i64 yp, .int .i64 1, .int .i64 yo, .int .i64 yq] 40)) = wa at *
      generalize wr.heap.size = Bx at *
      go_wp2_with (at_builtin; refine wpList_append_own _ rfl _ _ 22 rfl w.heap.size 40 i0 (.agg #[.int .i64 0, .int .i64 0, .int .i64 0, .int .i64 0]) 4 32 Tryz.underlying22 hi hz0 hz1 hz2 rfl (by decide) u3 k (fl (othL xs k)) rfl (HA.out.1.alloc _) ⟨wa.heap.size, 0, none⟩ 1 1 (fl [⟨yp, 1, yo, yq⟩]) rfl rfl (by
          intro j u hj
          have hb := World.alloc_heap_new wa (.cells #[.int .i64 yp, .int .i64 1, .int .i64 yo, .int .i64 yq] 40)
          have hlt : j < 4 := (List.getElem?_eq_some_iff.1 hj).1
          rw [add_none, Nat.zero_add]
          simp only [World.cell?, hb]
          simp only [fl] at hj
          rcases j with _ | _ | _ | _ | j
          all_goals first | exact hj | (simp at hj ⊢; exact hj) | omega) (fl_one _) (by unfold maxLen; omega) (by omega) (by have := HA.out.2.size; rw [World.size_alloc]; omega) ?_; intro v9 w10 own10 grow10 _)
      have HN : Hid (w10.ownsRow w.heap.size 40 4 v9 (k + 1) (fl (othL xs (k + 1))) ∧ Kept No w w10) := by
        have kg : Kept (fun j => u3.ownBlock = some j) wa w10 := ((Kept.refl _ wa).alloc _).grown grow10 (fun j e => .inl e)
        refine ⟨?_, HA.out.2.trans kg (fun j e => .inr (HOW.out j e))⟩
        rw [HLS.out, HO.out]
        exact own10
      clear own10 grow10 d0 d1 d2 d3
      go_wp2
      go_roundw
      case rel => exact ⟨k + 1, by omega, by have := HP.out; congr 1; omega, HN.out⟩
      case measure => simp [intOf] <;> omega
    · obtain rfl : k = xs.length := by omega
      have hz : ¬ (0 : Int) ≤ ((xs.length : Nat) : Int) - 1 - ((xs.length : Nat) : Int) := by omega
      clear hk
      go_wp2
      go_ret
      exact ⟨_, rfl, HW.out⟩

theorem Mf.put {w : World} {g N : Nat} {f : Nat → Srv} (h : Mf w g N f) (k : Nat) (x : Srv) : Mf ((((w.setCell ⟨g, k * 4, none⟩ (.int .i64 x.p)).setCell ⟨g, k * 4 + 1, none⟩ (.int .i64 x.b)).setCell ⟨g, k * 4 + 2, none⟩ (.int .i64 x.o)).setCell ⟨g, k * 4 + 3, none⟩ (.int .i64 x.q)) g N (fun i => if i = k then x else f i) := fun i hi => by
  obtain ⟨h0, h1, h2, h3⟩ := h i hi
  refine ⟨?_, ?_, ?_, ?_⟩
  · rw [cell_set (cell_set (cell_set (cell_set h0)))]
    by_cases e : i = k
    · subst e; simp
    · rw [if_neg (by omega), if_neg (by omega), if_neg (by omega), if_neg (by omega)]
      simp [e]
  · rw [cell_set (cell_set (cell_set (cell_set h1)))]
    by_cases e : i = k
    · subst e; simp
    · rw [if_neg (by omega), if_neg (by omega), if_neg (by omega), if_neg (by omega)]
      simp [e]
  · rw [cell_set (cell_set (cell_set (cell_set h2)))]
    by_cases e : i = k
    · subst e; simp
    · rw [if_neg (by omega), if_neg (by omega), if_neg (by omega), if_neg (by omega)]
      simp [e]
  · rw [cell_set (cell_set (cell_set (cell_set h3)))]
    by_cases e : i = k
    · subst e; simp
    · rw [if_neg (by omega), if_neg (by omega), if_neg (by omega), if_neg (by omega)]
      simp [e]
theorem Mf.ext {w : World} {g N : Nat} {f f' : Nat → Srv} (h : Mf w g N f) (e : ∀ i, i < N → f i = f' i) : Mf w g N f' := fun i hi => by rw [← e i hi]; exact h i hi
theorem put4_kept (w : World) (g k : Nat) (x : Srv) : Kept (fun j => j = g) w ((((w.setCell ⟨g, k * 4, none⟩ (.int .i64 x.p)).setCell ⟨g, k * 4 + 1, none⟩ (.int .i64 x.b)).setCell ⟨g, k * 4 + 2, none⟩ (.int .i64 x.o)).setCell ⟨g, k * 4 + 3, none⟩ (.int .i64 x.q)) :=
  Kept.setCell (F := fun j => j = g) (p := ⟨g, k * 4 + 3, none⟩) (Kept.setCell (F := fun j => j = g) (p := ⟨g, k * 4 + 2, none⟩) (Kept.setCell (F := fun j => j = g) (p := ⟨g, k * 4 + 1, none⟩) (Kept.setCell (F := fun j => j = g) (p := ⟨g, k * 4, none⟩) (Kept.refl _ w) (.inl rfl) _) (.inl rfl) _) (.inl rfl) _) (.inl rfl) _

end Go.Proofs.YtibmgpinfdcaoaaGreatDoor

namespace Go.Proofs.YtibmgpinfdcaoaaGreatDoor
open Go.RowKit Plain
set_option linter.unusedVariables false
set_option linter.unusedSimpArgs false
set_option maxRecDepth 100000

theorem oth_ok {xs : List Srv} (h : ∀ i, i < xs.length → (xs.getD i ⟨0, 0, 0, 0⟩).ok) : ∀ i, i < xs.length → ((othL xs xs.length).getD i ⟨0, 0, 0, 0⟩).ok := fun i hi => by
  rw [othL_get xs hi]
  unfold othS
  have := h (xs.length - 1 - i) (by omega)
  exact ⟨this.1, (by show I6 1; unfold I6; omega), this.2.2.1, this.2.2.2⟩

/-- the others, as servers that are read, and that may be written -/
theorem others_sv {F : Nat → Prop} {a : Option Addr} {c : Nat} {xs : List Srv} (w : World) (h : Sv w F a xs.length c xs) (hn : xs.length * 32 ≤ 140737488351232) :
    Calls Tryz.prog 26 #[.slice a xs.length c] w fun e w' => ∃ ga gc, e = .returned (.slice ga (othL xs xs.length).length gc) ∧ Sv w' (fun k => Bk9 ga k) ga (othL xs xs.length).length gc (othL xs xs.length) ∧ (∀ k, Bk9 ga k → w.heap.size ≤ k ∧ k < w'.heap.size) ∧ ((ga = none ∧ xs.length = 0) ∨ ∃ g f, ga = some ⟨g, 0, none⟩ ∧ Mf w' g xs.length f ∧ Fz w' g) ∧ Kept No w w' := by
  have hok := oth_ok (fun i hi => h.ok i hi)
  refine (others_any w h hn).mono ?_
  rintro e w' ⟨v, rfl, ho, hk⟩
  obtain ⟨ga, gc, rfl, hsv⟩ := own_sv ho (othL_len _ _) hok
  refine ⟨ga, gc, by rw [othL_len], ?_, ?_, ?_, hk⟩
  · rw [othL_len]
    refine ⟨hsv.len, hsv.cap, hsv.max, hsv.nil, fun i x hx => ?_⟩
    obtain ⟨q1, b, o, e, hb, r⟩ := hsv.at' i x hx
    rcases own_mf ho (othL_len _ _) with ⟨h1, h2⟩ | ⟨g, cap, h1, _⟩
    · have := (List.getElem?_eq_some_iff.1 hx).1
      rw [othL_len] at this
      omega
    · injection h1 with h1 _ _
      subst h1
      injection e with e
      injection e with e1 e2 _
      subst e1 e2
      exact ⟨q1, g, 0, rfl, rfl, r⟩
  · intro k hk9
    rcases own_mf ho (othL_len _ _) with ⟨h1, h2⟩ | ⟨g, cap, h1, h2, h3, _⟩
    · injection h1 with h1 _ _; subst h1; cases hk9
    · injection h1 with h1 _ _
      subst h1
      injection hk9 with e
      injection e with e _ _
      subst e
      exact ⟨h2, h3⟩
  · rcases own_mf ho (othL_len _ _) with ⟨h1, h2⟩ | ⟨g, cap, h1, h2, h3, h4, h5, h6, h7⟩
    · injection h1 with h1 _ _; exact .inl ⟨h1, h2⟩
    · injection h1 with h1 _ _
      exact .inr ⟨g, _, h1, h6, h7⟩


theorem es_nil (w : World) (F : Nat → Prop) : Es w F none 0 0 [] := ⟨rfl, Nat.le_refl _, by omega, fun i hi => by omega⟩
/-- the moved, as events that are read, and that may be written -/
theorem moved_sv {F : Nat → Prop} {a : Option Addr} {c n : Nat} {xs : List Evt} (w : World) (h : Es w F a n c xs) (hok : okE7 xs) (hb : n * 72 ≤ 140737488351232) :
    Calls Tryz.prog 27 #[.slice a n c] w fun e w' => ∃ ha hc, e = .returned (.slice ha n hc) ∧ Es w' (fun k => Bk9 ha k) ha n hc (mvL xs n) ∧ (∀ k, Bk9 ha k → w.heap.size ≤ k ∧ k < w'.heap.size) ∧ ((ha = none ∧ n = 0 ∧ hc = 0) ∨ ∃ g, ha = some ⟨g, 0, none⟩ ∧ Me w' g n (fun i => (mvL xs n).getD i dEvt)) ∧ n ≤ hc ∧ hc ≤ 9223372036854775807 ∧ Kept No w w' := by
  refine (moved_any w h hok hb).mono ?_
  rintro e w' ⟨v, rfl, ho, hk⟩
  have hsh : ∃ a c, v = .slice a n c := by
    rcases ho.2 with ⟨h5, h6⟩ | ⟨g, cap, cur, h5, _⟩
    · exact ⟨none, 0, by rw [h5, h6]⟩
    · exact ⟨_, _, h5⟩
  obtain ⟨ha, hc, rfl⟩ := hsh
  have hcc := own_cap ho
  rcases ho.2 with ⟨h5, h6⟩ | ⟨g, cap, cur, h5, g1, g2, _⟩
  · injection h5 with e1 _ e3
    subst e1 e3 h6
    refine ⟨none, 0, rfl, es_nil _ _, (fun k hk => by cases hk), .inl ⟨rfl, rfl, rfl⟩, hcc.1, hcc.2, hk⟩
  · injection h5 with e1 _ e3
    subst e1 e3
    have hme := me_own ho (mvL_len xs n)
    refine ⟨_, _, rfl, ?_, fun k hk => ?_, .inr ⟨g, rfl, hme⟩, hcc.1, hcc.2, hk⟩
    · have := hme.es (mvL xs n) (mvL_len xs n) (fun i hi => rfl) hcc.1 hcc.2
      exact ⟨this.len, this.cap, this.max, fun i hi => by obtain ⟨b, o, e, hb, r⟩ := this.at' i hi; have hb' : b = g := hb; subst hb'; exact ⟨b, o, e, rfl, r⟩⟩
    · injection hk with e
      injection e with e _ _
      subst e
      exact ⟨g1, heap_lt g2⟩
theorem Me.esB {w : World} {g N c : Nat} (es : List Evt) (h : Me w g N (fun i => es.getD i dEvt)) (hl : es.length = N) (hc : N ≤ c) (hm : c ≤ 9223372036854775807) : Es w (fun k => Bk9 (some ⟨g, 0, none⟩) k) (some ⟨g, 0, none⟩) N c es := by
  have := h.es es hl (fun i hi => rfl) hc hm
  exact ⟨this.len, this.cap, this.max, fun i hi => by obtain ⟨b, o, e, hb, r⟩ := this.at' i hi; have hb' : b = g := hb; subst hb'; exact ⟨b, o, e, rfl, r⟩⟩
end Go.Proofs.YtibmgpinfdcaoaaGreatDoor
