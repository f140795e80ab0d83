/-
  Shelf.keep.
-/
import Derived.Test.YtgapljgnedbkiaaShelf
import Derived.Maps.AppendAt
namespace Go.Proofs.Ytgapljgnedbkiaa
open Go.RowKit
set_option linter.unusedVariables false

theorem one_slice (a : Option Addr) (n c : Nat) : ∀ u ∈ [Value.slice a n c], u.oneCell' = true := by
  intro u hu; rw [List.mem_singleton] at hu; subst hu; rfl

theorem owns_shape {w : World} {B t N : Nat} {v : Value} {ys : List Value} (h : w.ownsRow B t 1 v N ys) : ∃ a c, v = .slice a N c := by
  rcases owns_cells h with ⟨rfl, h0⟩ | ⟨g, cap, rfl, _⟩
  · exact ⟨none, 0, by rw [h0]⟩
  · exact ⟨_, cap, rfl⟩

/-- behind the first append: what the store meets -/
theorem Sh.app0 {wc w1 : World} {F : Nat → Prop} {s : Nat} {bvv hvv v1 : Value} {es : List En} {oA : Obj} {N : Nat} {ys : List Value} (h : Sh wc F s bvv hvv es) (own1 : w1.ownsRow 0 22 1 v1 N ys) (grow1 : (wc.alloc oA).grownBy w1 bvv.ownBlock) :
    ∃ a c, v1 = .slice a N c ∧ w1.cell? ⟨s, 0, none⟩ = some bvv ∧ w1.frozen? ⟨s, 0, none⟩ = false ∧ Hid (w1.heap[s]? = some (.cells #[bvv, hvv] 48 (0, 0))) ∧ Hid (w1.ownsRow 0 22 1 hvv es.length (es.map (·.h))) := by
  have k1 : Kept (fun k => bvv.ownBlock = some k) wc w1 := ((Kept.refl _ _).alloc oA).grown grow1 (fun k e => .inl e)
  have hob1 := k1.at' h.obj (fun e => h.bne.1 e)
  obtain ⟨a, c, rfl⟩ := owns_shape own1
  exact ⟨a, c, rfl, by simp [World.cell?, hob1], by simp [World.frozen?, hob1], hob1, k1.owns h.hown (fun k e e2 => h.far k e2 e)⟩

/-- behind the second append: what the store meets -/
theorem Sh.app1 {wc W2 w3 : World} {F : Nat → Prop} {s : Nat} {bvv hvv v1 v2 : Value} {es : List En} {oB : Obj} {N : Nat} {ys : List Value} (h : Sh wc F s bvv hvv es) (ob : W2.heap[s]? = some (.cells #[v1, hvv] 48 (0, 0))) (own2 : w3.ownsRow 0 22 1 v2 N ys) (grow2 : (W2.alloc oB).grownBy w3 hvv.ownBlock) :
    ∃ a c, v2 = .slice a N c ∧ w3.cell? ⟨s, 1, none⟩ = some hvv ∧ w3.frozen? ⟨s, 1, none⟩ = false := by
  have k1 : Kept (fun k => hvv.ownBlock = some k) W2 w3 := ((Kept.refl _ _).alloc oB).grown grow2 (fun k e => .inl e)
  have hob1 := k1.at' ob (fun e => h.bne.2 e)
  obtain ⟨a, c, rfl⟩ := owns_shape own2
  exact ⟨a, c, rfl, by simp [World.cell?, hob1], by simp [World.frozen?, hob1]⟩

/-- the shelf, its own values hidden -/
def Shf (w : World) (F : Nat → Prop) (s : Nat) (es : List En) : Prop := ∃ b h, Sh w F s b h es

set_option maxHeartbeats 2000000 in
set_option maxRecDepth 100000 in
theorem keep_any (F G : Nat → Prop) (s : Nat) (es : List En) (la wa : Option Addr) (ln lc wn wc' : Nat) (xs : List Int) (w : World) (h : Shf w F s es) (hes : es.length < 400)
    (ol : w.ownsRow 0 2 1 (.slice la ln lc) xs.length (xs.map iv)) (hb : Zs w G wa wn wc' xs) (hx : ∀ x ∈ xs, x = x) (hlF : ∀ k, (Value.slice la ln lc).ownBlock = some k → ¬ F k) (hsz : wn ≤ 17592186043904) :
    Calls Try.prog 27 #[.pointer (some ⟨s, 0, none⟩), .slice la ln lc, .slice wa wn wc'] w fun ex w' => ex = .returned (.tuple #[]) ∧ ∃ F' g, Shf w' F' s (es ++ [⟨.slice la ln lc, g, xs⟩]) ∧ Kept F w w' ∧ ∀ k, F' k → F k ∨ (Value.slice la ln lc).ownBlock = some k ∨ w.heap.size ≤ k := by
  obtain ⟨bvv, hvv, h⟩ := h
  obtain ⟨i0, hi, hz0, hz1, hz2⟩ := info_parts Try.info2
  obtain ⟨i2, hi2, hy0, hy1, hy2⟩ := info_parts Try.info22
  have HL : Hid (xs.length = wn) := hb.len
  have HB : Hid (Zs w G wa wn wc' xs) := hb
  have HS : Hid (Sh w F s bvv hvv es) := h
  have OL : Hid (w.ownsRow 0 2 1 (.slice la ln lc) xs.length (xs.map iv)) := ol
  have HX : Hid (∀ x ∈ xs, x = x) := hx
  have HLF : Hid (∀ k, (Value.slice la ln lc).ownBlock = some k → ¬ F k) := hlF
  have hc0 := h.c0
  obtain ⟨ba, bc, rfl⟩ : ∃ ba bc, bvv = .slice ba es.length bc := by
    rcases owns_cells h.bown with ⟨rfl, h0⟩ | ⟨g, cap, rfl, _⟩
    · exact ⟨none, 0, by rw [h0]⟩
    · exact ⟨_, cap, rfl⟩
  obtain ⟨ha, hc, rfl⟩ := owns_shape h.hown
  obtain ⟨m, hm⟩ : ∃ m, m = es.length := ⟨_, rfl⟩
  rw [← hm] at hc0 hes
  rw [← hm] at HS
  have HM : Hid (m = es.length) := hm
  clear hb h ol hx hlF hm
  go_enter Try.func27, Try.ntmps27
  go_upto_region 2 with fail
  go_cut [6] (fun v wx => wx.ownsRow w.heap.size 2 1 v wn (xs.map iv) ∧ Below w.heap.size w wx)
  case first =>
    cases wa with
    | none =>
      have hc0 := HB.out.nil rfl
      have hn0 : wn = 0 := by have := HB.out.cap; omega
      have hx0 : xs = [] := List.eq_nil_of_length_eq_zero (by rw [HL.out]; exact hn0)
      subst hc0 hn0 hx0
      go_wp2_with (at_builtin; refine wpList_append_own_none rfl (.tmp 13) (.tmp 14) 22 rfl w.heap.size 2 i0 1 Try.underlying22 hi _ _ _ rfl (World.ownsRow_nil _ _ _ _) rfl ?_)
      go_meet
      case rel => exact ⟨World.ownsRow_nil _ _ _ _, Below.refl _ _⟩
    | some ad =>
      go_wp2_with (at_builtin; refine wpList_append_own _ rfl _ _ 22 rfl w.heap.size 2 i0 (.int .i64 0) 1 8 Try.underlying22 hi hz0 hz1 hz2 rfl (by decide) _ 0 [] rfl (World.ownsRow_nil _ _ _ _) ad wn wc' (xs.map iv) rfl (by rw [List.length_map, HL.out]; omega) HB.out.news (iv_one _) (by unfold maxLen; omega) (by omega) (Nat.le_refl _) ?_; intro v1 w1 own1 grow1 _)
      have hb1 : Below w.heap.size w w1 := (Below.refl _ _).grown grow1 (Nat.le_refl _) (fun k hk => by cases hk)
      rw [Nat.zero_add, List.nil_append] at own1
      clear grow1
      go_wp2
      go_meet
      case rel => exact ⟨own1, hb1⟩
  case rest =>
    obtain ⟨hown, hbel⟩ := hcut
    have hsc : Sh wc F s (.slice ba m bc) (.slice ha m hc) es := HS.out.kept (Kept.of_below (F := No) hbel) (fun _ _ h => h)
    obtain ⟨a6, c6, rfl⟩ : ∃ a6 c6, u6 = .slice a6 wn c6 := by
      rcases owns_cells hown with ⟨rfl, h0⟩ | ⟨g, cap, rfl, _⟩
      · exact ⟨none, 0, by rw [h0]⟩
      · exact ⟨_, cap, rfl⟩
    have OG : Hid (wc.ownsRow w.heap.size 2 1 (.slice a6 wn c6) wn (xs.map iv)) := hown
    have BEL : Hid (Below w.heap.size w wc) := hbel
    have HSC : Hid (Sh wc F s (.slice ba m bc) (.slice ha m hc) es) := hsc
    have OB : Hid (wc.ownsRow 0 22 1 (.slice ba m bc) m (es.map (·.l))) := by have := hsc.bown; rw [← HM.out] at this; exact this
    have OH : Hid (wc.ownsRow 0 22 1 (.slice ha m hc) m (es.map (·.h))) := by have := hsc.hown; rw [← HM.out] at this; exact this
    have hd0 := hsc.c0
    have hfz := hsc.fz 0
    have hss := hsc.lt
    clear hown hbel hsc hc0
    go_upto_region 4 with (at_builtin; refine wpList_append_own_at _ rfl _ _ 46 rfl 0 22 i2 (.slice none 0 0) 1 24 Try.underlying46 hi2 hy0 hy1 hy2 rfl (by decide) _ _ _ rfl (OB.out.alloc _) ⟨wc.heap.size, 0, none⟩ 1 1 [.slice la ln lc] rfl rfl (cell_one_new _ _ _) (one_slice _ _ _) (by unfold maxLen; omega) (by omega) (Nat.zero_le _) ?_; intro v1 w1 own1 grow1 _ at1; obtain ⟨a1, c1, rfl, he0, hf0, HOB1, OH1⟩ := Sh.app0 HSC.out own1 grow1; have OWN1 : Hid (w1.ownsRow 0 22 1 (.slice a1 (m + 1) c1) (m + 1) (es.map (·.l) ++ [.slice la ln lc])) := own1; have GROW1 := (show Hid _ from grow1); have AT1 := (show Hid _ from at1); clear own1 grow1 at1)
    have hob2 : (w1.setCell ⟨s, 0, none⟩ (.slice a1 (m + 1) c1)).heap[s]? = some (.cells #[.slice a1 (m + 1) c1, (.slice ha m hc)] 48 (0, 0)) := by simp [World.setCell, Array.getElem?_modify, HOB1.out]
    have he1 : (w1.setCell ⟨s, 0, none⟩ (.slice a1 (m + 1) c1)).cell? ⟨s, 1, none⟩ = some (.slice ha m hc) := by simp [World.cell?, hob2]
    have hf1 : (w1.setCell ⟨s, 0, none⟩ (.slice a1 (m + 1) c1)).frozen? ⟨s, 1, none⟩ = false := by simp [World.frozen?, hob2]
    have oh2 : (w1.setCell ⟨s, 0, none⟩ (.slice a1 (m + 1) c1)).ownsRow 0 22 1 (.slice ha m hc) m (es.map (·.h)) := by
      have := ((Kept.refl (fun k => k = s) w1).setCell (p := ⟨s, 0, none⟩) (.inl rfl) (.slice a1 (m + 1) c1)).owns OH1.out (fun k e e2 => HSC.out.bne.2 (by rw [e, e2]))
      rw [← HM.out] at this; exact this
    generalize hW2 : w1.setCell ⟨s, 0, none⟩ (.slice a1 (m + 1) c1) = W2
    rw [hW2] at hob2 he1 hf1 oh2
    have HOB2 : Hid (W2.heap[s]? = some (.cells #[.slice a1 (m + 1) c1, .slice ha m hc] 48 (0, 0))) := hob2
    have OH2 : Hid (W2.ownsRow 0 22 1 (.slice ha m hc) m (es.map (·.h))) := oh2
    have HW2 : Hid (w1.setCell ⟨s, 0, none⟩ (.slice a1 (m + 1) c1) = W2) := hW2
    clear hob2 oh2 hW2 he0 hf0 hd0 hfz
    go_wp2_with (at_builtin; refine wpList_append_own_at _ rfl _ _ 46 rfl 0 22 i2 (.slice none 0 0) 1 24 Try.underlying46 hi2 hy0 hy1 hy2 rfl (by decide) _ _ _ rfl (OH2.out.alloc _) ⟨W2.heap.size, 0, none⟩ 1 1 [.slice a6 wn c6] rfl rfl (cell_one_new _ _ _) (one_slice _ _ _) (by unfold maxLen; omega) (by omega) (Nat.zero_le _) ?_; intro v2 w3 own2 grow2 _ at2; obtain ⟨a2, c2, rfl, he2, hf2⟩ := Sh.app1 HSC.out HOB2.out own2 grow2; have OWN2 : Hid (w3.ownsRow 0 22 1 (.slice a2 (m + 1) c2) (m + 1) (es.map (·.h) ++ [.slice a6 wn c6])) := own2; have GROW2 := (show Hid _ from grow2); have AT2 := (show Hid _ from at2); clear own2 grow2 at2)
    go_end0
    have hsz1 := BEL.out.size
    have h1 := HM.out
    have h2 := HL.out
    have grow2 := GROW2.out
    have at2 := AT2.out
    rw [← HW2.out] at grow2 at2
    have own1 : w1.ownsRow 0 22 1 (.slice a1 (m + 1) c1) (es.length + 1) (es.map (·.l) ++ [.slice la ln lc]) := by rw [← h1]; exact OWN1.out
    have own2 : w3.ownsRow 0 22 1 (.slice a2 (m + 1) c2) (es.length + 1) (es.map (·.h) ++ [.slice a6 wn c6]) := by rw [← h1]; exact OWN2.out
    have og : wc.ownsRow w.heap.size 2 1 (.slice a6 wn c6) xs.length (xs.map iv) := by rw [h2]; exact OG.out
    have hsl := (Kept.of_below (F := No) BEL.out)
    obtain ⟨hsh, hkp⟩ := Sh.more HSC.out own1 GROW1.out AT1.out own2 grow2 at2 (hsl.owns OL.out (fun _ _ h => h)) (owns_base og (Nat.zero_le _)) (fun _ _ => rfl) HLF.out (fun k e hF => by have := (og.lt k e).1; have := HS.out.flt k hF; omega) (fun k e e2 => by have := (og.lt k e2).1; have := (OL.out.lt k e).2; omega)
    refine ⟨rfl, _, ⟨_, _, _, hsh⟩, (Kept.of_below (F := F) BEL.out).trans hkp (fun k h => .inl h), ?_⟩
    intro k hk
    rcases hk with hk | hk | hk | hk
    · exact .inl hk
    · exact .inr (.inl hk)
    · exact .inr (.inr (og.lt k hk).1)
    · exact .inr (.inr (by omega))


theorem keep_full (F : Nat → Prop) (s : Nat) (es : List En) (u v : Value) (w : World) (h : Shf w F s es) (hes : es.length = 400) :
    Calls Try.prog 27 #[.pointer (some ⟨s, 0, none⟩), u, v] w fun ex w' => ex = .returned (.tuple #[]) ∧ w' = w := by
  obtain ⟨bvv, hvv, h⟩ := h
  have hc0 := h.c0
  obtain ⟨ba, bc, rfl⟩ := owns_shape h.bown
  rw [hes] at hc0
  clear h
  go_enter Try.func27, Try.ntmps27
  go_wp2
  go_end0
  exact ⟨rfl, rfl⟩

end Go.Proofs.Ytgapljgnedbkiaa
