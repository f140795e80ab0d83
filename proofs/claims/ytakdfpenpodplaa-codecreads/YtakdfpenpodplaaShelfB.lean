/-
  The Shelf with both its halves: the half of bytes, the other two values whatever.
-/
import Derived.Test.YtakdfpenpodplaaStands
namespace Go.Proofs.Ytakdfpenpodplaa
open Go.RowKit
set_option linter.unusedVariables false
variable {C D : Value}

structure Sg (C D : Value) (w : World) (F : Nat → Prop) (s : Nat) (bvv hvv : Value) (es : List En) : Prop where
  obj : w.heap[s]? = some (.cells #[bvv, hvv, C, D] 78 (0, 0))
  bown : w.ownsRow 0 22 1 bvv es.length (es.map (·.l))
  hown : w.ownsRow 0 22 1 hvv es.length (es.map (·.h))
  far : Far bvv hvv
  ent : ∀ e ∈ es, w.ownsRow 0 5 1 e.l e.xs.length (e.xs.map bv) ∧ w.ownsRow 0 5 1 e.h e.xs.length (e.xs.map bv) ∧ ∀ x ∈ e.xs, x < 256
  apart : (enVals es).Pairwise Far
  fs : F s
  fr : ∀ k, bvv.ownBlock = some k ∨ hvv.ownBlock = some k → F k
  fe : ∀ v ∈ enVals es, ∀ k, v.ownBlock = some k → F k
  flt : ∀ k, F k → k < w.heap.size

theorem Sg.kept {w w' : World} {F G : Nat → Prop} {s : Nat} {bvv hvv : Value} {es : List En} (h : Sg C D w F s bvv hvv es) (k : Kept G w w') (hd : ∀ b, F b → ¬ G b) : Sg C D w' F s bvv hvv es := by
  have hv : ∀ e ∈ es, e.l ∈ enVals es ∧ e.h ∈ enVals es := fun e he => ⟨List.mem_flatMap.2 ⟨e, he, by simp⟩, List.mem_flatMap.2 ⟨e, he, by simp⟩⟩
  exact ⟨k.at' h.obj (hd s h.fs), k.owns h.bown (fun g hg => hd g (h.fr g (.inl hg))), k.owns h.hown (fun g hg => hd g (h.fr g (.inr hg))), h.far,
    fun e he => ⟨k.owns (h.ent e he).1 (fun g hg => hd g (h.fe _ (hv e he).1 g hg)), k.owns (h.ent e he).2.1 (fun g hg => hd g (h.fe _ (hv e he).2 g hg)), (h.ent e he).2.2⟩,
    h.apart, h.fs, h.fr, h.fe, fun j hj => Nat.lt_of_lt_of_le (h.flt j hj) k.size⟩

namespace Sg
variable {w w' : World} {F : Nat → Prop} {s : Nat} {bvv hvv : Value} {es : List En}
theorem c0 (h : Sg C D w F s bvv hvv es) : w.cell? ⟨s, 0, none⟩ = some bvv := by simp [World.cell?, h.obj]
theorem c1 (h : Sg C D w F s bvv hvv es) : w.cell? ⟨s, 1, none⟩ = some hvv := by simp [World.cell?, h.obj]
theorem c2 (h : Sg C D w F s bvv hvv es) : w.cell? ⟨s, 2, none⟩ = some C := by simp [World.cell?, h.obj]
theorem c3 (h : Sg C D w F s bvv hvv es) : w.cell? ⟨s, 3, none⟩ = some D := by simp [World.cell?, h.obj]
theorem fz (h : Sg C D w F s bvv hvv es) (i : Nat) : w.frozen? ⟨s, i, none⟩ = false := by simp [World.frozen?, h.obj]
theorem lt (h : Sg C D w F s bvv hvv es) : s < w.heap.size := heap_lt h.obj
end Sg

theorem Sg.bne {w : World} {F : Nat → Prop} {s : Nat} {bvv hvv : Value} {es : List En} (h : Sg C D w F s bvv hvv es) : bvv.ownBlock ≠ some s ∧ hvv.ownBlock ≠ some s :=
  ⟨(fun e => by exact absurd (owns_tag h.bown e h.obj) (by decide)), (fun e => by exact absurd (owns_tag h.hown e h.obj) (by decide))⟩

theorem Sg.more {wc w1 w3 : World} {F : Nat → Prop} {s : Nat} {bvv hvv v1 v2 l g : Value} {es : List En} {oA oB : Obj} {xs : List Nat} (h : Sg C D wc F s bvv hvv es)
    (own1 : w1.ownsRow 0 22 1 v1 (es.length + 1) (es.map (·.l) ++ [l])) (grow1 : (wc.alloc oA).grownBy w1 bvv.ownBlock) (at1 : v1.ownBlock = bvv.ownBlock ∨ v1.ownBlock = some (wc.alloc oA).heap.size)
    (own2 : w3.ownsRow 0 22 1 v2 (es.length + 1) (es.map (·.h) ++ [g])) (grow2 : ((w1.setCell ⟨s, 0, none⟩ v1).alloc oB).grownBy w3 hvv.ownBlock) (at2 : v2.ownBlock = hvv.ownBlock ∨ v2.ownBlock = some ((w1.setCell ⟨s, 0, none⟩ v1).alloc oB).heap.size)
    (ol : wc.ownsRow 0 5 1 l xs.length (xs.map bv)) (og : wc.ownsRow 0 5 1 g xs.length (xs.map bv)) (hx : ∀ x ∈ xs, x < 256)
    (hlF : ∀ k, l.ownBlock = some k → ¬ F k) (hgF : ∀ k, g.ownBlock = some k → ¬ F k) (hlg : Far l g) :
    Sg C D (w3.setCell ⟨s, 1, none⟩ v2) (fun k => F k ∨ l.ownBlock = some k ∨ g.ownBlock = some k ∨ (wc.heap.size ≤ k ∧ k < w3.heap.size)) s v1 v2 (es ++ [⟨l, g, xs⟩]) ∧ Kept (fun k => k = s ∨ bvv.ownBlock = some k ∨ hvv.ownBlock = some k) wc (w3.setCell ⟨s, 1, none⟩ v2) := by
  have hb := h.bne
  have hlt := h.lt
  have hbl : ∀ k, bvv.ownBlock = some k → k < wc.heap.size := fun k e => h.flt k (h.fr k (.inl e))
  have hhl : ∀ k, hvv.ownBlock = some k → k < wc.heap.size := fun k e => h.flt k (h.fr k (.inr e))
  have k1 : Kept (fun k => bvv.ownBlock = some k) wc w1 := ((Kept.refl _ _).alloc oA).grown grow1 (fun k e => .inl e)
  have k2 : Kept (fun k => k = s ∨ hvv.ownBlock = some k) w1 w3 := (((Kept.refl _ _).setCell (p := ⟨s, 0, none⟩) (.inl (.inl rfl)) v1).alloc oB).grown grow2 (fun k e => .inl (.inr e))
  have k3 : Kept (fun k => k = s ∨ hvv.ownBlock = some k) w1 (w3.setCell ⟨s, 1, none⟩ v2) := k2.setCell (p := ⟨s, 1, none⟩) (.inl (.inl rfl)) v2
  have hs1 : wc.heap.size + 1 ≤ w1.heap.size := by have := grow1.size; simpa using this
  have hs3 : w1.heap.size + 1 ≤ w3.heap.size := by have := grow2.size; simpa using this
  have kA : Kept (fun k => k = s ∨ bvv.ownBlock = some k ∨ hvv.ownBlock = some k) wc (w3.setCell ⟨s, 1, none⟩ v2) :=
    (k1.mono (fun k e => .inr (.inl e))).trans k3 (fun k e => .inl (e.elim .inl (fun e => .inr (.inr e))))
  have v1ne : ∀ k, v1.ownBlock = some k → k ≠ s ∧ hvv.ownBlock ≠ some k ∧ k < w1.heap.size ∧ (F k ∨ wc.heap.size ≤ k) := by
    intro k e
    have hl := (own1.lt k e).2
    rcases at1 with e1 | e1
    · rw [e1] at e
      exact ⟨fun e2 => hb.1 (by rw [e, e2]), fun e2 => h.far k e e2, hl, .inl (h.fr k (.inl e))⟩
    · rw [e1] at e; injection e with e; simp at e
      exact ⟨by omega, (fun e2 => by have := hhl k e2; omega), hl, .inr (by omega)⟩
  have v2ne : ∀ k, v2.ownBlock = some k → k ≠ s ∧ v1.ownBlock ≠ some k ∧ k < w3.heap.size ∧ (F k ∨ wc.heap.size ≤ k) := by
    intro k e
    have hl := (own2.lt k e).2
    rcases at2 with e1 | e1
    · rw [e1] at e
      exact ⟨fun e2 => hb.2 (by rw [e, e2]), (fun e2 => (v1ne k e2).2.1 e), hl, .inl (h.fr k (.inr e))⟩
    · rw [e1] at e; injection e with e; simp at e
      exact ⟨by omega, (fun e2 => by have := (v1ne k e2).2.2.1; omega), hl, .inr (by omega)⟩
  have hob1 : w1.heap[s]? = some (.cells #[bvv, hvv, C, D] 78 (0, 0)) := k1.at' h.obj (fun e => hb.1 e)
  have hob2 : ((w1.setCell ⟨s, 0, none⟩ v1).alloc oB).heap[s]? = some (.cells #[v1, hvv, C, D] 78 (0, 0)) := by
    refine (heap_alloc_old _ _ (by simp [World.setCell]; omega)).trans ?_
    simp [World.setCell, Array.getElem?_modify, hob1]
  have hob3 : w3.heap[s]? = some (.cells #[v1, hvv, C, D] 78 (0, 0)) :=
    (((Kept.refl (fun k => hvv.ownBlock = some k) _).grown grow2 (fun k e => .inl e)).at' hob2 (fun e => hb.2 e))
  have ne5 : ∀ {v : Value} {n : Nat} {ys : List Value}, wc.ownsRow 0 5 1 v n ys → ∀ k, v.ownBlock = some k → ¬ (k = s ∨ bvv.ownBlock = some k ∨ hvv.ownBlock = some k) := by
    intro v n ys ho k e hk
    rcases hk with rfl | hk | hk
    · exact absurd (owns_tag ho e h.obj) (by decide)
    · exact owns_far ho h.bown (by decide) k e hk
    · exact owns_far ho h.hown (by decide) k e hk
  refine ⟨⟨?_, ?_, ?_, ?_, ?_, ?_, .inl h.fs, ?_, ?_, ?_⟩, kA⟩
  · simp [World.setCell, Array.getElem?_modify, hob3]
  · rw [List.length_append, List.map_append]
    exact k3.owns own1 (fun k e hk => hk.elim (v1ne k e).1 (v1ne k e).2.1)
  · rw [List.length_append, List.map_append]
    exact ((Kept.refl (fun k => k = s) w3).setCell (p := ⟨s, 1, none⟩) (.inl rfl) v2).owns own2 (fun k e => (v2ne k e).1)
  · exact fun k e1 e2 => (v2ne k e2).2.1 e1
  · intro e he
    rcases List.mem_append.1 he with he | he
    · exact ⟨kA.owns (h.ent e he).1 (ne5 (h.ent e he).1), kA.owns (h.ent e he).2.1 (ne5 (h.ent e he).2.1), (h.ent e he).2.2⟩
    · rw [List.mem_singleton] at he; subst he
      exact ⟨kA.owns ol (ne5 ol), kA.owns og (ne5 og), hx⟩
  · rw [enVals_more, List.pairwise_append]
    refine ⟨h.apart, by simpa using hlg, ?_⟩
    intro u hu v hv
    rcases List.mem_cons.1 hv with rfl | hv
    · exact fun k e1 e2 => hlF k e2 (h.fe u hu k e1)
    · rw [List.mem_singleton] at hv; subst hv
      exact fun k e1 e2 => hgF k e2 (h.fe u hu k e1)
  · intro k e
    rcases e with e | e
    · have := v1ne k e; rcases this.2.2.2 with h1 | h1
      · exact .inl h1
      · exact .inr (.inr (.inr ⟨h1, by omega⟩))
    · have := v2ne k e; rcases this.2.2.2 with h1 | h1
      · exact .inl h1
      · exact .inr (.inr (.inr ⟨h1, by omega⟩))
  · intro v hv k e
    rw [enVals_more] at hv
    rcases List.mem_append.1 hv with hv | hv
    · exact .inl (h.fe v hv k e)
    · rcases List.mem_cons.1 hv with rfl | hv
      · exact .inr (.inl e)
      · rw [List.mem_singleton] at hv; subst hv
        exact .inr (.inr (.inl e))
  · intro k e
    have hsz : (w3.setCell ⟨s, 1, none⟩ v2).heap.size = w3.heap.size := by simp [World.setCell]
    rw [hsz]
    rcases e with e | e | e | e
    · have := h.flt k e; omega
    · have := (ol.lt k e).2; omega
    · have := (og.lt k e).2; omega
    · exact e.2

/-- behind the first append: what the store meets -/
theorem Sg.app0 {wc w1 : World} {F : Nat → Prop} {s : Nat} {bvv hvv v1 : Value} {es : List En} {oA : Obj} {N : Nat} {ys : List Value} (h : Sg C D wc F s bvv hvv es) (own1 : w1.ownsRow 0 22 1 v1 N ys) (grow1 : (wc.alloc oA).grownBy w1 bvv.ownBlock) :
    ∃ a c, v1 = .slice a N c ∧ w1.cell? ⟨s, 0, none⟩ = some bvv ∧ w1.frozen? ⟨s, 0, none⟩ = false ∧ Hid (w1.heap[s]? = some (.cells #[bvv, hvv, C, D] 78 (0, 0))) ∧ Hid (w1.ownsRow 0 22 1 hvv es.length (es.map (·.h))) := by
  have k1 : Kept (fun k => bvv.ownBlock = some k) wc w1 := ((Kept.refl _ _).alloc oA).grown grow1 (fun k e => .inl e)
  have hob1 := k1.at' h.obj (fun e => h.bne.1 e)
  obtain ⟨a, c, rfl⟩ := owns_shape own1
  exact ⟨a, c, rfl, by simp [World.cell?, hob1], by simp [World.frozen?, hob1], hob1, k1.owns h.hown (fun k e e2 => h.far k e2 e)⟩

/-- behind the second append: what the store meets -/
theorem Sg.app1 {wc W2 w3 : World} {F : Nat → Prop} {s : Nat} {bvv hvv v1 v2 : Value} {es : List En} {oB : Obj} {N : Nat} {ys : List Value} (h : Sg C D wc F s bvv hvv es) (ob : W2.heap[s]? = some (.cells #[v1, hvv, C, D] 78 (0, 0))) (own2 : w3.ownsRow 0 22 1 v2 N ys) (grow2 : (W2.alloc oB).grownBy w3 hvv.ownBlock) :
    ∃ a c, v2 = .slice a N c ∧ w3.cell? ⟨s, 1, none⟩ = some hvv ∧ w3.frozen? ⟨s, 1, none⟩ = false := by
  have k1 : Kept (fun k => hvv.ownBlock = some k) W2 w3 := ((Kept.refl _ _).alloc oB).grown grow2 (fun k e => .inl e)
  have hob1 := k1.at' ob (fun e => h.bne.2 e)
  obtain ⟨a, c, rfl⟩ := owns_shape own2
  exact ⟨a, c, rfl, by simp [World.cell?, hob1], by simp [World.frozen?, hob1]⟩

set_option maxHeartbeats 2000000 in
set_option maxRecDepth 100000 in
theorem keepB_any (C D : Value) (F G : Nat → Prop) (s : Nat) (bvv hvv : Value) (es : List En) (la wa : Option Addr) (ln lc wn wc' : Nat) (xs : List Nat) (w : World) (h : Sg C D w F s bvv hvv es) (hes : es.length < 400)
    (ol : w.ownsRow 0 5 1 (.slice la ln lc) xs.length (xs.map bv)) (hb : Bs w G wa wn wc' xs) (hx : ∀ x ∈ xs, x < 256) (hlF : ∀ k, (Value.slice la ln lc).ownBlock = some k → ¬ F k) (hsz : wn ≤ 140737488351232) :
    Calls Try.prog 56 #[.pointer (some ⟨s, 0, none⟩), .slice la ln lc, .slice wa wn wc'] w fun ex w' => ex = .returned (.tuple #[]) ∧ ∃ F' g b' h', Sg C D w' F' s b' h' (es ++ [⟨.slice la ln lc, g, xs⟩]) ∧ Kept (fun k => k = s ∨ bvv.ownBlock = some k ∨ hvv.ownBlock = some k) w w' ∧ (∀ k, F k → F' k) ∧ ∀ k, F' k → F k ∨ (Value.slice la ln lc).ownBlock = some k ∨ w.heap.size ≤ k := by
  obtain ⟨i0, hi, hz0, hz1, hz2⟩ := info_parts Try.info5
  obtain ⟨i2, hi2, hy0, hy1, hy2⟩ := info_parts Try.info22
  have HL : Hid (xs.length = wn) := hb.len
  have HB : Hid (Bs w G wa wn wc' xs) := hb
  have HS : Hid (Sg C D w F s bvv hvv es) := h
  have OL : Hid (w.ownsRow 0 5 1 (.slice la ln lc) xs.length (xs.map bv)) := ol
  have HX : Hid (∀ x ∈ xs, x < 256) := hx
  have HLF : Hid (∀ k, (Value.slice la ln lc).ownBlock = some k → ¬ F k) := hlF
  have hc0 := h.c0
  obtain ⟨ba, bc, rfl⟩ : ∃ ba bc, bvv = .slice ba es.length bc := by
    rcases owns_cells h.bown with ⟨rfl, h0⟩ | ⟨g, cap, rfl, _⟩
    · exact ⟨none, 0, by rw [h0]⟩
    · exact ⟨_, cap, rfl⟩
  obtain ⟨ha, hc, rfl⟩ := owns_shape h.hown
  obtain ⟨m, hm⟩ : ∃ m, m = es.length := ⟨_, rfl⟩
  rw [← hm] at hc0 hes
  rw [← hm] at HS
  have HM : Hid (m = es.length) := hm
  clear hb h ol hx hlF hm
  go_enter Try.func56, Try.ntmps56
  go_upto_region 2 with fail
  go_cut [6] (fun v wx => wx.ownsRow w.heap.size 5 1 v wn (xs.map bv) ∧ Below w.heap.size w wx)
  case first =>
    cases wa with
    | none =>
      have hc0 := HB.out.nil rfl
      have hn0 : wn = 0 := by have := HB.out.cap; omega
      have hx0 : xs = [] := List.eq_nil_of_length_eq_zero (by rw [HL.out]; exact hn0)
      subst hc0 hn0 hx0
      go_wp2_with (at_builtin; refine wpList_append_own_none rfl (.tmp 13) (.tmp 14) 22 rfl w.heap.size 5 i0 1 Try.underlying22 hi _ _ _ rfl (World.ownsRow_nil _ _ _ _) rfl ?_)
      go_meet
      case rel => exact ⟨World.ownsRow_nil _ _ _ _, Below.refl _ _⟩
    | some ad =>
      go_wp2_with (at_builtin; refine wpList_append_own _ rfl _ _ 22 rfl w.heap.size 5 i0 (.int .u8 0) 1 1 Try.underlying22 hi hz0 hz1 hz2 rfl (by decide) _ 0 [] rfl (World.ownsRow_nil _ _ _ _) ad wn wc' (xs.map bv) rfl (by rw [List.length_map, HL.out]; omega) HB.out.news (bv_one _) (by unfold maxLen; omega) (by omega) (Nat.le_refl _) ?_; intro v1 w1 own1 grow1 _)
      have hb1 : Below w.heap.size w w1 := (Below.refl _ _).grown grow1 (Nat.le_refl _) (fun k hk => by cases hk)
      rw [Nat.zero_add, List.nil_append] at own1
      clear grow1
      go_wp2
      go_meet
      case rel => exact ⟨own1, hb1⟩
  case rest =>
    obtain ⟨hown, hbel⟩ := hcut
    have hsc : Sg C D wc F s (.slice ba m bc) (.slice ha m hc) es := HS.out.kept (Kept.of_below (F := No) hbel) (fun _ _ h => h)
    obtain ⟨a6, c6, rfl⟩ : ∃ a6 c6, u6 = .slice a6 wn c6 := by
      rcases owns_cells hown with ⟨rfl, h0⟩ | ⟨g, cap, rfl, _⟩
      · exact ⟨none, 0, by rw [h0]⟩
      · exact ⟨_, cap, rfl⟩
    have OG : Hid (wc.ownsRow w.heap.size 5 1 (.slice a6 wn c6) wn (xs.map bv)) := hown
    have BEL : Hid (Below w.heap.size w wc) := hbel
    have HSC : Hid (Sg C D wc F s (.slice ba m bc) (.slice ha m hc) es) := hsc
    have OB : Hid (wc.ownsRow 0 22 1 (.slice ba m bc) m (es.map (·.l))) := by have := hsc.bown; rw [← HM.out] at this; exact this
    have OH : Hid (wc.ownsRow 0 22 1 (.slice ha m hc) m (es.map (·.h))) := by have := hsc.hown; rw [← HM.out] at this; exact this
    have hd0 := hsc.c0
    have hfz := hsc.fz 0
    have hss := hsc.lt
    clear hown hbel hsc hc0
    go_upto_region 4 with (at_builtin; refine wpList_append_own_at _ rfl _ _ 75 rfl 0 22 i2 (.slice none 0 0) 1 24 Try.underlying75 hi2 hy0 hy1 hy2 rfl (by decide) _ _ _ rfl (OB.out.alloc _) ⟨wc.heap.size, 0, none⟩ 1 1 [.slice la ln lc] rfl rfl (cell_one_new _ _ _) (one_slice _ _ _) (by unfold maxLen; omega) (by omega) (Nat.zero_le _) ?_; intro v1 w1 own1 grow1 _ at1; obtain ⟨a1, c1, rfl, he0, hf0, HOB1, OH1⟩ := Sg.app0 HSC.out own1 grow1; have OWN1 : Hid (w1.ownsRow 0 22 1 (.slice a1 (m + 1) c1) (m + 1) (es.map (·.l) ++ [.slice la ln lc])) := own1; have GROW1 := (show Hid _ from grow1); have AT1 := (show Hid _ from at1); clear own1 grow1 at1)
    have hob2 : (w1.setCell ⟨s, 0, none⟩ (.slice a1 (m + 1) c1)).heap[s]? = some (.cells #[.slice a1 (m + 1) c1, (.slice ha m hc), C, D] 78 (0, 0)) := by simp [World.setCell, Array.getElem?_modify, HOB1.out]
    have he1 : (w1.setCell ⟨s, 0, none⟩ (.slice a1 (m + 1) c1)).cell? ⟨s, 1, none⟩ = some (.slice ha m hc) := by simp [World.cell?, hob2]
    have hf1 : (w1.setCell ⟨s, 0, none⟩ (.slice a1 (m + 1) c1)).frozen? ⟨s, 1, none⟩ = false := by simp [World.frozen?, hob2]
    have oh2 : (w1.setCell ⟨s, 0, none⟩ (.slice a1 (m + 1) c1)).ownsRow 0 22 1 (.slice ha m hc) m (es.map (·.h)) := by
      have := ((Kept.refl (fun k => k = s) w1).setCell (p := ⟨s, 0, none⟩) (.inl rfl) (.slice a1 (m + 1) c1)).owns OH1.out (fun k e e2 => HSC.out.bne.2 (by rw [e, e2]))
      rw [← HM.out] at this; exact this
    generalize hW2 : w1.setCell ⟨s, 0, none⟩ (.slice a1 (m + 1) c1) = W2
    rw [hW2] at hob2 he1 hf1 oh2
    have HOB2 : Hid (W2.heap[s]? = some (.cells #[.slice a1 (m + 1) c1, .slice ha m hc, C, D] 78 (0, 0))) := hob2
    have OH2 : Hid (W2.ownsRow 0 22 1 (.slice ha m hc) m (es.map (·.h))) := oh2
    have HW2 : Hid (w1.setCell ⟨s, 0, none⟩ (.slice a1 (m + 1) c1) = W2) := hW2
    clear hob2 oh2 hW2 he0 hf0 hd0 hfz
    go_wp2_with (at_builtin; refine wpList_append_own_at _ rfl _ _ 75 rfl 0 22 i2 (.slice none 0 0) 1 24 Try.underlying75 hi2 hy0 hy1 hy2 rfl (by decide) _ _ _ rfl (OH2.out.alloc _) ⟨W2.heap.size, 0, none⟩ 1 1 [.slice a6 wn c6] rfl rfl (cell_one_new _ _ _) (one_slice _ _ _) (by unfold maxLen; omega) (by omega) (Nat.zero_le _) ?_; intro v2 w3 own2 grow2 _ at2; obtain ⟨a2, c2, rfl, he2, hf2⟩ := Sg.app1 HSC.out HOB2.out own2 grow2; have OWN2 : Hid (w3.ownsRow 0 22 1 (.slice a2 (m + 1) c2) (m + 1) (es.map (·.h) ++ [.slice a6 wn c6])) := own2; have GROW2 := (show Hid _ from grow2); have AT2 := (show Hid _ from at2); clear own2 grow2 at2)
    go_end0
    have hsz1 := BEL.out.size
    have h1 := HM.out
    have h2 := HL.out
    have grow2 := GROW2.out
    have at2 := AT2.out
    rw [← HW2.out] at grow2 at2
    have own1 : w1.ownsRow 0 22 1 (.slice a1 (m + 1) c1) (es.length + 1) (es.map (·.l) ++ [.slice la ln lc]) := by rw [← h1]; exact OWN1.out
    have own2 : w3.ownsRow 0 22 1 (.slice a2 (m + 1) c2) (es.length + 1) (es.map (·.h) ++ [.slice a6 wn c6]) := by rw [← h1]; exact OWN2.out
    have og : wc.ownsRow w.heap.size 5 1 (.slice a6 wn c6) xs.length (xs.map bv) := by rw [h2]; exact OG.out
    have hsl := (Kept.of_below (F := No) BEL.out)
    obtain ⟨hsh, hkp⟩ := Sg.more HSC.out own1 GROW1.out AT1.out own2 grow2 at2 (hsl.owns OL.out (fun _ _ h => h)) (owns_base og (Nat.zero_le _)) HX.out HLF.out (fun k e hF => by have := (og.lt k e).1; have := HS.out.flt k hF; omega) (fun k e e2 => by have := (og.lt k e2).1; have := (OL.out.lt k e).2; omega)
    refine ⟨rfl, _, _, _, _, hsh, (Kept.of_below (F := fun k => k = s ∨ (Value.slice ba m bc).ownBlock = some k ∨ (Value.slice ha m hc).ownBlock = some k) BEL.out).trans hkp (fun k h => .inl h) |> (fun q => q.mono (fun k e => by rw [h1] at e; exact e)), fun k h => .inl h, ?_⟩
    intro k hk
    rcases hk with hk | hk | hk | hk
    · exact .inl hk
    · exact .inr (.inl hk)
    · exact .inr (.inr (og.lt k hk).1)
    · exact .inr (.inr (by omega))

/-- a thing on the shelf, read -/
theorem Sg.look {w : World} {F : Nat → Prop} {s : Nat} {bvv hvv : Value} {es : List En} (h : Sg C D w F s bvv hvv es) {j : Nat} (hj : j < es.length) :
    ∃ g gc k kc e, bvv = .slice (some ⟨g, 0, none⟩) es.length gc ∧ hvv = .slice (some ⟨k, 0, none⟩) es.length kc ∧ es[j]? = some e ∧ w.cell? ⟨g, j, none⟩ = some e.l ∧ w.cell? ⟨k, j, none⟩ = some e.h ∧ e ∈ es := by
  obtain ⟨e, he⟩ : ∃ e, es[j]? = some e := ⟨es[j], List.getElem?_eq_getElem hj⟩
  have hmem : e ∈ es := List.mem_of_getElem? he
  rcases owns_cells h.bown with ⟨_, h0⟩ | ⟨g, gc, hb, _, _, _, _, hc, _⟩
  · omega
  rcases owns_cells h.hown with ⟨_, h0⟩ | ⟨k, kc, hh, _, _, _, _, hc2, _⟩
  · omega
  exact ⟨g, gc, k, kc, e, hb, hh, he, hc j _ (by rw [List.getElem?_map, he]; rfl), hc2 j _ (by rw [List.getElem?_map, he]; rfl), hmem⟩

theorem Sg.drewN {w : World} {F : Nat → Prop} {s : Nat} {bvv hvv : Value} {es : List En} (h : Sg C D w F s bvv hvv es) (n : Nat) : Sg C D (w.drewN n) F s bvv hvv es :=
  h.kept ((Kept.refl No w).drewN n) (fun _ _ h => h)

theorem Sg.pair {w : World} {F : Nat → Prop} {s : Nat} {bvv hvv : Value} {es : List En} (h : Sg C D w F s bvv hvv es) {e : En} (he : e ∈ es) :
    ∃ a c a' c', e.l = .slice a e.xs.length c ∧ e.h = .slice a' e.xs.length c' ∧ ∀ n, Calls Try.prog 12 #[.slice a e.xs.length c, .slice a' e.xs.length c'] (w.drewN n) fun ex w' => ex = .returned (.bool true) ∧ ∃ k, w' = (w.drewN n).drewN k := by
  obtain ⟨h1, h2, h3⟩ := h.ent e he
  obtain ⟨a, c, hl, hB⟩ := Bs.of_owns h1 h3
  obtain ⟨a', c', hh, hB'⟩ := Bs.of_owns h2 h3
  refine ⟨a, c, a', c', hl, hh, fun n => ?_⟩
  have := same_any _ _ _ _ _ _ _ _ _ _ (w.drewN n) (hB.drewN n) (hB'.drewN n)
  simpa using this

/-- one list of the shelf and its copy turned where they lie -/
theorem Sg.chg {w w' : World} {F : Nat → Prop} {s : Nat} {bvv hvv : Value} {es : List En} (h : Sg C D w F s bvv hvv es) {i : Nat} {e : En} (hi : es[i]? = some e) {ys : List Nat} (hyl : ys.length = e.xs.length)
    (hk : Kept (fun k => e.l.ownBlock = some k ∨ e.h.ownBlock = some k) w w') (hl : w'.ownsRow 0 5 1 e.l ys.length (ys.map bv)) (hh : w'.ownsRow 0 5 1 e.h ys.length (ys.map bv)) (hy : ∀ y ∈ ys, y < 256) :
    Sg C D w' F s bvv hvv (es.set i ⟨e.l, e.h, ys⟩) := by
  have hmem := List.mem_of_getElem? hi
  obtain ⟨o1, o2, _⟩ := h.ent e hmem
  have nl : ∀ {v : Value} {n : Nat} {xs : List Value}, w.ownsRow 0 22 1 v n xs → ∀ k, v.ownBlock = some k → ¬ (e.l.ownBlock = some k ∨ e.h.ownBlock = some k) := by
    intro v n xs ho k e1 e2
    rcases e2 with e2 | e2
    · exact owns_far ho o1 (by decide) k e1 e2
    · exact owns_far ho o2 (by decide) k e1 e2
  have hlt : i < es.length := (List.getElem?_eq_some_iff.1 hi).1
  refine ⟨hk.at' h.obj ?_, ?_, ?_, h.far, ?_, ?_, h.fs, h.fr, ?_, fun j hj => Nat.lt_of_lt_of_le (h.flt j hj) hk.size⟩
  · rintro (e2 | e2)
    · exact absurd (owns_tag o1 e2 h.obj) (by decide)
    · exact absurd (owns_tag o2 e2 h.obj) (by decide)
  · rw [(map_set_l es i e hi ys).1, List.length_set]; exact hk.owns h.bown (nl h.bown)
  · rw [(map_set_l es i e hi ys).2, List.length_set]; exact hk.owns h.hown (nl h.hown)
  · intro f hf
    obtain ⟨j, hj⟩ := List.getElem?_of_mem hf
    rw [List.getElem?_set] at hj
    by_cases hij : i = j
    · subst hij
      simp [hlt] at hj
      subst hj
      exact ⟨hl, hh, hy⟩
    · rw [if_neg hij] at hj
      obtain ⟨q1, q2, q3⟩ := h.ent f (List.mem_of_getElem? hj)
      have far : (Far e.l f.l ∧ Far e.l f.h) ∧ (Far e.h f.l ∧ Far e.h f.h) := by
        rcases Nat.lt_or_gt_of_ne hij with h1 | h1
        · exact apart_two es h.apart i j e f h1 hi hj
        · have := apart_two es h.apart j i f e h1 hj hi
          exact ⟨⟨this.1.1.symm, this.2.1.symm⟩, ⟨this.1.2.symm, this.2.2.symm⟩⟩
      exact ⟨hk.owns q1 (fun k e1 e2 => e2.elim (fun e2 => far.1.1 k e2 e1) (fun e2 => far.2.1 k e2 e1)), hk.owns q2 (fun k e1 e2 => e2.elim (fun e2 => far.1.2 k e2 e1) (fun e2 => far.2.2 k e2 e1)), q3⟩
  · rw [enVals_set es i e hi ys]; exact h.apart
  · rw [enVals_set es i e hi ys]; exact h.fe

theorem Sg.grew {w0 w w' : World} {F : Nat → Prop} {s : Nat} {bvv hvv : Value} {es : List En} (h : Sg C D w F s bvv hvv es) {i : Nat} {e : En} (hi : es[i]? = some e) {l v' : Value} {q : Nat} {zs : List Value} {u : Value} {o : Obj}
    (k0 : Kept F w0 w) (hlong : Long w0.heap.size F e l q) (own : w'.ownsRow 0 5 1 v' (e.xs.length + q + 1) ((e.xs.map bv ++ zs) ++ [u]))
    (two : (∃ g cap, l = .slice (some ⟨g, 0, none⟩) (e.xs.length + q) cap ∧ v' = .slice (some ⟨g, 0, none⟩) (e.xs.length + q + 1) cap ∧ (w.alloc o).grownBy w' (some g)) ∨ (v'.ownBlock = some (w.alloc o).heap.size ∧ (w.alloc o).grownBy w' none)) :
    Sg C D w' F s bvv hvv es ∧ Long w0.heap.size F e v' (q + 1) ∧ Kept F w0 w' ∧ w'.ownsRow 0 5 1 v' (e.xs.length + (q + 1)) (e.xs.map bv ++ (zs ++ [u])) := by
  have own' : w'.ownsRow 0 5 1 v' (e.xs.length + (q + 1)) (e.xs.map bv ++ (zs ++ [u])) := by rw [← List.append_assoc, ← Nat.add_assoc]; exact own
  have hmem := List.mem_of_getElem? hi
  obtain ⟨o1, o2, o3⟩ := h.ent e hmem
  rcases two with ⟨g, cap, rfl, rfl, hg⟩ | ⟨hv, hg⟩
  · have k1 : Kept (fun k => k = g) w w' := ((Kept.refl _ _).alloc o).grown hg (fun k e => .inl (by injection e with e; exact e.symm))
    rcases hlong with ⟨g', cap', he, hl⟩ | hn
    · injection hl with h1 h2 h3
      injection h1 with h1
      injection h1 with h1
      subst h1 h3
      have hF : F g := h.fe e.l (mem_enVals hmem).1 g (by rw [he]; rfl)
      have ol : w'.ownsRow 0 5 1 e.l e.xs.length (e.xs.map bv) := by rw [he]; exact owns_head own' (by simp)
      have k2 : Kept (fun k => e.l.ownBlock = some k ∨ e.h.ownBlock = some k) w w' := k1.mono (fun k hk => .inl (by rw [he, hk]; rfl))
      have oh : w'.ownsRow 0 5 1 e.h e.xs.length (e.xs.map bv) := k1.owns o2 (fun k e1 e2 => apart_self es h.apart i e hi g (by rw [he]; rfl) (by rw [e1, e2]))
      have := h.chg hi (ys := e.xs) rfl k2 ol oh o3
      rw [set_same es i e hi] at this
      exact ⟨this, .inl ⟨g, cap, he, rfl⟩, k0.trans k1 (fun k hk => .inl (by rw [hk]; exact hF)), own'⟩
    · obtain ⟨hnF, hge⟩ := hn g rfl
      exact ⟨h.kept k1 (fun b hb e => hnF (e ▸ hb)), .inr (fun k e => by simp [Value.ownBlock] at e; exact e ▸ ⟨hnF, hge⟩), k0.trans k1 (fun k hk => .inr (by rw [hk]; exact hge)), own'⟩
  · have k1 : Kept No w w' := ((Kept.refl _ _).alloc o).grown hg (fun k e => by cases e)
    refine ⟨h.kept k1 (fun _ _ h => h), .inr (fun k e => ?_), k0.trans k1 (fun _ h => h.elim), own'⟩
    rw [hv] at e; injection e with e; simp at e
    have := k0.size
    exact ⟨(fun hF => by have := h.flt k hF; omega), by omega⟩

/-- one mark, in a list of the shelf and in its copy -/
theorem Sg.mark {w : World} {F : Nat → Prop} {s : Nat} {bvv hvv : Value} {es : List En} (h : Sg C D w F s bvv hvv es) {j : Nat} {e : En} (hi : es[j]? = some e) {lb lc hb hc n : Nat}
    (el : e.l = .slice (some ⟨lb, 0, none⟩) n lc) (eh : e.h = .slice (some ⟨hb, 0, none⟩) n hc) (hn : e.xs.length = n) {q : Nat} (hq : q < n) {x : Nat} (hx : x < 256) :
    ∃ y z : Nat, w.cell? ⟨lb, q, none⟩ = some (.int .u8 (y : Nat)) ∧ w.frozen? ⟨lb, q, none⟩ = false ∧ (w.setCell ⟨lb, q, none⟩ (.int .u8 (x : Nat))).cell? ⟨hb, q, none⟩ = some (.int .u8 (z : Nat)) ∧ (w.setCell ⟨lb, q, none⟩ (.int .u8 (x : Nat))).frozen? ⟨hb, q, none⟩ = false ∧
      (w.setCell ⟨lb, q, none⟩ (.int .u8 (x : Nat))).cell? ⟨s, 1, none⟩ = some hvv ∧ (∀ k i v, hvv.ownBlock = some k → w.cell? ⟨k, i, none⟩ = some v → (w.setCell ⟨lb, q, none⟩ (.int .u8 (x : Nat))).cell? ⟨k, i, none⟩ = some v) ∧
      Sg C D ((w.setCell ⟨lb, q, none⟩ (.int .u8 (x : Nat))).setCell ⟨hb, q, none⟩ (.int .u8 (x : Nat))) F s bvv hvv (es.set j ⟨e.l, e.h, e.xs.set q x⟩) ∧ F lb ∧ F hb := by
  have hmem := List.mem_of_getElem? hi
  obtain ⟨o1, o2, o3⟩ := h.ent e hmem
  have hlb : e.l.ownBlock = some lb := by rw [el]; rfl
  have hhb : e.h.ownBlock = some hb := by rw [eh]; rfl
  have hself := apart_self es h.apart j e hi
  have hne : hb ≠ lb := fun e1 => hself lb hlb (by rw [hhb, e1])
  have k1 : Kept (fun b => b = lb) w (w.setCell ⟨lb, q, none⟩ (bv x)) := (Kept.refl (fun b => b = lb) w).setCell (p := ⟨lb, q, none⟩) (.inl rfl) _
  have hqx : q < e.xs.length := by omega
  obtain ⟨c1, f1⟩ := owns_at o1 hlb hqx
  have o2' := k1.owns o2 (fun k e1 e2 => hne (by rw [hhb] at e1; injection e1 with e1; omega))
  obtain ⟨c2, f2⟩ := owns_at o2' hhb hqx
  have hs1 : ¬ s = lb := fun e1 => absurd (owns_tag o1 (e1 ▸ hlb) h.obj) (by decide)
  have w1 := owns_set o1 hlb hqx x
  have w2 := owns_set o2' hhb hqx x
  have k2 : Kept (fun b => b = hb) (w.setCell ⟨lb, q, none⟩ (bv x)) ((w.setCell ⟨lb, q, none⟩ (bv x)).setCell ⟨hb, q, none⟩ (bv x)) := (Kept.refl (fun b => b = hb) _).setCell (p := ⟨hb, q, none⟩) (.inl rfl) _
  have w1' := k2.owns w1 (fun k e1 e2 => hne (by rw [hlb] at e1; injection e1 with e1; omega))
  have kk : Kept (fun k => e.l.ownBlock = some k ∨ e.h.ownBlock = some k) w ((w.setCell ⟨lb, q, none⟩ (bv x)).setCell ⟨hb, q, none⟩ (bv x)) :=
    (k1.mono (fun k hk => .inl (by rw [hk]; exact hlb))).trans k2 (fun k hk => .inl (.inr (by rw [hk]; exact hhb)))
  refine ⟨_, _, c1, f1, c2, f2, k1.cell h.c1 hs1, ?_, ?_, h.fe _ (mem_enVals hmem).1 lb hlb, h.fe _ (mem_enVals hmem).2 hb hhb⟩
  · intro k i v e1 e2
    exact k1.cell e2 (fun e3 => owns_far h.hown o1 (by decide) k e1 (by rw [hlb]; exact congrArg some e3.symm))
  · refine h.chg hi (by rw [List.length_set]) kk (by rw [List.length_set]; exact w1') (by rw [List.length_set]; exact w2) ?_
    intro y hy
    rcases List.mem_or_eq_of_mem_set hy with h1 | h1
    · exact o3 y h1
    · rw [h1]; exact hx


end Go.Proofs.Ytakdfpenpodplaa
