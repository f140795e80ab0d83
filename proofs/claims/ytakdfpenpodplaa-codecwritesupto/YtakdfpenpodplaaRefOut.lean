/-
  The document's writer Out: its object, Fail, Put.
-/
import Derived.Test.YtakdfpenpodplaaRefSum
import Derived.Test.YtakdfpenpodplaaWrDone
import Derived.Test.YtakdfpenpodplaaKeep
namespace Go.Proofs.Ytakdfpenpodplaa
open Go.RowKit
set_option linter.unusedVariables false

/-- block p is an Out: its slice v owns the bytes bs, its fault is e; its blocks lie in F. -/
structure OuV (w : World) (F : Nat → Prop) (p : Nat) (v : Value) (bs : List Nat) (e : Int) : Prop where
  obj : w.heap[p]? = some (.cells #[v, .int .i64 e] 61 (0, 0))
  own : w.ownsRow 0 5 1 v bs.length (bs.map bv)
  fp : F p
  fv : ∀ g, v.ownBlock = some g → F g
  flt : ∀ k, F k → k < w.heap.size
  lt : ∀ x ∈ bs, x < 256

def Ou (w : World) (F : Nat → Prop) (p : Nat) (bs : List Nat) (e : Int) : Prop := ∃ v, OuV w F p v bs e

namespace OuV
variable {w w' : World} {F G : Nat → Prop} {p : Nat} {v : Value} {bs : List Nat} {e : Int}
theorem c0 (h : OuV w F p v bs e) : w.cell? ⟨p, 0, none⟩ = some v := by simp [World.cell?, h.obj]
theorem c1 (h : OuV w F p v bs e) : w.cell? ⟨p, 1, none⟩ = some (.int .i64 e) := by simp [World.cell?, h.obj]
theorem fz (h : OuV w F p v bs e) (i : Nat) : w.frozen? ⟨p, i, none⟩ = false := by simp [World.frozen?, h.obj]
theorem plt (h : OuV w F p v bs e) : p < w.heap.size := heap_lt h.obj
theorem kept (h : OuV w F p v bs e) (k : Kept G w w') (hd : ∀ b, F b → ¬ G b) : OuV w' F p v bs e :=
  ⟨k.at' h.obj (hd p h.fp), k.owns h.own (fun g hg => hd g (h.fv g hg)), h.fp, h.fv, fun j hj => Nat.lt_of_lt_of_le (h.flt j hj) k.size, h.lt⟩
theorem new (h : OuV w F p v bs e) (o : Obj) : OuV (w.alloc o) F p v bs e := h.kept (G := No) ((Kept.refl _ _).alloc o) (fun _ _ h => h)
theorem shape (h : OuV w F p v bs e) : (v = .slice none 0 0 ∧ bs = []) ∨ ∃ g cap, v = .slice (some ⟨g, 0, none⟩) bs.length cap ∧ g ≠ p := by
  rcases owns_cells h.own with ⟨h1, h2⟩ | ⟨g, cap, h1, _⟩
  · exact .inl ⟨h1, List.eq_nil_of_length_eq_zero h2⟩
  · refine .inr ⟨g, cap, h1, ?_⟩
    obtain ⟨_, h3 | ⟨g', cap', cur, h3, _, hg, _⟩⟩ := h.own
    · rw [h1] at h3; cases h3.1
    · rw [h1] at h3; injection h3 with h4 _ _; injection h4 with h4; injection h4 with h4 _ _; subst h4
      rintro rfl
      rw [h.obj] at hg; simp at hg
theorem pne (h : OuV w F p v bs e) : v.ownBlock ≠ some p := by
  rcases h.shape with ⟨rfl, _⟩ | ⟨g, cap, rfl, hne⟩
  · simp [Value.ownBlock]
  · simpa [Value.ownBlock] using hne
/-- behind an append, its value laid into the field -/
theorem grew {v' : Value} {bs' : List Nat} (h : OuV w F p v bs e) (hg : w.grownBy w' v.ownBlock) (ho : w'.ownsRow 0 5 1 v' bs'.length (bs'.map bv)) (ha : v'.ownBlock = v.ownBlock ∨ v'.ownBlock = some w.heap.size) (hl : ∀ x ∈ bs', x < 256) :
    ∃ F', OuV (w'.setCell ⟨p, 0, none⟩ v') F' p v' bs' e ∧ Went F w (w'.setCell ⟨p, 0, none⟩ v') F' := by
  have hsz := hg.size
  have hplt := h.plt
  have hp' : w'.heap[p]? = some (.cells #[v, .int .i64 e] 61 (0, 0)) := (hg.block p hplt (fun e => h.pne e.symm)).trans h.obj
  have hne : ∀ g, v'.ownBlock = some g → g ≠ p := by
    intro g hgv
    rcases ha with h1 | h1
    · rintro rfl; rw [h1] at hgv; exact h.pne hgv
    · rw [h1] at hgv; injection hgv with hgv; omega
  have hkp : Kept (fun k => k = p) w' (w'.setCell ⟨p, 0, none⟩ v') := (Kept.refl (fun k => k = p) w').setCell (p := ⟨p, 0, none⟩) (.inl rfl) _
  refine ⟨fun k => F k ∨ (k = w.heap.size ∧ k < w'.heap.size), ⟨?_, hkp.owns ho (fun g hg => hne g hg), .inl h.fp, ?_, ?_, hl⟩, ?_, ?_⟩
  · simp [World.setCell, Array.getElem?_modify, hp']
  · intro g hgv
    rcases ha with h1 | h1
    · rw [h1] at hgv; exact .inl (h.fv g hgv)
    · have := (ho.lt g hgv).2
      rw [h1] at hgv; injection hgv with hgv
      exact .inr ⟨hgv.symm, this⟩
  · intro k hk
    have : k < w'.heap.size := by rcases hk with h1 | h1; exact Nat.lt_of_lt_of_le (h.flt k h1) hsz; exact h1.2
    simpa [World.setCell] using this
  · exact ((Kept.refl F w).grown hg (fun k hk => .inl (h.fv k hk))).trans hkp (fun k hk => .inl (by rw [hk]; exact h.fp))
  · intro k hk; rcases hk with h1 | h1; exact .inl h1; exact .inr (by omega)
theorem put1 (h : OuV w F p v bs e) (e' : Int) : OuV (w.setCell ⟨p, 1, none⟩ (.int .i64 e')) F p v bs e' := by
  have hkp : Kept (fun k => k = p) w (w.setCell ⟨p, 1, none⟩ (.int .i64 e')) := (Kept.refl (fun k => k = p) w).setCell (p := ⟨p, 1, none⟩) (.inl rfl) _
  refine ⟨?_, hkp.owns h.own (fun g hg e => h.pne (by rw [hg, e])), h.fp, h.fv, fun k hk => by simpa [World.setCell] using h.flt k hk, h.lt⟩
  simp [World.setCell, Array.getElem?_modify, h.obj]
end OuV


/-- what a call on it leaves -/
def OuDid (F : Nat → Prop) (p : Nat) (bs' : List Nat) (e' : Int) (w w' : World) : Prop := ∃ F', Ou w' F' p bs' e' ∧ Went F w w' F'

set_option maxHeartbeats 1000000 in
theorem failOut_any (F : Nat → Prop) (p : Nat) (bs : List Nat) (e x : Int) (w : World) (h : Ou w F p bs e) :
    Calls Try.prog 102 #[.pointer (some ⟨p, 0, none⟩), .int .i64 x] w fun ex w' => ex = .returned (.tuple #[]) ∧ OuDid F p bs (if e ≠ 0 then e else x) w w' := by
  obtain ⟨v, hv⟩ := h
  have c1 := hv.c1
  have f1 := hv.fz 1
  have H : Hid (OuV w F p v bs e) := hv
  clear hv
  by_cases he : e = 0
  · subst he
    rw [if_neg (by simp)]
    go_enter Try.func102, Try.ntmps102
    go_wp2
    go_end0
    exact ⟨rfl, F, ⟨v, H.out.put1 x⟩, (Kept.refl F w).setCell (p := ⟨p, 1, none⟩) (.inl H.out.fp) _, fun _ h => .inl h⟩
  · rw [if_pos he]
    have t0 : (e == 0) = false := by simpa using he
    go_enter Try.func102, Try.ntmps102
    go_wp2
    go_end0
    exact ⟨rfl, F, ⟨v, H.out⟩, Went.refl _ _⟩

/-- behind the append: what the store meets -/
theorem OuV.app {w w1 : World} {F : Nat → Prop} {p : Nat} {v v1 : Value} {bs : List Nat} {e : Int} {N : Nat} {ys : List Value} (h : OuV w F p v bs e) (own1 : w1.ownsRow 0 5 1 v1 N ys) (grow1 : w.grownBy w1 v.ownBlock) :
    ∃ a c, v1 = .slice a N c ∧ w1.cell? ⟨p, 0, none⟩ = some v ∧ w1.frozen? ⟨p, 0, none⟩ = false := by
  have k1 : Kept (fun k => v.ownBlock = some k) w w1 := (Kept.refl _ _).grown grow1 (fun k e => .inl e)
  have hob1 := k1.at' h.obj (fun e => h.pne e)
  obtain ⟨a, c, rfl⟩ := owns_shape own1
  exact ⟨a, c, rfl, by simp [World.cell?, hob1], by simp [World.frozen?, hob1]⟩

set_option maxHeartbeats 2000000 in
set_option maxRecDepth 100000 in
theorem putOut_any (F G : Nat → Prop) (p : Nat) (bs : List Nat) (e : Int) (a : Option Addr) (n c : Nat) (xs : List Nat) (w : World) (h : Ou w F p bs e) (hb : Bs w G a n c xs) (hsz : bs.length + n ≤ 1000000000000) :
    Calls Try.prog 85 #[.pointer (some ⟨p, 0, none⟩), .slice a n c] w fun ex w' => ex = .returned (.tuple #[]) ∧ OuDid F p (layBs bs e xs) e w w' := by
  obtain ⟨i0, hi, hz0, hz1, hz2⟩ := info_parts Try.info5
  obtain ⟨v, hv⟩ := h
  obtain ⟨va, vc, rfl⟩ := owns_shape hv.own
  obtain ⟨m, hm⟩ : ∃ m, m = bs.length := ⟨_, rfl⟩
  rw [← hm] at hv
  have c0 := hv.c0
  have c1 := hv.c1
  have f0 := hv.fz 0
  have H : Hid (OuV w F p (.slice va m vc) bs e) := hv
  have HB : Hid (Bs w G a n c xs) := hb
  have HL : Hid (xs.length = n) := hb.len
  have HM : Hid (m = bs.length) := hm
  have HO : Hid (w.ownsRow 0 5 1 (.slice va m vc) m (bs.map bv)) := by have := hv.own; rw [← hm] at this; exact this
  rw [← hm] at hsz
  unfold layBs
  clear hv hb hm
  by_cases he : e = 0
  · subst he
    rw [if_neg (by simp)]
    cases a with
    | none =>
      have hc0 := HB.out.nil rfl
      have hn0 : n = 0 := by have := HB.out.cap; omega
      have hx0 : xs = [] := List.eq_nil_of_length_eq_zero (by rw [HL.out]; exact hn0)
      subst hc0 hn0 hx0
      rw [List.append_nil]
      go_enter Try.func85, Try.ntmps85
      go_wp2_with (at_builtin; refine wpList_append_own_none rfl _ _ 22 rfl 0 5 i0 1 Try.underlying22 hi _ _ _ rfl HO.out rfl ?_)
      go_end0
      refine ⟨rfl, F, ⟨.slice va m vc, ?_⟩, (Kept.refl F w).setCell (p := ⟨p, 0, none⟩) (.inl H.out.fp) _, fun _ h => .inl h⟩
      have hk : Kept (fun k => k = p) w (w.setCell ⟨p, 0, none⟩ (.slice va m vc)) := (Kept.refl (fun k => k = p) w).setCell (p := ⟨p, 0, none⟩) (.inl rfl) _
      exact ⟨by simp [World.setCell, Array.getElem?_modify, H.out.obj], hk.owns H.out.own (fun g hg e => H.out.pne (by rw [hg, e])), H.out.fp, H.out.fv, fun k hk => by simpa [World.setCell] using H.out.flt k hk, H.out.lt⟩
    | some ad =>
      go_enter Try.func85, Try.ntmps85
      go_wp2_with (at_builtin; refine wpList_append_own_at _ rfl _ _ 22 rfl 0 5 i0 (.int .u8 0) 1 1 Try.underlying22 hi hz0 hz1 hz2 rfl (by decide) _ _ _ rfl HO.out ad n c (xs.map bv) rfl (by rw [List.length_map, HL.out]; omega) HB.out.news (bv_one _) (by unfold maxLen; omega) (by omega) (Nat.zero_le _) ?_; intro v1 w1 own1 grow1 _ at1; obtain ⟨a1, k1, rfl, he0, hf0⟩ := OuV.app H.out own1 grow1; have OWN1 : Hid (w1.ownsRow 0 5 1 (.slice a1 (m + n) k1) (m + n) (bs.map bv ++ xs.map bv)) := own1; have GROW1 : Hid (w.grownBy w1 (Value.slice va m vc).ownBlock) := grow1; have AT1 : Hid ((Value.slice a1 (m + n) k1).ownBlock = (Value.slice va m vc).ownBlock ∨ (Value.slice a1 (m + n) k1).ownBlock = some w.heap.size) := at1; clear own1 grow1 at1)
      go_end0
      have h1 := HM.out
      have h2 := HL.out
      have ow : w1.ownsRow 0 5 1 (.slice a1 (m + n) k1) (bs ++ xs).length ((bs ++ xs).map bv) := by rw [List.length_append, List.map_append, ← h1, h2]; exact OWN1.out
      obtain ⟨F', hv', wt⟩ := H.out.grew GROW1.out ow AT1.out (fun x hx => (List.mem_append.1 hx).elim (H.out.lt x) (HB.out.lt x))
      exact ⟨rfl, F', ⟨_, hv'⟩, wt⟩
  · rw [if_pos he]
    have t0 : (e == 0) = false := by simpa using he
    go_enter Try.func85, Try.ntmps85
    go_wp2
    go_end0
    exact ⟨rfl, F, ⟨_, H.out⟩, Went.refl _ _⟩

end Go.Proofs.Ytakdfpenpodplaa
