/-
  Reading: what a call has got, and what is left; numbers and flags.
-/
import Derived.Test.YtolmhoenjcinjaaGreatIMem
import Derived.Handy
import Derived.Laws.ResultCell
namespace Go.Proofs.YtolmhoenjcinjaaGreat
open Go.RowKit
set_option linter.unusedVariables false
set_option maxRecDepth 100000

/-- x was read of what stood in s, and s' is left; or there is a fault, and nothing can be read of it -/
structure Got {α : Type} (d : Dec α) (s : St) (x : α) (s' : St) : Prop where
  len : s'.1.length ≤ s.1.length
  got : (s.2 = 0 ∧ s'.2 = 0 ∧ d s.1 = some (x, s'.1)) ∨ (s'.2 ≠ 0 ∧ (s.2 = 0 → d s.1 = none))
theorem Got.bind {α β : Type} {d : Dec α} {f : α → Dec β} {s s' s'' : St} {x : α} {y : β} (h : Got d s x s') (g : Got (f x) s' y s'') : Got (dBind d f) s y s'' where
  len := Nat.le_trans g.len h.len
  got := by
    rcases h.got with ⟨h1, h2, h3⟩ | ⟨h1, h2⟩
    · rcases g.got with ⟨g1, g2, g3⟩ | ⟨g1, g2⟩
      · exact .inl ⟨h1, g2, by rw [dBind_eq h3]; exact g3⟩
      · exact .inr ⟨g1, fun _ => by rw [dBind_eq h3]; exact g2 h2⟩
    · rcases g.got with ⟨g1, g2, g3⟩ | ⟨g1, g2⟩
      · exact absurd g1 h1
      · exact .inr ⟨g1, fun h => dBind_none (h2 h)⟩
theorem Got.pure {α : Type} (x : α) (s : St) : Got (dPure x) s x s where
  len := Nat.le_refl _
  got := by
    by_cases h : s.2 = 0
    · exact .inl ⟨h, h, rfl⟩
    · exact .inr ⟨h, fun h' => absurd h' h⟩
theorem dBind_assoc {α β γ : Type} (d : Dec α) (f : α → Dec β) (g : β → Dec γ) : dBind (dBind d f) g = dBind d (fun x => dBind (f x) g) := by
  funext xs
  unfold dBind
  cases d xs with
  | none => rfl
  | some p => rfl
theorem dPure_bind {α β : Type} (x : α) (f : α → Dec β) : dBind (dPure x) f = f x := rfl

theorem tk_yes {xs : List Nat} {e : Int} {k : Nat} (h : tkE xs e k = 0) : e = 0 ∧ k ≤ xs.length ∧ tkXs xs e k = xs.take k ∧ tkRest xs e k = xs.drop k := by
  have he : e = 0 := by
    apply Decidable.byContradiction; intro h1; unfold tkE at h; rw [if_pos h1] at h; exact h1 h
  subst he
  have hk : tkOk xs 0 k = true := by
    cases hk : tkOk xs 0 k with
    | true => rfl
    | false => unfold tkE at h; rw [if_neg (by simp), hk] at h; simp at h
  have hl : k ≤ xs.length := by unfold tkOk at hk; simp at hk; omega
  refine ⟨rfl, hl, ?_, ?_⟩
  · unfold tkXs; rw [hk]; simp
  · unfold tkRest; rw [hk]; simp
theorem tk_no {xs : List Nat} {k : Nat} (h : tkE xs 0 k ≠ 0) : xs.length < k := by
  apply Decidable.byContradiction
  intro hl
  apply h
  have hk : tkOk xs 0 k = true := by unfold tkOk; simp; omega
  unfold tkE; rw [if_neg (by simp), hk]; rfl
theorem tkRest_len (xs : List Nat) (e : Int) (n : Int) : (tkRest xs e n).length ≤ xs.length := by unfold tkRest; split <;> simp
theorem got_I (xs : List Nat) (e : Int) : Got decI (xs, e) (rdI xs e) (tkRest xs e 8, tkE xs e 8) where
  len := tkRest_len _ _ _
  got := by
    by_cases h : tkE xs e 8 = 0
    · obtain ⟨h1, h2, h3, h4⟩ := tk_yes (k := 8) h
      refine .inl ⟨h1, h, ?_⟩
      show decI xs = some (_, tkRest xs e 8)
      unfold decI rdI rdN
      rw [if_pos h2, show tkRest xs e 8 = List.drop 8 xs from h4, show tkXs xs e ((8 : Nat) : Int) = List.take 8 xs from h3]
    · refine .inr ⟨h, fun he => ?_⟩
      have he' : e = 0 := he
      subst he'
      have := tk_no (k := 8) h
      show decI xs = none
      unfold decI
      rw [if_neg (by omega)]
theorem rdI_ok (xs : List Nat) (e : Int) : I6 (rdI xs e) := by
  unfold rdI rdN; exact wfit64 _
theorem got_B (xs : List Nat) (e : Int) : Got decB (xs, e) (rbV xs e) (rbRest xs e, rbE xs e) where
  len := by
    show (rbRest xs e).length ≤ xs.length
    unfold rbRest
    split
    · exact Nat.le_refl _
    · cases xs with
      | nil => simp
      | cons b t => dsimp only; split <;> simp
  got := by
    by_cases he : e = 0
    · subst he
      cases xs with
      | nil => exact .inr ⟨by unfold rbE; simp, fun _ => rfl⟩
      | cons b t =>
        by_cases hb : 1 < b
        · exact .inr ⟨by unfold rbE; simp [hb], fun _ => by show (if 1 < b then none else some (b == 1, t)) = none; rw [if_pos hb]⟩
        · refine .inl ⟨rfl, by unfold rbE; simp [hb], ?_⟩
          show (if 1 < b then none else some (b == 1, t)) = some (rbV (b :: t) 0, rbRest (b :: t) 0)
          rw [if_neg hb]
          unfold rbV rbRest
          simp [hb]
    · refine .inr ⟨?_, fun h => absurd h he⟩
      show rbE xs e ≠ 0
      unfold rbE; rw [if_pos he]; exact he

theorem askI (F : Nat → Prop) (p : Nat) (xs : List Nat) (e : Int) (w : World) (h : Rd w F p xs e) :
    Calls Tryz.prog 109 #[.pointer (some ⟨p, 0, none⟩)] w fun ex w' => ∃ x s', ex = .returned (.int .i64 x) ∧ I6 x ∧ Got decI (xs, e) x s' ∧ RdDid F p s'.1 s'.2 w w' := by
  refine (ri64_any F p xs e w h).mono ?_
  rintro ex w' ⟨rfl, hd⟩
  exact ⟨_, _, rfl, rdI_ok xs e, got_I xs e, hd⟩
theorem askB (F : Nat → Prop) (p : Nat) (xs : List Nat) (e : Int) (w : World) (h : Rd w F p xs e) :
    Calls Tryz.prog 114 #[.pointer (some ⟨p, 0, none⟩)] w fun ex w' => ∃ x s', ex = .returned (.bool x) ∧ True ∧ Got decB (xs, e) x s' ∧ RdDid F p s'.1 s'.2 w w' := by
  refine (rbool_any F p xs e w h).mono ?_
  rintro ex w' ⟨rfl, hd⟩
  exact ⟨_, _, rfl, trivial, got_B xs e, hd⟩
theorem getNumber_any (F : Nat → Prop) (p : Nat) (xs : List Nat) (e : Int) (w : World) (h : Rd w F p xs e) :
    Calls Tryz.prog 107 #[.pointer (some ⟨p, 0, none⟩)] w fun ex w' => ∃ x s', ex = .returned (.int .i64 x) ∧ I6 x ∧ Got decI (xs, e) x s' ∧ RdDid F p s'.1 s'.2 w w' := by
  have cc := askI F p xs e w h
  clear h
  go_enter Tryz.func107, Tryz.ntmps107
  go_wp2_with (go_at_call 109; refine cc.mono ?_; rintro ex w1 ⟨x, s', rfl, hx, hg, hd⟩)
  go_ret
  exact ⟨x, s', rfl, hx, hg, hd⟩

/-! ### a result that is filled field by field: its cells, and the Reader -/
/-- block b holds just these cells -/
def Bk (w : World) (b : Nat) (cs : List Value) (t : TypeId) : Prop := w.heap[b]? = some (.cells cs.toArray t (0, 0))
theorem Bk.kept {G : Nat → Prop} {w w' : World} {b : Nat} {cs : List Value} {t : TypeId} (h : Bk w b cs t) (k : Kept G w w') (hb : ¬ G b) : Bk w' b cs t := k.at' h hb
theorem Bk.cell {w : World} {b : Nat} {cs : List Value} {t : TypeId} (h : Bk w b cs t) {j : Nat} {v : Value} (hj : cs[j]? = some v) : w.cell? ⟨b, j, none⟩ = some v := by
  unfold Bk at h; simp [World.cell?, h, hj]
theorem Bk.fz {w : World} {b : Nat} {cs : List Value} {t : TypeId} (h : Bk w b cs t) (j : Nat) : w.frozen? ⟨b, j, none⟩ = false := by
  unfold Bk at h; simp [World.frozen?, h]
theorem Bk.set {w : World} {b : Nat} {cs : List Value} {t : TypeId} (h : Bk w b cs t) (j : Nat) (v : Value) : Bk (w.setCell ⟨b, j, none⟩ v) b (cs.set j v) t := by
  unfold Bk at h ⊢
  simp [World.setCell, Array.getElem?_modify, h]
theorem Bk.other {w : World} {b b' : Nat} {cs : List Value} {t : TypeId} (h : Bk w b cs t) (j : Nat) (v : Value) (hne : b ≠ b') : Bk (w.setCell ⟨b', j, none⟩ v) b cs t :=
  ((Kept.refl (fun k => k = b') w).setCell (p := ⟨b', j, none⟩) (.inl rfl) v).at' h hne
theorem Bk.lt {w : World} {b : Nat} {cs : List Value} {t : TypeId} (h : Bk w b cs t) : b < w.heap.size := heap_lt h
/-- while a result is filled: two blocks that are new, the first untouched, the second so far; the Reader -/
structure Fil (w0 : World) (F : Nat → Prop) (p : Nat) (zs cs : List Value) (t : TypeId) (s : St) (w : World) : Prop where
  b2 : Bk w w0.heap.size zs t
  b3 : Bk w (w0.heap.size + 1) cs t
  rd : Rd w F p s.1 s.2
  kp : Kept (fun k => k = p) w0 w
  fl : ∀ k, F k → k < w0.heap.size
  fp : F p
theorem Fil.new {w0 : World} {F : Nat → Prop} {p : Nat} {s : St} (h : Rd w0 F p s.1 s.2) (zs : List Value) (t : TypeId) : Fil w0 F p zs zs t s ((w0.alloc (.cells zs.toArray t)).alloc (.cells zs.toArray t)) where
  b2 := by show _ = _; rw [heap_alloc_old _ _ (by simp)]; exact heap_alloc_new w0 _
  b3 := heap_alloc2_new w0 _ _
  rd := h.kept (((Kept.refl No w0).alloc _).alloc _) (fun _ _ h => h)
  kp := ((Kept.refl _ w0).alloc _).alloc _
  fl := by obtain ⟨a, n, c, hv⟩ := h; exact hv.flt
  fp := by obtain ⟨a, n, c, hv⟩ := h; exact hv.fp
theorem Fil.did {w0 w w' : World} {F : Nat → Prop} {p : Nat} {zs cs : List Value} {t : TypeId} {s s' : St} (h : Fil w0 F p zs cs t s w) (d : RdDid F p s'.1 s'.2 w w') : Fil w0 F p zs cs t s' w' where
  b2 := h.b2.kept d.2 (fun e => by have := h.fl p h.fp; omega)
  b3 := h.b3.kept d.2 (fun e => by have := h.fl p h.fp; omega)
  rd := d.1
  kp := h.kp.trans d.2 (fun _ e => .inl e)
  fl := h.fl
  fp := h.fp
theorem Fil.set {w0 w : World} {F : Nat → Prop} {p : Nat} {zs cs : List Value} {t : TypeId} {s : St} (h : Fil w0 F p zs cs t s w) (j : Nat) (v : Value) : Fil w0 F p zs (cs.set j v) t s (w.setCell ⟨w0.heap.size + 1, j, none⟩ v) where
  b2 := h.b2.other _ _ (by omega)
  b3 := h.b3.set j v
  rd := h.rd.kept ((Kept.refl (fun k => k = w0.heap.size + 1) w).setCell (p := ⟨w0.heap.size + 1, j, none⟩) (.inl rfl) v) (fun b hb e => by have := h.fl b hb; omega)
  kp := h.kp.setCell (.inr (by show w0.heap.size ≤ w0.heap.size + 1; omega)) v
  fl := h.fl
  fp := h.fp
/-- what holds of a list that was made since, while the rest is read -/
theorem Fil.keepN {w0 w : World} {F : Nat → Prop} {p : Nat} {zs cs : List Value} {t : TypeId} {s : St} (h : Fil w0 F p zs cs t s w) (j : Nat) (v : Value) : Kept (fun k => k = w0.heap.size + 1) w (w.setCell ⟨w0.heap.size + 1, j, none⟩ v) :=
  (Kept.refl (fun k => k = w0.heap.size + 1) w).setCell (p := ⟨w0.heap.size + 1, j, none⟩) (.inl rfl) v

end Go.Proofs.YtolmhoenjcinjaaGreat
