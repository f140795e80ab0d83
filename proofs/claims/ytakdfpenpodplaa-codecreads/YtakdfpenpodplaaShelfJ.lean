/-
  The Shelf with both its halves at once.
-/
import Derived.Test.YtakdfpenpodplaaShelfI
namespace Go.Proofs.Ytakdfpenpodplaa
open Go.RowKit
set_option linter.unusedVariables false

section
variable {w w' : World} {F G : Nat → Prop} {s : Nat} {A B A' B' C D C' D' : Value} {es : List En} {is : List Ei}

theorem Sj.other (h : Sj A B w F s C D is) (g : Sg C D w F s A B es) (k : Kept (fun k => k = s ∨ A.ownBlock = some k ∨ B.ownBlock = some k) w w') (ob : w'.heap[s]? = some (.cells #[A', B', C, D] 78 (0, 0))) : Sj A' B' w' F s C D is := by
  have ne : ∀ {t : Nat} {v : Value} {n : Nat} {ys : List Value}, w.ownsRow 0 t 1 v n ys → t ≠ 22 → t ≠ 78 → ∀ k, v.ownBlock = some k → ¬ (k = s ∨ A.ownBlock = some k ∨ B.ownBlock = some k) := by
    intro t v n ys ho h1 h2 k e hk
    rcases hk with rfl | hk | hk
    · exact h2 (owns_tag ho e h.obj).symm
    · exact owns_far ho g.bown h1 k e hk
    · exact owns_far ho g.hown h1 k e hk
  exact ⟨ob, k.owns h.bown (ne h.bown (by decide) (by decide)), k.owns h.hown (ne h.hown (by decide) (by decide)), h.far, fun e he => ⟨k.owns (h.ent e he).1 (ne (h.ent e he).1 (by decide) (by decide)), k.owns (h.ent e he).2.1 (ne (h.ent e he).2.1 (by decide) (by decide)), (h.ent e he).2.2⟩, h.apart, h.fs, h.fr, h.fe, fun j hj => Nat.lt_of_lt_of_le (h.flt j hj) k.size⟩

theorem Sg.other (h : Sg C D w F s A B es) (g : Sj A B w F s C D is) (k : Kept (fun k => k = s ∨ C.ownBlock = some k ∨ D.ownBlock = some k) w w') (ob : w'.heap[s]? = some (.cells #[A, B, C', D'] 78 (0, 0))) : Sg C' D' w' F s A B es := by
  have ne : ∀ {t : Nat} {v : Value} {n : Nat} {ys : List Value}, w.ownsRow 0 t 1 v n ys → t ≠ 41 → t ≠ 78 → ∀ k, v.ownBlock = some k → ¬ (k = s ∨ C.ownBlock = some k ∨ D.ownBlock = some k) := by
    intro t v n ys ho h1 h2 k e hk
    rcases hk with rfl | hk | hk
    · exact h2 (owns_tag ho e h.obj).symm
    · exact owns_far ho g.bown h1 k e hk
    · exact owns_far ho g.hown h1 k e hk
  exact ⟨ob, k.owns h.bown (ne h.bown (by decide) (by decide)), k.owns h.hown (ne h.hown (by decide) (by decide)), h.far, fun e he => ⟨k.owns (h.ent e he).1 (ne (h.ent e he).1 (by decide) (by decide)), k.owns (h.ent e he).2.1 (ne (h.ent e he).2.1 (by decide) (by decide)), (h.ent e he).2.2⟩, h.apart, h.fs, h.fr, h.fe, fun j hj => Nat.lt_of_lt_of_le (h.flt j hj) k.size⟩

/-- all blocks of G bear one mark -/
def Only (w : World) (t : TypeId) (G : Nat → Prop) : Prop := ∀ b, G b → ∀ cs t' fr, w.heap[b]? = some (.cells cs t' fr) → t' = t
theorem Only.row {B t n : Nat} {v : Value} {ys : List Value} (h : w.ownsRow B t 1 v n ys) : Only w t (fun k => v.ownBlock = some k) := fun b hb cs t' fr hc => owns_tag h hb hc
theorem Only.two {t : TypeId} (h : Only w t F) (h' : Only w t G) : Only w t (fun k => F k ∨ G k) := fun b hb cs t' fr hc => hb.elim (fun hb => h b hb cs t' fr hc) (fun hb => h' b hb cs t' fr hc)

theorem Sj.keptT (h : Sj A B w F s C D is) (k : Kept G w w') (hG : Only w 5 G) : Sj A B w' F s C D is := by
  have ne : ∀ {t : Nat} {v : Value} {n : Nat} {ys : List Value}, w.ownsRow 0 t 1 v n ys → t ≠ 5 → ∀ k, v.ownBlock = some k → ¬ G k := by
    intro t v n ys ho h1 k e hk
    obtain ⟨cs, hc⟩ := owns_blk ho e
    exact h1 (hG k hk _ _ _ hc)
  exact ⟨k.at' h.obj (fun e => absurd (hG s e _ _ _ h.obj) (by decide)), k.owns h.bown (ne h.bown (by decide)), k.owns h.hown (ne h.hown (by decide)), h.far, fun e he => ⟨k.owns (h.ent e he).1 (ne (h.ent e he).1 (by decide)), k.owns (h.ent e he).2.1 (ne (h.ent e he).2.1 (by decide)), (h.ent e he).2.2⟩, h.apart, h.fs, h.fr, h.fe, fun j hj => Nat.lt_of_lt_of_le (h.flt j hj) k.size⟩
theorem Sg.keptT (h : Sg C D w F s A B es) (k : Kept G w w') (hG : Only w 3 G) : Sg C D w' F s A B es := by
  have ne : ∀ {t : Nat} {v : Value} {n : Nat} {ys : List Value}, w.ownsRow 0 t 1 v n ys → t ≠ 3 → ∀ k, v.ownBlock = some k → ¬ G k := by
    intro t v n ys ho h1 k e hk
    obtain ⟨cs, hc⟩ := owns_blk ho e
    exact h1 (hG k hk _ _ _ hc)
  exact ⟨k.at' h.obj (fun e => absurd (hG s e _ _ _ h.obj) (by decide)), k.owns h.bown (ne h.bown (by decide)), k.owns h.hown (ne h.hown (by decide)), h.far, fun e he => ⟨k.owns (h.ent e he).1 (ne (h.ent e he).1 (by decide)), k.owns (h.ent e he).2.1 (ne (h.ent e he).2.1 (by decide)), (h.ent e he).2.2⟩, h.apart, h.fs, h.fr, h.fe, fun j hj => Nat.lt_of_lt_of_le (h.flt j hj) k.size⟩

theorem Sg.wide (h : Sg C D w F s A B es) (h1 : ∀ k, F k → G k) (h2 : ∀ k, G k → k < w.heap.size) : Sg C D w G s A B es :=
  ⟨h.obj, h.bown, h.hown, h.far, h.ent, h.apart, h1 _ h.fs, fun k e => h1 k (h.fr k e), fun v hv k e => h1 k (h.fe v hv k e), h2⟩
theorem Sj.wide (h : Sj A B w F s C D is) (h1 : ∀ k, F k → G k) (h2 : ∀ k, G k → k < w.heap.size) : Sj A B w G s C D is :=
  ⟨h.obj, h.bown, h.hown, h.far, h.ent, h.apart, h1 _ h.fs, fun k e => h1 k (h.fr k e), fun v hv k e => h1 k (h.fe v hv k e), h2⟩

/-- what an append that tells of the room keeps -/
theorem two_kept {l v' : Value} {n : Nat} {o : Obj} (two : (∃ g cap, l = .slice (some ⟨g, 0, none⟩) n cap ∧ v' = .slice (some ⟨g, 0, none⟩) (n + 1) cap ∧ (w.alloc o).grownBy w' (some g)) ∨ (v'.ownBlock = some (w.alloc o).heap.size ∧ (w.alloc o).grownBy w' none)) :
    Kept (fun k => l.ownBlock = some k) w w' := by
  rcases two with ⟨g, cap, rfl, _, hg⟩ | ⟨_, hg⟩
  · exact ((Kept.refl _ _).alloc o).grown hg (fun k e => .inl (by injection e with e; rw [e]; rfl))
  · exact ((Kept.refl _ _).alloc o).grown hg (fun k e => by cases e)

/-- the whole shelf, its own values hidden -/
def Spf (w : World) (F : Nat → Prop) (s : Nat) (es : List En) (is : List Ei) : Prop := ∃ A B C D, Sg C D w F s A B es ∧ Sj A B w F s C D is

theorem Spf.kept (h : Spf w F s es is) (k : Kept G w w') (hd : ∀ b, F b → ¬ G b) : Spf w' F s es is := by
  obtain ⟨A, B, C, D, hg, hj⟩ := h
  exact ⟨A, B, C, D, hg.kept k hd, hj.kept k hd⟩
theorem Spf.flt (h : Spf w F s es is) : ∀ k, F k → k < w.heap.size := by obtain ⟨A, B, C, D, hg, hj⟩ := h; exact hg.flt
theorem Spf.fs (h : Spf w F s es is) : F s := by obtain ⟨A, B, C, D, hg, hj⟩ := h; exact hg.fs
theorem spf_new (w : World) : Spf (w.alloc (.cells #[.slice none 0 0, .slice none 0 0, .slice none 0 0, .slice none 0 0] 78)) (fun k => k = w.heap.size) w.heap.size [] [] := by
  have ob : (w.alloc (.cells #[.slice none 0 0, .slice none 0 0, .slice none 0 0, .slice none 0 0] 78)).heap[w.heap.size]? = some (.cells #[.slice none 0 0, .slice none 0 0, .slice none 0 0, .slice none 0 0] 78 (0, 0)) := (sh_new w).obj
  have hl : w.heap.size < (w.alloc (.cells #[.slice none 0 0, .slice none 0 0, .slice none 0 0, .slice none 0 0] 78)).heap.size := heap_lt ob
  refine ⟨_, _, _, _, ⟨ob, World.ownsRow_nil _ _ _ _, World.ownsRow_nil _ _ _ _, ?_, ?_, List.Pairwise.nil, rfl, ?_, ?_, ?_⟩, ⟨ob, World.ownsRow_nil _ _ _ _, World.ownsRow_nil _ _ _ _, ?_, ?_, List.Pairwise.nil, rfl, ?_, ?_, ?_⟩⟩
  all_goals first
    | (intro k e; cases e; done)
    | (intro e he; cases he; done)
    | (intro k e; rcases e with e | e <;> cases e; done)
    | (intro k e; rw [e]; exact hl)
    | (intro v hv; cases hv)

end

/-- 'keep' of the whole shelf -/
theorem keepP_any (F G : Nat → Prop) (s : Nat) (es : List En) (is : List Ei) (la wa : Option Addr) (ln lc wn wc' : Nat) (xs : List Nat) (w : World) (h : Spf w F s es is) (hes : es.length < 400)
    (ol : w.ownsRow 0 5 1 (.slice la ln lc) xs.length (xs.map bv)) (hb : Bs w G wa wn wc' xs) (hx : ∀ x ∈ xs, x < 256) (hlF : ∀ k, (Value.slice la ln lc).ownBlock = some k → ¬ F k) (hsz : wn ≤ 140737488351232) :
    Calls Try.prog 56 #[.pointer (some ⟨s, 0, none⟩), .slice la ln lc, .slice wa wn wc'] w fun ex w' => ex = .returned (.tuple #[]) ∧ ∃ F' g, Spf w' F' s (es ++ [⟨.slice la ln lc, g, xs⟩]) is ∧ Kept F w w' ∧ ∀ k, F' k → F k ∨ (Value.slice la ln lc).ownBlock = some k ∨ w.heap.size ≤ k := by
  obtain ⟨A, B, C, D, hg, hj⟩ := h
  refine (keepB_any C D F G s A B es la wa ln lc wn wc' xs w hg hes ol hb hx hlF hsz).mono ?_
  rintro ex w' ⟨rfl, F', g, b', h', hg', hk, hF, hF'⟩
  exact ⟨rfl, F', g, ⟨b', h', C, D, hg', (hj.other hg hk hg'.obj).wide hF hg'.flt⟩, hk.mono (fun k e => e.elim (fun e => e ▸ hg.fs) (hg.fr k)), hF'⟩

/-- 'keepInts' of the whole shelf -/
theorem keepQ_any (F G : Nat → Prop) (s : Nat) (es : List En) (is : List Ei) (la wa : Option Addr) (ln lc wn wc' : Nat) (xs : List Int) (w : World) (h : Spf w F s es is) (hes : is.length < 400)
    (ol : w.ownsRow 0 3 1 (.slice la ln lc) xs.length (xs.map iv)) (hb : Zs w G wa wn wc' xs) (hlF : ∀ k, (Value.slice la ln lc).ownBlock = some k → ¬ F k) (hsz : wn ≤ 10000000000) :
    Calls Try.prog 77 #[.pointer (some ⟨s, 0, none⟩), .slice la ln lc, .slice wa wn wc'] w fun ex w' => ex = .returned (.tuple #[]) ∧ ∃ F' g, Spf w' F' s es (is ++ [⟨.slice la ln lc, g, xs⟩]) ∧ Kept F w w' ∧ ∀ k, F' k → F k ∨ (Value.slice la ln lc).ownBlock = some k ∨ w.heap.size ≤ k := by
  obtain ⟨A, B, C, D, hg, hj⟩ := h
  refine (keepI_any A B F G s C D is la wa ln lc wn wc' xs w hj hes ol hb (fun _ _ => rfl) hlF hsz).mono ?_
  rintro ex w' ⟨rfl, F', g, b', h', hj', hk, hF, hF'⟩
  exact ⟨rfl, F', g, ⟨A, B, b', h', (hg.other hj hk hj'.obj).wide hF hj'.flt, hj'⟩, hk.mono (fun k e => e.elim (fun e => e ▸ hj.fs) (hj.fr k)), hF'⟩

end Go.Proofs.Ytakdfpenpodplaa
