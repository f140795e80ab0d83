/-
  'Advance': what stands in its rounds.
-/
import Derived.Test.YtffgcijicmfmlaaGreatDoorWFire
namespace Go.Proofs.YtffgcijicmfmlaaGreatDoor
open Go.RowKit
set_option linter.unusedVariables false

structure Ad (w0 w : World) (F : Nat → Prop) (b mb n0 tg : Nat) (L : List Fi) (v : Value) (T : List Fi) (n c : Nat) (M : Int → Option (Int × Int)) (S : Nat → List Fi) (V : Nat → Value) (pd L' : List Fi) : Prop where
  wl : Wl w b mb n c M S V
  iv : Iv n M S pd
  rp : Rp c M L'
  le : n0 ≤ n ∧ n ≤ tg
  eq : L = T ++ L'
  tl : ∀ x, x ∈ T → x.t ≤ tg
  row : w.ownsRow w0.heap.size 98 2 v T.length (fcL T)
  kp : Kept F w0 w
  fp : ∀ k, Fp b mb V k → F k ∨ w0.heap.size ≤ k
  far : ∀ g, v.ownBlock = some g → ¬ Fp b mb V g
theorem owns_base {w : World} {B B' : Nat} {e : TypeId} {s : Nat} {v : Value} {n : Nat} {xs : List Value} (h : w.ownsRow B e s v n xs) (hB : B' ≤ B) : w.ownsRow B' e s v n xs := by
  refine ⟨h.1, ?_⟩
  rcases h.2 with h1 | ⟨g, cap, cur, hv, hb, r⟩
  · exact .inl h1
  · exact .inr ⟨g, cap, cur, hv, Nat.le_trans hB hb, r⟩
namespace Ad
variable {w0 w w' : World} {F : Nat → Prop} {b mb n0 tg : Nat} {L : List Fi} {v : Value} {T : List Fi} {n c : Nat} {M : Int → Option (Int × Int)} {S : Nat → List Fi} {V : Nat → Value} {pd L' : List Fi}
theorem below (h : Ad w0 w F b mb n0 tg L v T n c M S V pd L') (k : Below w.heap.size w w') : Ad w0 w' F b mb n0 tg L v T n c M S V pd L' :=
  ⟨h.wl.below k, h.iv, h.rp, h.le, h.eq, h.tl, (Kept.of_below (F := No) k).owns h.row (fun _ _ h => h), h.kp.trans (Kept.of_below (F := No) k) (fun _ h => h.elim), h.fp, h.far⟩
/-- the list of the first slot -/
theorem list (h : Ad w0 w F b mb n0 tg L v T n c M S V [] L') {k : Nat} (hk : k < 448) (hne : S k ≠ []) : ∃ g cap, V k = .slice (some ⟨g, 0, none⟩) (S k).length cap ∧ w.ownsRow 0 98 2 (.slice (some ⟨g, 0, none⟩) (S k).length cap) (S k).length (fcL (S k)) ∧ ¬ Fp b mb (updN V k (.slice none 0 0)) g ∧ (F g ∨ w0.heap.size ≤ g) ∧ v.ownBlock ≠ some g ∧ g ≠ b := by
  have hr := h.wl.row k hk
  rcases owns_cells2 hr with ⟨_, h2, _⟩ | ⟨g, cap, h1, _⟩
  · exact absurd (List.eq_nil_of_length_eq_zero h2) hne
  · rw [h1] at hr
    have hfp : Fp b mb V g := .inr (.inr ⟨k, hk, by rw [h1]; rfl⟩)
    refine ⟨g, cap, h1, hr, ?_, h.fp g hfp, fun e => h.far g e hfp, fun e => (h.wl.rb k hk).1 (by rw [h1, ← e]; rfl)⟩
    rintro (e | e | ⟨j, hj, e⟩)
    · exact (h.wl.rb k hk).1 (by rw [h1, ← e]; rfl)
    · exact (h.wl.rb k hk).2 (by rw [h1, ← e]; rfl)
    · by_cases ej : j = k
      · subst ej; rw [updN_same] at e; cases e
      · rw [updN_ne _ _ ej] at e
        exact h.wl.rr k j hk hj (fun e2 => ej e2.symm) g (by rw [h1]; rfl) e
/-- the wheel comes to its first slot, and empties it -/
theorem come (h : Ad w0 w F b mb n0 tg L v T n c M S V [] L') {k : Nat} (hk : k < 448) (hne : S k ≠ []) (h0 : ∀ j, j < k → S j = []) (hto : bg n k ≤ tg) : Ad w0 ((w.setCell ⟨b, 0, none⟩ (.int .i64 (bg n k : Nat))).setCell ⟨b, 2 + k, none⟩ (.slice none 0 0)) F b mb n0 tg L v T (bg n k) c M (updN S k []) (updN V k (.slice none 0 0)) (S k) L' := by
  obtain ⟨s, hs⟩ := List.exists_mem_of_ne_nil _ hne
  obtain ⟨oks, es⟩ := h.iv.ok k hk s hs
  obtain ⟨s1, s2, s3, s4⟩ := oks.tn
  have hge := bg_ge s3 s2 s1
  rw [show sl n s.t.toNat = k from es] at hge
  have hl := h.le
  have kb : Kept (fun j => j = b) w ((w.setCell ⟨b, 0, none⟩ (.int .i64 (bg n k : Nat))).setCell ⟨b, 2 + k, none⟩ (.slice none 0 0)) := Kept.setCell (F := fun j => j = b) (p := ⟨b, 2 + k, none⟩) (Kept.setCell (F := fun j => j = b) (p := ⟨b, 0, none⟩) (Kept.refl _ w) (.inl rfl) _) (.inl rfl) _
  have hfb : F b ∨ w0.heap.size ≤ b := h.fp b (.inl rfl)
  have sub : ∀ j, Fp b mb (updN V k (.slice none 0 0)) j → Fp b mb V j := by
    rintro j (e | e | ⟨i, hi, e⟩)
    · exact .inl e
    · exact .inr (.inl e)
    · by_cases ei : i = k
      · subst ei; rw [updN_same] at e; cases e
      · rw [updN_ne _ _ ei] at e; exact .inr (.inr ⟨i, hi, e⟩)
  refine ⟨(h.wl.setNow (bg n k)).setSlot hk (World.ownsRow_nil _ _ _ _) ⟨(fun e => by cases e), (fun e => by cases e)⟩ (fun j _ _ g e => by cases e), h.iv.come hk hs h0, h.rp, ⟨by omega, hto⟩, h.eq, h.tl, kb.owns h.row (fun g hg e => h.far g hg (.inl e)), h.kp.trans kb (fun j e => by rw [e]; exact hfb), fun j hj => h.fp j (sub j hj), fun g hg hf => h.far g hg (sub g hf)⟩
/-- one that waits is laid -/
theorem lay {x : Fi} {u : Value} (h : Ad w0 w F b mb n0 tg L v T n c M S V (x :: pd) L') (hw : Wl w' b mb n c (updM M x.i (some (x.t, ((S (slx n x)).length : Int)))) (updN S (slx n x) (S (slx n x) ++ [x])) (updN V (slx n x) u)) (hk : Kept (Fp b mb V) w w') (hu : u.ownBlock = (V (slx n x)).ownBlock ∨ ∃ g, u.ownBlock = some g ∧ w.heap.size ≤ g) :
    Ad w0 w' F b mb n0 tg L v T n c (updM M x.i (some (x.t, ((S (slx n x)).length : Int)))) (updN S (slx n x) (S (slx n x) ++ [x])) (updN V (slx n x) u) pd L' ∧ ∀ g, g < w.heap.size → ¬ Fp b mb V g → ¬ Fp b mb (updN V (slx n x) u) g := by
  have hkk := slx_lt n x
  have sub : ∀ j, Fp b mb (updN V (slx n x) u) j → Fp b mb V j ∨ w.heap.size ≤ j := by
    rintro j (e | e | ⟨i, hi, e⟩)
    · exact .inl (.inl e)
    · exact .inl (.inr (.inl e))
    · by_cases ei : i = slx n x
      · subst ei
        rw [updN_same] at e
        rcases hu with hu | ⟨g, hu, hg⟩
        · exact .inl (.inr (.inr ⟨_, hkk, by rw [← hu]; exact e⟩))
        · rw [hu] at e; injection e with e; subst e; exact .inr hg
      · rw [updN_ne _ _ ei] at e; exact .inl (.inr (.inr ⟨i, hi, e⟩))
  obtain ⟨pj, hpj⟩ := h.iv.pat x List.mem_cons_self
  have hs := h.kp.size
  refine ⟨⟨hw, h.iv.lay_p, h.rp.same (fun i => Rp.tk_upd hpj i), h.le, h.eq, h.tl, hk.owns h.row (fun g hg hf => h.far g hg hf), h.kp.trans hk h.fp, fun j hj => ?_, fun g hg hf => ?_⟩, fun g hg hn hf => ?_⟩
  · rcases sub j hj with h1 | h1
    · exact h.fp j h1
    · exact .inr (by omega)
  · rcases sub g hf with h1 | h1
    · exact h.far g hg h1
    · have := (h.row.lt g hg).2; omega
  · rcases sub g hf with h1 | h1
    · exact hn h1
    · omega
/-- at the end -/
theorem stop (h : Ad w0 w F b mb n0 tg L v T n c M S V [] L') (hto : ∀ k, k < 448 → S k ≠ [] → (∀ j, j < k → S j = []) → tg < bg n k) : Ad w0 (w.setCell ⟨b, 0, none⟩ (.int .i64 tg)) F b mb n0 tg L v T tg c M S V [] L' ∧ ∀ x, x ∈ L' → (tg : Int) < x.t := by
  have hl := h.le
  have hi := h.iv.stay hl.2 hto
  have kb : Kept (fun j => j = b) w (w.setCell ⟨b, 0, none⟩ (.int .i64 tg)) := Kept.setCell (F := fun j => j = b) (p := ⟨b, 0, none⟩) (Kept.refl _ w) (.inl rfl) _
  refine ⟨⟨h.wl.setNow tg, hi, h.rp, ⟨by omega, Nat.le_refl _⟩, h.eq, h.tl, kb.owns h.row (fun g hg e => h.far g hg (.inl e)), h.kp.trans kb (fun j e => by rw [e]; exact h.fp b (.inl rfl)), h.fp, h.far⟩, ?_⟩
  intro x hx
  obtain ⟨j, hj⟩ := some_tk ((h.rp.mem x.i x.t).2 hx)
  rcases h.iv.back x.i x.t j hj with ⟨jn, rfl, hjn⟩ | hp
  · have hm := at_mem hjn
    obtain ⟨okx, ex⟩ := h.iv.ok _ (sl_lt _ _) _ hm
    obtain ⟨x1, x2, x3, x4⟩ := okx.tn
    -- the first slot
    obtain ⟨k, hk, hne, h0⟩ : ∃ k, k < 448 ∧ S k ≠ [] ∧ ∀ j, j < k → S j = [] := by
      have : ∃ k, k < 448 ∧ S k ≠ [] := ⟨_, sl_lt n x.t.toNat, fun e => by rw [e] at hm; cases hm⟩
      obtain ⟨k, hk, hne⟩ := this
      induction k using Nat.strongRecOn with
      | _ k ih =>
        by_cases h1 : ∀ j, j < k → S j = []
        · exact ⟨k, hk, hne, h1⟩
        · have : ∃ j, j < k ∧ S j ≠ [] := by
            apply Decidable.byContradiction
            intro hn
            apply h1
            intro j hj
            apply Decidable.byContradiction
            intro hj2
            exact hn ⟨j, hj, hj2⟩
          obtain ⟨j, hj, hj2⟩ := this
          exact ih j hj (by omega) hj2
    have hb := hto k hk hne h0
    obtain ⟨s, hs⟩ := List.exists_mem_of_ne_nil _ hne
    obtain ⟨oks, es⟩ := h.iv.ok k hk s hs
    obtain ⟨s1, s2, s3, s4⟩ := oks.tn
    dsimp only at x4 x1 x2
    by_cases e : k = sl n x.t.toNat
    · have := bg_le x3 x2
      rw [← e] at this
      omega
    · have hkl : k < sl n x.t.toNat := by
        apply Decidable.byContradiction
        intro hn
        rw [h0 _ (by omega)] at hm
        cases hm
      have g1 := slot_order_lt s3 s2 x2 s1 x1 (by rw [show sl n s.t.toNat = k from es]; exact hkl)
      have g2 := bg_le s3 s2
      rw [show sl n s.t.toNat = k from es] at g2
      omega
  · cases hp
/-- the timers of the first slot, at level 0, run out -/
theorem fired {m : Nat} {A : List Fi} {M' : Int → Option (Int × Int)} {v' : Value} {xs : List Fi} (h : Ad w0 w F b mb n0 tg L v T n c M S V xs L') (hx : ∀ x, x ∈ xs → x.t = n) (hm : xs.length = m) (hA : A.Perm xs) (hAs : A.Pairwise (fun x y => x.i ≤ y.i)) (hall : ∀ x, x ∈ L' → x ∉ xs → (n : Int) < x.t)
    (hw : Wl w' b mb n (c - m) M' S V) (hi : Iv n M' S []) (ht : ∀ i, tk M' i = tkBut M A i) (hr : w'.ownsRow w0.heap.size 98 2 v' (T ++ A).length (fcL (T ++ A))) (hk : Kept F w0 w') (hf : ∀ g, v'.ownBlock = some g → ¬ Fp b mb V g) :
    ∃ L'', L' = A ++ L'' ∧ Ad w0 w' F b mb n0 tg L v' (T ++ A) n (c - m) M' S V [] L'' := by
  have inL : ∀ x, x ∈ A → x ∈ L' := fun x hx => by
    obtain ⟨j, hj⟩ := h.iv.pat x (hA.mem_iff.1 hx)
    exact (h.rp.mem x.i x.t).1 (tk_some hj)
  have hAp : A.Pairwise lt2 := by
    have hd : A.Pairwise (fun x y => x.i ≠ y.i) := (hA.pairwise_iff (fun {a b} h => Ne.symm h)).2 h.iv.pnd
    rw [List.pairwise_iff_getElem] at *
    intro i j hi hj hij
    have h1 := hAs i j hi hj hij
    have h2 := hd i j hi hj hij
    have h3 := hx _ (hA.mem_iff.1 (List.getElem_mem hi))
    have h4 := hx _ (hA.mem_iff.1 (List.getElem_mem hj))
    unfold lt2
    omega
  obtain ⟨L'', e⟩ := h.rp.fire hAp inL (fun x hxL hxA y hy => by
    have h1 := hall x hxL (fun hm => hxA (hA.mem_iff.2 hm))
    have h2 := hx y (hA.mem_iff.1 hy)
    unfold lt2
    omega)
  refine ⟨L'', e, hw, hi, ?_, h.le, by rw [h.eq, e, List.append_assoc], ?_, hr, hk, h.fp, hf⟩
  · have hso := h.rp.sorted
    have hnd := h.rp.nodup
    rw [e] at hso hnd
    refine ⟨(List.pairwise_append.1 hso).2.1, ?_, fun i t => ?_⟩
    · have := h.rp.cnt
      rw [e, List.length_append, hA.length_eq, hm] at this
      omega
    · rw [ht i]
      unfold tkBut
      split
      · rename_i ha
        obtain ⟨x, hxA, hxi⟩ := List.any_eq_true.1 ha
        constructor
        · intro h; cases h
        · intro hm
          exfalso
          have e1 : x = Fi.mk t i := h.rp.uniq (inL x hxA) (by rw [e]; exact List.mem_append_right _ hm) (by simpa using hxi)
          rw [e1] at hxA
          exact (List.nodup_append.1 hnd).2.2 _ hxA _ hm rfl
      · rename_i ha
        rw [h.rp.mem, e, List.mem_append]
        constructor
        · rintro (hm | hm)
          · exfalso
            apply ha
            exact List.any_eq_true.2 ⟨_, hm, by simp⟩
          · exact hm
        · exact .inr
  · intro x hx2
    rcases List.mem_append.1 hx2 with h1 | h1
    · exact h.tl x h1
    · have := hx x (hA.mem_iff.1 h1)
      have := h.le.2
      omega
end Ad

/-- how far the rounds still go -/
def lenOf : Option Value → Nat
  | some (.slice _ n _) => n
  | _ => 0
def natOf : Option Value → Nat
  | some (.int _ n) => n.toNat
  | _ => 0
def meas (w : World) (b : Nat) : Nat := 2 * (2199023255552 - natOf (w.cell? ⟨b, 0, none⟩)) + (if lenOf (w.cell? ⟨b, 2 + natOf (w.cell? ⟨b, 0, none⟩) % 64, none⟩) = 0 then 0 else 1)
theorem meas_wl {w : World} {b mb n c : Nat} {M : Int → Option (Int × Int)} {S : Nat → List Fi} {V : Nat → Value} (h : Wl w b mb n c M S V) : meas w b = 2 * (2199023255552 - n) + (if S (n % 64) = [] then 0 else 1) := by
  unfold meas
  rw [h.now]
  have hk : n % 64 < 448 := by omega
  have e1 : natOf (some (Value.int .i64 (n : Int))) = n := by unfold natOf; simp
  rw [e1, h.slot _ hk]
  obtain ⟨va, vc, hv⟩ := h.shape hk
  rw [hv]
  congr 1
  show (if (S (n % 64)).length = 0 then 0 else 1) = _
  by_cases e : S (n % 64) = []
  · rw [if_pos e, e]; rfl
  · rw [if_neg e, if_neg (fun h => e (List.eq_nil_of_length_eq_zero h))]

end Go.Proofs.YtffgcijicmfmlaaGreatDoor
