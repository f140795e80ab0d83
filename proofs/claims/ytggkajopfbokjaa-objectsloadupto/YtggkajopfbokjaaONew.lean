/-
  objects: New.
-/
import Derived.Test.YtggkajopfbokjaaOHeld
namespace Go.Proofs.Ytggkajopfbokjaa
open Go.RowKit
set_option linter.unusedVariables false
set_option maxRecDepth 100000

/-- what New keeps -/
def Nw (w wr : World) (A : Array Value) (b : Nat) (sv ev bv : Value) (p q : Nat → Int) (k ne : Nat) (us : List Value) (p' q' : Nat → Int) (m : Nat) : Prop :=
  wr.heap[b]? = some (.cells #[sv, ev, bv] 82) ∧ wr.ownsRow w.heap.size 84 2 sv k (cat (sF p q) k) ∧ wr.ownsRow w.heap.size 4 1 ev ne us ∧ wr.ownsRow w.heap.size 88 3 bv m (cat (bF p' q') m) ∧ Kept No w wr ∧ w.heap.size ≤ b ∧ wr.heap[w.heap.size]? = some (.cells A 37)
theorem Nw.keep {w wr wr' : World} {A : Array Value} {b : Nat} {sv ev bv : Value} {p q : Nat → Int} {k ne : Nat} {us : List Value} {p' q' : Nat → Int} {m : Nat} (h : Nw w wr A b sv ev bv p q k ne us p' q' m) (K : Kept No wr wr') : Nw w wr' A b sv ev bv p q k ne us p' q' m :=
  ⟨K.at' h.1 (fun e => e), K.owns h.2.1 (fun _ _ e => e), K.owns h.2.2.1 (fun _ _ e => e), K.owns h.2.2.2.1 (fun _ _ e => e), h.2.2.2.2.1.trans K (fun _ e => e.elim), h.2.2.2.2.2.1, K.at' h.2.2.2.2.2.2 (fun e => e)⟩

theorem Nw.sapp {w wc : World} {A : Array Value} {b : Nat} {sv ev bv : Value} {p q : Nat → Int} {k ne : Nat} {us : List Value} {p' q' : Nat → Int} {m : Nat} (h : Nw w wc A b sv ev bv p q k ne us p' q' m) (hk : k + 1 ≤ 4096) :
    ∃ v1 wa, (Builtin.append_ #[79, 79] 79 #[sv, .slice (some ⟨wc.heap.size, 0, none⟩) 1 1]).run Try.prog (wc.alloc (.cells #[.int .i64 (p k), .int .i64 (q k)] 84)) = .ok v1 wa ∧ wa.ownsRow w.heap.size 84 2 v1 (k + 1) (cat (sF p q) (k + 1)) ∧ (wc.alloc (.cells #[.int .i64 (p k), .int .i64 (q k)] 84)).grownBy wa sv.ownBlock := by
  obtain ⟨i0, hi, hz0, hz1, hz2⟩ := info_parts Try.infoS
  have hw := h.2.2.2.2.1.size
  have ho := h.2.1
  obtain ⟨v1, wa, h1, h2, h3, _, _⟩ := run_append_own_at (P := Try.prog) (wc.alloc (.cells #[.int .i64 (p k), .int .i64 (q k)] 84)) w.heap.size 79 79 84 i0 (.agg Zs2) 2 16 Try.underlying79 hi hz0 hz1 hz2 rfl (by decide) sv k _ (ho.alloc _) ⟨wc.heap.size, 0, none⟩ 1 1 #[.int .i64 (p k), .int .i64 (q k)].toList rfl new_cells (by simp [Value.oneCell']) (by unfold maxLen; omega) (by omega) (by rw [World.size_alloc]; omega)
  exact ⟨v1, wa, h1, h2, h3⟩
theorem Nw.sfin {w wc wa : World} {A : Array Value} {b : Nat} {sv ev bv v1 : Value} {p q : Nat → Int} {k ne : Nat} {us : List Value} {p' q' : Nat → Int} {m : Nat} {R : Array Value} (h : Nw w wc A b sv ev bv p q k ne us p' q' m) (own1 : wa.ownsRow w.heap.size 84 2 v1 (k + 1) (cat (sF p q) (k + 1))) (grow1 : (wc.alloc (.cells R 84)).grownBy wa sv.ownBlock) :
    wa.cell? ⟨b, 0, none⟩ = some sv ∧ wa.frozen? ⟨b, 0, none⟩ = false ∧ Nw w (wa.setCell ⟨b, 0, none⟩ v1) A b v1 ev bv p q (k + 1) ne us p' q' m ∧ ∀ (z : Nat) (cs : Array Value), wc.heap[z]? = some (.cells cs 24) → wa.heap[z]? = some (.cells cs 24) ∧ (wa.setCell ⟨b, 0, none⟩ v1).heap[z]? = some (.cells cs 24) := by
  have ka : Kept (fun j => sv.ownBlock = some j) wc wa := ((Kept.refl (fun j => sv.ownBlock = some j) wc).alloc _).grown grow1 (fun j e => .inl e)
  have kb : Kept (fun j => j = b) wa (wa.setCell ⟨b, 0, none⟩ v1) := (Kept.refl (fun j => j = b) wa).setCell (p := ⟨b, 0, none⟩) (.inl rfl) _
  have hB := h.2.2.2.2.2.1
  have tag : ∀ j cs t, wc.heap[j]? = some (.cells cs t) → t ≠ 84 → ¬ sv.ownBlock = some j := fun j cs t h1 h2 h3 => by
    obtain ⟨_, cs', h4⟩ := owns_blk h.2.1 h3
    exact h2 (two_tags h1 h4)
  have hb := ka.at' h.1 (tag _ _ _ h.1 (by decide))
  have tagb : ∀ j cs t, wa.heap[j]? = some (.cells cs t) → t ≠ 82 → ¬ j = b := fun j cs t h1 h2 h3 => by
    subst h3
    exact h2 (two_tags h1 hb)
  have hev := ka.owns h.2.2.1 (fun j hj => by obtain ⟨_, cs, h1⟩ := owns_blk h.2.2.1 hj; exact tag j _ _ h1 (by decide))
  have hot := ka.owns h.2.2.2.1 (fun j hj => by obtain ⟨_, cs, h1⟩ := owns_blk h.2.2.2.1 hj; exact tag j _ _ h1 (by decide))
  have hA := ka.at' h.2.2.2.2.2.2 (tag _ _ _ h.2.2.2.2.2.2 (by decide))
  have rest : ∀ {t s n : Nat} {u : Value} {ys : List Value}, wa.ownsRow w.heap.size t s u n ys → t ≠ 82 → (wa.setCell ⟨b, 0, none⟩ v1).ownsRow w.heap.size t s u n ys := fun ho ht => kb.owns ho (fun j hj => by obtain ⟨_, cs, h1⟩ := owns_blk ho hj; exact tagb j _ _ h1 ht)
  have kf : Kept No w (wa.setCell ⟨b, 0, none⟩ v1) := (h.2.2.2.2.1.trans ka (fun j e => .inr (owns_blk h.2.1 e).1)).trans kb (fun j e => .inr (by rw [e]; exact hB))
  refine ⟨(cell_blk hb 0).trans rfl, fz_blk hb _, ⟨set_blk hb _ _, rest own1 (by decide), rest hev (by decide), rest hot (by decide), kf, hB, kb.at' hA (tagb _ _ _ hA (by decide))⟩, fun z cs hz => ?_⟩
  have h1 := ka.at' hz (tag _ _ _ hz (by decide))
  exact ⟨h1, kb.at' h1 (tagb _ _ _ h1 (by decide))⟩

theorem Nw.bapp {w wc : World} {A : Array Value} {b : Nat} {sv ev bv : Value} {p q : Nat → Int} {k ne : Nat} {us : List Value} {p' q' : Nat → Int} {m : Nat} (h : Nw w wc A b sv ev bv p q k ne us p' q' m) (hk : m + 1 ≤ 4096) :
    ∃ v1 wa, (Builtin.append_ #[80, 80] 80 #[bv, .slice (some ⟨wc.heap.size, 0, none⟩) 1 1]).run Try.prog (wc.alloc (.cells #[.slice none 0 0, .int .i64 (q' m), .int .i64 (p' m)] 88)) = .ok v1 wa ∧ wa.ownsRow w.heap.size 88 3 v1 (m + 1) (cat (bF p' q') (m + 1)) ∧ (wc.alloc (.cells #[.slice none 0 0, .int .i64 (q' m), .int .i64 (p' m)] 88)).grownBy wa bv.ownBlock := by
  obtain ⟨i0, hi, hz0, hz1, hz2⟩ := info_parts Try.infoU
  have hw := h.2.2.2.2.1.size
  have ho := h.2.2.2.1
  obtain ⟨v1, wa, h1, h2, h3, _, _⟩ := run_append_own_at (P := Try.prog) (wc.alloc (.cells #[.slice none 0 0, .int .i64 (q' m), .int .i64 (p' m)] 88)) w.heap.size 80 80 88 i0 (.agg Zb3) 3 40 Try.underlying80 hi hz0 hz1 hz2 rfl (by decide) bv m _ (ho.alloc _) ⟨wc.heap.size, 0, none⟩ 1 1 #[.slice none 0 0, .int .i64 (q' m), .int .i64 (p' m)].toList rfl new_cells (by simp [Value.oneCell']) (by unfold maxLen; omega) (by omega) (by rw [World.size_alloc]; omega)
  exact ⟨v1, wa, h1, h2, h3⟩
theorem Nw.bfin {w wc wa : World} {A : Array Value} {b : Nat} {sv ev bv v1 : Value} {p q : Nat → Int} {k ne : Nat} {us : List Value} {p' q' : Nat → Int} {m : Nat} {R : Array Value} (h : Nw w wc A b sv ev bv p q k ne us p' q' m) (own1 : wa.ownsRow w.heap.size 88 3 v1 (m + 1) (cat (bF p' q') (m + 1))) (grow1 : (wc.alloc (.cells R 88)).grownBy wa bv.ownBlock) :
    wa.cell? ⟨b, 2, none⟩ = some bv ∧ wa.frozen? ⟨b, 2, none⟩ = false ∧ Nw w (wa.setCell ⟨b, 2, none⟩ v1) A b sv ev v1 p q k ne us p' q' (m + 1) ∧ ∀ (z : Nat) (cs : Array Value), wc.heap[z]? = some (.cells cs 27) → wa.heap[z]? = some (.cells cs 27) ∧ (wa.setCell ⟨b, 2, none⟩ v1).heap[z]? = some (.cells cs 27) := by
  have ka : Kept (fun j => bv.ownBlock = some j) wc wa := ((Kept.refl (fun j => bv.ownBlock = some j) wc).alloc _).grown grow1 (fun j e => .inl e)
  have kb : Kept (fun j => j = b) wa (wa.setCell ⟨b, 2, none⟩ v1) := (Kept.refl (fun j => j = b) wa).setCell (p := ⟨b, 2, none⟩) (.inl rfl) _
  have hB := h.2.2.2.2.2.1
  have tag : ∀ j cs t, wc.heap[j]? = some (.cells cs t) → t ≠ 88 → ¬ bv.ownBlock = some j := fun j cs t h1 h2 h3 => by
    obtain ⟨_, cs', h4⟩ := owns_blk h.2.2.2.1 h3
    exact h2 (two_tags h1 h4)
  have hb := ka.at' h.1 (tag _ _ _ h.1 (by decide))
  have tagb : ∀ j cs t, wa.heap[j]? = some (.cells cs t) → t ≠ 82 → ¬ j = b := fun j cs t h1 h2 h3 => by
    subst h3
    exact h2 (two_tags h1 hb)
  have hev := ka.owns h.2.2.1 (fun j hj => by obtain ⟨_, cs, h1⟩ := owns_blk h.2.2.1 hj; exact tag j _ _ h1 (by decide))
  have hot := ka.owns h.2.1 (fun j hj => by obtain ⟨_, cs, h1⟩ := owns_blk h.2.1 hj; exact tag j _ _ h1 (by decide))
  have hA := ka.at' h.2.2.2.2.2.2 (tag _ _ _ h.2.2.2.2.2.2 (by decide))
  have rest : ∀ {t s n : Nat} {u : Value} {ys : List Value}, wa.ownsRow w.heap.size t s u n ys → t ≠ 82 → (wa.setCell ⟨b, 2, none⟩ v1).ownsRow w.heap.size t s u n ys := fun ho ht => kb.owns ho (fun j hj => by obtain ⟨_, cs, h1⟩ := owns_blk ho hj; exact tagb j _ _ h1 ht)
  have kf : Kept No w (wa.setCell ⟨b, 2, none⟩ v1) := (h.2.2.2.2.1.trans ka (fun j e => .inr (owns_blk h.2.2.2.1 e).1)).trans kb (fun j e => .inr (by rw [e]; exact hB))
  refine ⟨(cell_blk hb 2).trans rfl, fz_blk hb _, ⟨set_blk hb _ _, rest hot (by decide), rest hev (by decide), rest own1 (by decide), kf, hB, kb.at' hA (tagb _ _ _ hA (by decide))⟩, fun z cs hz => ?_⟩
  have h1 := ka.at' hz (tag _ _ _ hz (by decide))
  exact ⟨h1, kb.at' h1 (tagb _ _ _ h1 (by decide))⟩

/-- a new set -/
def soNew (n : Nat) (p q : Nat → Int) (ne : Nat) (f : Nat → Bool) (m : Nat) (p' q' : Nat → Int) : So := { ns := n, cnt := p, mx := q, ne := ne, ev := f, nb := m, it := fun _ => .slice none 0 0, ms := fun _ => [], xs := fun _ => [], dp := q', sz := p' }
theorem Nw.st {w wr : World} {A : Array Value} {b : Nat} {sv ev bv : Value} {p q : Nat → Int} {n ne : Nat} {us : List Value} {p' q' : Nat → Int} {m : Nat} (h : Nw w wr A b sv ev bv p q n ne us p' q' m) {f : Nat → Bool} (hf : ∀ i, i < ne → us[i]? = some (.bool (f i))) : St wr w.heap.size b sv ev bv (soNew n p q ne f m p' q') := by
  refine ⟨h.1, h.2.2.2.2.2.1, Rc.of_owns h.2.1 (fun i j hi hj => ?_), Rc.of_owns h.2.2.1 (fun i j hi hj => ?_), Rc.of_owns h.2.2.2.1 (fun i j hi hj => ?_), fun i hi => .inl ⟨rfl, rfl⟩, fun i hi => rfl, fun i j v x hi hv => ?_, fun i j hi hj hij k hk => ?_, fun i j i' j' v v' hi hi' hv => ?_⟩
  · rw [cat_at (f := sF p q) (s := 2) (fun _ => rfl) n i j hi hj]
    have : j = 0 ∨ j = 1 := by omega
    rcases this with rfl | rfl <;> rfl
  · have : j = 0 := by omega
    subst this
    rw [Nat.mul_one, Nat.add_zero]
    exact hf i hi
  · have hi' : i < m := hi
    rw [cat_at (f := bF p' q') (s := 3) (fun _ => rfl) m i j hi' hj]
    have : j = 0 ∨ j = 1 ∨ j = 2 := by omega
    rcases this with rfl | rfl | rfl <;> rfl
  · have hv' : ([] : List Value)[j]? = some v := hv
    cases hv'
  · have hk' : (Value.slice none 0 0).ownBlock = some k := hk
    cases hk'
  · have hv' : ([] : List Value)[j]? = some v := hv
    cases hv'
def NewA (w w' : World) (b : Nat) (S : So) : Prop := ∃ sv ev bv, St w' w.heap.size b sv ev bv S ∧ Kept No w w'
set_option maxHeartbeats 8000000 in
theorem new_any {F : Nat → Prop} {A : Array Value} {sa ea ba : Option Addr} {n sc ne ec nb bc : Nat} {p q p' q' : Nat → Int} {us : List Value} {f : Nat → Bool} (w : World) (hA : A.size = 21) (h18 : A[18]? = some (.slice sa n sc)) (h19 : A[19]? = some (.slice ea ne ec)) (h20 : A[20]? = some (.slice ba nb bc))
    (hs : Pp w F sa n sc p q) (he : Vs w F ea ne ec us) (hb : Pp w F ba nb bc p' q') (hf : ∀ i, i < ne → us[i]? = some (.bool (f i))) (hn : n ≤ 4095) (hne : ne ≤ 4095) (hnb : nb ≤ 4095) :
    Calls Try.prog 6 #[.agg A] w fun e w' => ∃ b, e = .returned (.pointer (some ⟨b, 0, none⟩)) ∧ NewA w w' b (soNew n p q ne f nb p' q') := by
  have k1 : Kept No w (w.alloc (.cells A 37)) := (Kept.refl No w).alloc _
  have hB := alloc_new w (.cells A 37)
  have c19 : (w.alloc (.cells A 37)).cell? ⟨w.heap.size, 19, none⟩ = some (.slice ea ne ec) := (cell_of_row _ _ 19 _ _ _ hB).trans h19
  have h1 : ∀ u ∈ us, u.oneCell' = true := fun u hu => by
    obtain ⟨i, hi, e⟩ := List.mem_iff_getElem.1 hu
    have h2 := hf i (by rw [← he.len]; exact hi)
    rw [List.getElem?_eq_getElem hi, e] at h2
    injection h2 with h2
    subst h2
    rfl
  have FL : Hid (∀ W, Kept No w W → Calls Try.prog 29 #[.slice ea ne ec] W fun e w' => ∃ ya yc, e = .returned (.slice ya ne yc) ∧ w'.ownsRow W.heap.size 4 1 (.slice ya ne yc) ne us ∧ Kept No W w') := fun W k => flags_any W (he.kept k (fun _ _ e => e)) h1 (by omega)
  have HP : Hid (Pp w F sa n sc p q ∧ Pp w F ba nb bc p' q' ∧ ∀ i, i < ne → us[i]? = some (.bool (f i))) := ⟨hs, hb, hf⟩
  have hsc := hs.cap
  have hsm := hs.max
  have hbc := hb.cap
  have hbm := hb.max
  have HA : Hid (A[18]? = some (.slice sa n sc) ∧ A[20]? = some (.slice ba nb bc)) := ⟨h18, h20⟩
  have H1 : Hid (Kept No w (w.alloc (.cells A 37)) ∧ (w.alloc (.cells A 37)).heap[w.heap.size]? = some (.cells A 37) ∧ (w.alloc (.cells A 37)).heap.size = w.heap.size + 1) := ⟨k1, hB, World.size_alloc _ _⟩
  clear hB h18 h19 h20 k1 hs he hb hf h1
  go_enter Try.func6, Try.ntmps6
  go_upto_region 1 with fail
  generalize (w.alloc (.cells A 37)) = w1 at *
  clear hA
  go_upto_region 2 with (go_at_call 29; refine (FL.out _ H1.out.1).mono ?_; rintro e w2 ⟨ya, yc, rfl, o2, k2⟩; have O2 := hid o2; have K2 := hid k2; clear o2 k2 FL)
  have N0 : Nw w (w2.alloc (.cells #[.slice none 0 0, .slice ya ne yc, .slice none 0 0] 82)) A w2.heap.size (.slice none 0 0) (.slice ya ne yc) (.slice none 0 0) p q 0 ne us p' q' 0 := by
    have hs2 := K2.out.size
    have hs1 := H1.out.2.2
    refine ⟨alloc_new w2 _, World.ownsRow_nil _ _ _ _, ?_, World.ownsRow_nil _ _ _ _, (H1.out.1.trans K2.out (fun _ e => e.elim)).alloc _, by omega, (K2.out.alloc _).at' H1.out.2.1 (fun e => e)⟩
    obtain ⟨q1, q2 | ⟨g, cap, cur, r1, r2, r3⟩⟩ := O2.out
    · exact World.ownsRow.alloc ⟨q1, .inl q2⟩ _
    · exact World.ownsRow.alloc ⟨q1, .inr ⟨g, cap, cur, r1, by omega, r3⟩⟩ _
  have HN0 := hid N0
  have c18 : (w2.alloc (.cells #[.slice none 0 0, .slice ya ne yc, .slice none 0 0] 82)).cell? ⟨w.heap.size, 18, none⟩ = some (.slice sa n sc) := (cell_of_row _ _ 18 _ _ _ N0.2.2.2.2.2.2).trans HA.out.1
  clear N0 c19 O2 K2 H1
  generalize hbb : w2.heap.size = b at *
  generalize (w2.alloc (.cells #[.slice none 0 0, .slice ya ne yc, .slice none 0 0] 82)) = w3 at *
  clear hbb
  go_wp2
  clear c18
  go_loopw [16] (fun x wr => ∃ (k : Nat) (sv : Value), k ≤ n ∧ x = .int .i64 k ∧ Nw w wr A b sv (.slice ya ne yc) (.slice none 0 0) p q k ne us p' q' 0) (fun x _ => n - (intOf x).toNat)
  case atStart => exact ⟨0, .slice none 0 0, Nat.zero_le _, rfl, HN0.out⟩
  case round =>
    clear HN0
    obtain ⟨k, sv, hk, rfl, hnw⟩ := hrel
    have HN := hid hnw
    clear hnw
    by_cases hlt : k < n
    · have hltz : (k : Int) < (n : Int) := by omega
      obtain ⟨qb, qo, rfl, hqF, e0, e1⟩ := (HP.out.1.kept HN.out.2.2.2.2.1 (fun _ _ e => e)).at' k hlt
      go_upto_region 5 with fail
      have kz : Kept No wr (wr.alloc (.cells #[.int .i64 (p k), .int .i64 (q k)] 24)) := (Kept.refl No wr).alloc _
      have HZ : Hid (Nw w (wr.alloc (.cells #[.int .i64 (p k), .int .i64 (q k)] 24)) A b sv (.slice ya ne yc) (.slice none 0 0) p q k ne us p' q' 0 ∧ (wr.alloc (.cells #[.int .i64 (p k), .int .i64 (q k)] 24)).heap[wr.heap.size]? = some (.cells #[.int .i64 (p k), .int .i64 (q k)] 24)) := ⟨HN.out.keep kz, alloc_new wr _⟩
      clear kz e0 e1 HN
      obtain ⟨z, hz⟩ : ∃ z, wr.heap.size = z := ⟨_, rfl⟩
      rw [hz] at HZ
      simp only [hz]
      clear hz
      generalize (wr.alloc (.cells #[.int .i64 (p k), .int .i64 (q k)] 24)) = wz at *
      obtain ⟨v1, wa, hap, own1, grow1⟩ := (HZ.out.1.keep ((Kept.refl No wz).drew)).sapp (by omega)
      obtain ⟨va, vn, vc, rfl⟩ := own_slice own1
      obtain ⟨hba, hbf, hnw, hzz⟩ := (HZ.out.1.keep ((Kept.refl No wz).drew)).sfin own1 grow1
      have HF := hid hnw
      have kd : Kept No wz wz.drew := (Kept.refl No wz).drew
      have SZ : ∀ (W : World) (cs : Array Value), cs = #[.int .i64 (p k), .int .i64 (q k)] → W.heap[z]? = some (.cells cs 24) → W.cell? ⟨z, 0, none⟩ = some (.int .i64 (p k)) ∧ W.cell? ⟨z, 1, none⟩ = some (.int .i64 (q k)) := fun W cs hcs hW => by subst hcs; exact ⟨(cell_blk hW 0).trans rfl, (cell_blk hW 1).trans rfl⟩
      have hSd := SZ wz.drew _ rfl (kd.at' HZ.out.2 (fun e => e))
      have hSm := SZ (wz.drew.alloc (.cells #[.int .i64 (p k), .int .i64 (q k)] 84)) _ rfl ((kd.alloc _).at' HZ.out.2 (fun e => e))
      have hSa := SZ wa _ rfl (hzz z _ (kd.at' HZ.out.2 (fun e => e))).1
      have hSb := SZ (wa.setCell ⟨b, 0, none⟩ (.slice va vn vc)) _ rfl (hzz z _ (kd.at' HZ.out.2 (fun e => e))).2
      have hbv : wz.drew.cell? ⟨b, 0, none⟩ = some sv := (cell_blk (kd.at' HZ.out.1.1 (fun e => e)) 0).trans rfl
      have hbm : (wz.drew.alloc (.cells #[.int .i64 (p k), .int .i64 (q k)] 84)).cell? ⟨b, 0, none⟩ = some sv := (cell_blk ((kd.alloc _).at' HZ.out.1.1 (fun e => e)) 0).trans rfl
      clear hnw hzz own1 grow1 SZ kd
      generalize hx0 : p k = x0 at *
      generalize hx1 : q k = x1 at *
      clear hx0 hx1
      refine wp_region_held_drew (S := fun w' => w'.cell? ⟨z, 0, none⟩ = some (.int .i64 x0) ∧ w'.cell? ⟨z, 1, none⟩ = some (.int .i64 x1)) (by kernel_rfl) hSd (fun hS => ?_)
      clear hSd
      refine d_take 0 20 rfl rfl (by kernel_rfl) (by kernel_rfl) (by kernel_rfl) (fun _ _ _ h => h) rfl (fun w' hw' => er_mv _ rfl (.pointer (some ⟨b, 0, none⟩)) rfl) hS ?_
      simp only [Act.put, List.setIfInBounds_toArray, List.set_cons_zero, List.set_cons_succ]
      refine d_take 1 21 rfl rfl (by kernel_rfl) (by kernel_rfl) (by kernel_rfl) (fun _ _ _ h => h) rfl (fun w' hw' => er_mv _ rfl (.pointer (some ⟨b, 0, none⟩)) rfl) hS ?_
      simp only [Act.put, List.setIfInBounds_toArray, List.set_cons_zero, List.set_cons_succ]
      refine d_take 2 22 rfl rfl (by kernel_rfl) (by kernel_rfl) (by kernel_rfl) (fun _ _ _ h => h) rfl (fun w' hw' => er_nil _ rfl ⟨b, 0, none⟩ rfl) hS ?_
      simp only [Act.put, List.setIfInBounds_toArray, List.set_cons_zero, List.set_cons_succ]
      refine d_take 3 23 rfl rfl (by kernel_rfl) (by kernel_rfl) (by kernel_rfl) (fun _ _ _ h => h) rfl (fun w' hw' => er_fS0 _ rfl b rfl) hS ?_
      simp only [Act.put, List.setIfInBounds_toArray, List.set_cons_zero, List.set_cons_succ]
      refine d_take 5 25 rfl rfl (by kernel_rfl) (by kernel_rfl) (by kernel_rfl) (fun _ _ _ h => h) rfl (fun w' hw' => er_fm0 _ rfl z rfl) hS ?_
      simp only [Act.put, List.setIfInBounds_toArray, List.set_cons_zero, List.set_cons_succ]
      refine d_take 6 26 rfl rfl (by kernel_rfl) (by kernel_rfl) (by kernel_rfl) (fun _ _ _ h => h) rfl (fun w' hw' => er_ldi _ rfl z 0 (.int .i64 x0) rfl hw'.1) hS ?_
      simp only [Act.put, List.setIfInBounds_toArray, List.set_cons_zero, List.set_cons_succ]
      refine d_take 7 27 rfl rfl (by kernel_rfl) (by kernel_rfl) (by kernel_rfl) (fun _ _ _ h => h) rfl (fun w' hw' => er_fm1 _ rfl z rfl) hS ?_
      simp only [Act.put, List.setIfInBounds_toArray, List.set_cons_zero, List.set_cons_succ]
      refine d_take 8 28 rfl rfl (by kernel_rfl) (by kernel_rfl) (by kernel_rfl) (fun _ _ _ h => h) rfl (fun w' hw' => er_ldi _ rfl z 1 (.int .i64 x1) rfl hw'.2) hS ?_
      simp only [Act.put, List.setIfInBounds_toArray, List.set_cons_zero, List.set_cons_succ]
      refine d_take 9 29 rfl rfl (by kernel_rfl) (by kernel_rfl) (by kernel_rfl) (fun _ _ _ h => h) rfl (fun w' hw' => er_build 84 _ rfl _ (by kernel_rfl) _ (built_s x0 x1)) hS ?_
      simp only [Act.put, List.setIfInBounds_toArray, List.set_cons_zero, List.set_cons_succ]
      refine d_pair 4 24 10 30 (by kernel_rfl) rfl rfl rfl rfl rfl rfl (er_lds _ rfl b 0 sv rfl hbv) (er_bss _ rfl _ rfl (fill_s x0 x1)) hS hSm ?_ ?_
      · simp only [Act.put, List.setIfInBounds_toArray, List.set_cons_zero, List.set_cons_succ]
        refine d_make 10 30 (by kernel_rfl) rfl rfl rfl (er_bss _ rfl _ rfl (fill_s x0 x1)) hSm ?_
        simp only [Act.put, List.setIfInBounds_toArray, List.set_cons_zero, List.set_cons_succ]
        refine d_make 11 31 (by kernel_rfl) rfl rfl rfl (er_apps (.tmp 24) (.tmp 30) rfl sv (.slice (some ⟨wz.drew.heap.size, 0, none⟩) 1 1) rfl rfl (.slice va vn vc) wa rfl hap) hSa ?_
        simp only [Act.put, List.setIfInBounds_toArray, List.set_cons_zero, List.set_cons_succ]
        have hS := hSa
        refine d_take 12 32 rfl rfl (by kernel_rfl) (by kernel_rfl) (by kernel_rfl) (fun _ _ _ h => h) rfl (fun w' hw' => er_nil _ rfl ⟨b, 0, none⟩ rfl) hS ?_
        simp only [Act.put, List.setIfInBounds_toArray, List.set_cons_zero, List.set_cons_succ]
        refine d_take 13 33 rfl rfl (by kernel_rfl) (by kernel_rfl) (by kernel_rfl) (fun _ _ _ h => h) rfl (fun w' hw' => er_fS0 _ rfl b rfl) hS ?_
        simp only [Act.put, List.setIfInBounds_toArray, List.set_cons_zero, List.set_cons_succ]
        refine d_turn 14 (by kernel_rfl) rfl rfl rfl (er_sts _ _ rfl b 0 sv va vn vc rfl rfl hba hbf) hSb ?_
        refine wpAnyH_done (by kernel_rfl) ?_ _
        clear hS hSa hSb
        go_wp2
        go_roundw
        case rel => exact ⟨k + 1, .slice va vn vc, by omega, by go_num, HF.out⟩
        case measure => simp [intOf]; omega
      · simp only [Act.put, List.setIfInBounds_toArray, List.set_cons_zero, List.set_cons_succ]
        refine d_read 4 24 (by kernel_rfl) rfl rfl rfl (er_lds _ rfl b 0 sv rfl hbm) hSm ?_
        simp only [Act.put, List.setIfInBounds_toArray, List.set_cons_zero, List.set_cons_succ]
        refine d_make 11 31 (by kernel_rfl) rfl rfl rfl (er_apps (.tmp 24) (.tmp 30) rfl sv (.slice (some ⟨wz.drew.heap.size, 0, none⟩) 1 1) rfl rfl (.slice va vn vc) wa rfl hap) hSa ?_
        simp only [Act.put, List.setIfInBounds_toArray, List.set_cons_zero, List.set_cons_succ]
        have hS := hSa
        refine d_take 12 32 rfl rfl (by kernel_rfl) (by kernel_rfl) (by kernel_rfl) (fun _ _ _ h => h) rfl (fun w' hw' => er_nil _ rfl ⟨b, 0, none⟩ rfl) hS ?_
        simp only [Act.put, List.setIfInBounds_toArray, List.set_cons_zero, List.set_cons_succ]
        refine d_take 13 33 rfl rfl (by kernel_rfl) (by kernel_rfl) (by kernel_rfl) (fun _ _ _ h => h) rfl (fun w' hw' => er_fS0 _ rfl b rfl) hS ?_
        simp only [Act.put, List.setIfInBounds_toArray, List.set_cons_zero, List.set_cons_succ]
        refine d_turn 14 (by kernel_rfl) rfl rfl rfl (er_sts _ _ rfl b 0 sv va vn vc rfl rfl hba hbf) hSb ?_
        refine wpAnyH_done (by kernel_rfl) ?_ _
        clear hS hSa hSb
        go_wp2
        go_roundw
        case rel => exact ⟨k + 1, .slice va vn vc, by omega, by go_num, HF.out⟩
        case measure => simp [intOf]; omega
    · have hltz : ¬ (k : Int) < (n : Int) := by omega
      have hkn : k = n := by omega
      subst hkn
      have c20 : wr.cell? ⟨w.heap.size, 20, none⟩ = some (.slice ba nb bc) := (cell_of_row _ _ 20 _ _ _ HN.out.2.2.2.2.2.2).trans HA.out.2
      go_wp2
      clear c20
      go_loopw [38] (fun x wr => ∃ (m : Nat) (bv : Value), m ≤ nb ∧ x = .int .i64 m ∧ Nw w wr A b sv (.slice ya ne yc) bv p q k ne us p' q' m) (fun x _ => nb - (intOf x).toNat)
      case atStart => exact ⟨0, .slice none 0 0, Nat.zero_le _, rfl, HN.out⟩
      case round =>
        clear HN
        obtain ⟨m, bv, hm, rfl, hnw⟩ := hrel
        have HN := hid hnw
        clear hnw
        by_cases hlt2 : m < nb
        · have hltz2 : (m : Int) < (nb : Int) := by omega
          obtain ⟨qb, qo, rfl, hqF, e0, e1⟩ := (HP.out.2.1.kept HN.out.2.2.2.2.1 (fun _ _ e => e)).at' m hlt2
          go_upto_region 10 with fail
          have kz : Kept No wr (wr.alloc (.cells #[.int .i64 (p' m), .int .i64 (q' m)] 27)) := (Kept.refl No wr).alloc _
          have HZ : Hid (Nw w (wr.alloc (.cells #[.int .i64 (p' m), .int .i64 (q' m)] 27)) A b sv (.slice ya ne yc) bv p q k ne us p' q' m ∧ (wr.alloc (.cells #[.int .i64 (p' m), .int .i64 (q' m)] 27)).heap[wr.heap.size]? = some (.cells #[.int .i64 (p' m), .int .i64 (q' m)] 27)) := ⟨HN.out.keep kz, alloc_new wr _⟩
          clear kz e0 e1 HN
          obtain ⟨z, hz⟩ : ∃ z, wr.heap.size = z := ⟨_, rfl⟩
          rw [hz] at HZ
          simp only [hz]
          clear hz
          generalize (wr.alloc (.cells #[.int .i64 (p' m), .int .i64 (q' m)] 27)) = wz at *
          obtain ⟨v1, wa, hap, own1, grow1⟩ := (HZ.out.1.keep ((Kept.refl No wz).drew)).bapp (by omega)
          obtain ⟨va, vn, vc, rfl⟩ := own_slice own1
          obtain ⟨hba, hbf, hnw, hzz⟩ := (HZ.out.1.keep ((Kept.refl No wz).drew)).bfin own1 grow1
          have HF := hid hnw
          have kd : Kept No wz wz.drew := (Kept.refl No wz).drew
          have SZ : ∀ (W : World) (cs : Array Value), cs = #[.int .i64 (p' m), .int .i64 (q' m)] → W.heap[z]? = some (.cells cs 27) → W.cell? ⟨z, 0, none⟩ = some (.int .i64 (p' m)) ∧ W.cell? ⟨z, 1, none⟩ = some (.int .i64 (q' m)) := fun W cs hcs hW => by subst hcs; exact ⟨(cell_blk hW 0).trans rfl, (cell_blk hW 1).trans rfl⟩
          have hSd := SZ wz.drew _ rfl (kd.at' HZ.out.2 (fun e => e))
          have hSm := SZ (wz.drew.alloc (.cells #[.slice none 0 0, .int .i64 (q' m), .int .i64 (p' m)] 88)) _ rfl ((kd.alloc _).at' HZ.out.2 (fun e => e))
          have hSa := SZ wa _ rfl (hzz z _ (kd.at' HZ.out.2 (fun e => e))).1
          have hSb := SZ (wa.setCell ⟨b, 2, none⟩ (.slice va vn vc)) _ rfl (hzz z _ (kd.at' HZ.out.2 (fun e => e))).2
          have hbv : wz.drew.cell? ⟨b, 2, none⟩ = some bv := (cell_blk (kd.at' HZ.out.1.1 (fun e => e)) 2).trans rfl
          have hbm : (wz.drew.alloc (.cells #[.slice none 0 0, .int .i64 (q' m), .int .i64 (p' m)] 88)).cell? ⟨b, 2, none⟩ = some bv := (cell_blk ((kd.alloc _).at' HZ.out.1.1 (fun e => e)) 2).trans rfl
          clear hnw hzz own1 grow1 SZ kd
          generalize hx0 : p' m = x0 at *
          generalize hx1 : q' m = x1 at *
          clear hx0 hx1
          refine wp_region_held_drew (S := fun w' => w'.cell? ⟨z, 0, none⟩ = some (.int .i64 x0) ∧ w'.cell? ⟨z, 1, none⟩ = some (.int .i64 x1)) (by kernel_rfl) hSd (fun hS => ?_)
          clear hSd
          refine d_take 0 42 rfl rfl (by kernel_rfl) (by kernel_rfl) (by kernel_rfl) (fun _ _ _ h => h) rfl (fun w' hw' => er_mv _ rfl (.pointer (some ⟨b, 0, none⟩)) rfl) hS ?_
          simp only [Act.put, List.setIfInBounds_toArray, List.set_cons_zero, List.set_cons_succ]
          refine d_take 1 43 rfl rfl (by kernel_rfl) (by kernel_rfl) (by kernel_rfl) (fun _ _ _ h => h) rfl (fun w' hw' => er_mv _ rfl (.pointer (some ⟨b, 0, none⟩)) rfl) hS ?_
          simp only [Act.put, List.setIfInBounds_toArray, List.set_cons_zero, List.set_cons_succ]
          refine d_take 2 44 rfl rfl (by kernel_rfl) (by kernel_rfl) (by kernel_rfl) (fun _ _ _ h => h) rfl (fun w' hw' => er_nil _ rfl ⟨b, 0, none⟩ rfl) hS ?_
          simp only [Act.put, List.setIfInBounds_toArray, List.set_cons_zero, List.set_cons_succ]
          refine d_take 3 45 rfl rfl (by kernel_rfl) (by kernel_rfl) (by kernel_rfl) (fun _ _ _ h => h) rfl (fun w' hw' => er_fS2 _ rfl b rfl) hS ?_
          simp only [Act.put, List.setIfInBounds_toArray, List.set_cons_zero, List.set_cons_succ]
          refine d_take 5 47 rfl rfl (by kernel_rfl) (by kernel_rfl) (by kernel_rfl) (fun _ _ _ h => h) rfl (fun w' hw' => er_fu1 _ rfl z rfl) hS ?_
          simp only [Act.put, List.setIfInBounds_toArray, List.set_cons_zero, List.set_cons_succ]
          refine d_take 6 48 rfl rfl (by kernel_rfl) (by kernel_rfl) (by kernel_rfl) (fun _ _ _ h => h) rfl (fun w' hw' => er_ldi _ rfl z 1 (.int .i64 x1) rfl hw'.2) hS ?_
          simp only [Act.put, List.setIfInBounds_toArray, List.set_cons_zero, List.set_cons_succ]
          refine d_take 7 49 rfl rfl (by kernel_rfl) (by kernel_rfl) (by kernel_rfl) (fun _ _ _ h => h) rfl (fun w' hw' => er_build 86 _ rfl _ (by kernel_rfl) _ (built_q x1)) hS ?_
          simp only [Act.put, List.setIfInBounds_toArray, List.set_cons_zero, List.set_cons_succ]
          refine d_take 8 50 rfl rfl (by kernel_rfl) (by kernel_rfl) (by kernel_rfl) (fun _ _ _ h => h) rfl (fun w' hw' => er_fu0 _ rfl z rfl) hS ?_
          simp only [Act.put, List.setIfInBounds_toArray, List.set_cons_zero, List.set_cons_succ]
          refine d_take 9 51 rfl rfl (by kernel_rfl) (by kernel_rfl) (by kernel_rfl) (fun _ _ _ h => h) rfl (fun w' hw' => er_ldi _ rfl z 0 (.int .i64 x0) rfl hw'.1) hS ?_
          simp only [Act.put, List.setIfInBounds_toArray, List.set_cons_zero, List.set_cons_succ]
          refine d_take 10 52 rfl rfl (by kernel_rfl) (by kernel_rfl) (by kernel_rfl) (fun _ _ _ h => h) rfl (fun w' hw' => er_build 88 _ rfl _ (by kernel_rfl) _ (built_b x1 x0)) hS ?_
          simp only [Act.put, List.setIfInBounds_toArray, List.set_cons_zero, List.set_cons_succ]
          refine d_pair 4 46 11 53 (by kernel_rfl) rfl rfl rfl rfl rfl rfl (er_ldb _ rfl b 2 bv rfl hbv) (er_bsb _ rfl _ rfl (fill_b x1 x0)) hS hSm ?_ ?_
          · simp only [Act.put, List.setIfInBounds_toArray, List.set_cons_zero, List.set_cons_succ]
            refine d_make 11 53 (by kernel_rfl) rfl rfl rfl (er_bsb _ rfl _ rfl (fill_b x1 x0)) hSm ?_
            simp only [Act.put, List.setIfInBounds_toArray, List.set_cons_zero, List.set_cons_succ]
            refine d_make 12 54 (by kernel_rfl) rfl rfl rfl (er_appb (.tmp 46) (.tmp 53) rfl bv (.slice (some ⟨wz.drew.heap.size, 0, none⟩) 1 1) rfl rfl (.slice va vn vc) wa rfl hap) hSa ?_
            simp only [Act.put, List.setIfInBounds_toArray, List.set_cons_zero, List.set_cons_succ]
            have hS := hSa
            refine d_take 13 55 rfl rfl (by kernel_rfl) (by kernel_rfl) (by kernel_rfl) (fun _ _ _ h => h) rfl (fun w' hw' => er_nil _ rfl ⟨b, 0, none⟩ rfl) hS ?_
            simp only [Act.put, List.setIfInBounds_toArray, List.set_cons_zero, List.set_cons_succ]
            refine d_take 14 56 rfl rfl (by kernel_rfl) (by kernel_rfl) (by kernel_rfl) (fun _ _ _ h => h) rfl (fun w' hw' => er_fS2 _ rfl b rfl) hS ?_
            simp only [Act.put, List.setIfInBounds_toArray, List.set_cons_zero, List.set_cons_succ]
            refine d_turn 15 (by kernel_rfl) rfl rfl rfl (er_stb _ _ rfl b 2 bv va vn vc rfl rfl hba hbf) hSb ?_
            refine wpAnyH_done (by kernel_rfl) ?_ _
            clear hS hSa hSb
            go_wp2
            go_roundw
            case rel => exact ⟨m + 1, .slice va vn vc, by omega, by go_num, HF.out⟩
            case measure => simp [intOf]; omega
          · simp only [Act.put, List.setIfInBounds_toArray, List.set_cons_zero, List.set_cons_succ]
            refine d_read 4 46 (by kernel_rfl) rfl rfl rfl (er_ldb _ rfl b 2 bv rfl hbm) hSm ?_
            simp only [Act.put, List.setIfInBounds_toArray, List.set_cons_zero, List.set_cons_succ]
            refine d_make 12 54 (by kernel_rfl) rfl rfl rfl (er_appb (.tmp 46) (.tmp 53) rfl bv (.slice (some ⟨wz.drew.heap.size, 0, none⟩) 1 1) rfl rfl (.slice va vn vc) wa rfl hap) hSa ?_
            simp only [Act.put, List.setIfInBounds_toArray, List.set_cons_zero, List.set_cons_succ]
            have hS := hSa
            refine d_take 13 55 rfl rfl (by kernel_rfl) (by kernel_rfl) (by kernel_rfl) (fun _ _ _ h => h) rfl (fun w' hw' => er_nil _ rfl ⟨b, 0, none⟩ rfl) hS ?_
            simp only [Act.put, List.setIfInBounds_toArray, List.set_cons_zero, List.set_cons_succ]
            refine d_take 14 56 rfl rfl (by kernel_rfl) (by kernel_rfl) (by kernel_rfl) (fun _ _ _ h => h) rfl (fun w' hw' => er_fS2 _ rfl b rfl) hS ?_
            simp only [Act.put, List.setIfInBounds_toArray, List.set_cons_zero, List.set_cons_succ]
            refine d_turn 15 (by kernel_rfl) rfl rfl rfl (er_stb _ _ rfl b 2 bv va vn vc rfl rfl hba hbf) hSb ?_
            refine wpAnyH_done (by kernel_rfl) ?_ _
            clear hS hSa hSb
            go_wp2
            go_roundw
            case rel => exact ⟨m + 1, .slice va vn vc, by omega, by go_num, HF.out⟩
            case measure => simp [intOf]; omega
        · have hltz2 : ¬ (m : Int) < (nb : Int) := by omega
          have hmn : m = nb := by omega
          subst hmn
          go_wp2
          go_ret
          exact ⟨b, rfl, sv, _, bv, HN.out.st HP.out.2.2, HN.out.2.2.2.2.1⟩
end Go.Proofs.Ytggkajopfbokjaa
