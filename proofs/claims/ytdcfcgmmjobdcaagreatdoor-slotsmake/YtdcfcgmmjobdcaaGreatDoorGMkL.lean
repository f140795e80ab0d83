/-
  One text: OAddsP, STellP, SMkA, SMkB, SMkL.
-/
import Derived.Test.YtdcfcgmmjobdcaaGreatDoorOJoinP
import Derived.Test.YtdcfcgmmjobdcaaGreatDoorGMake
import Derived.Test.YtdcfcgmmjobdcaaGreatDoorGApt
import Derived.Laws.AppendOwnNone
namespace Go.Proofs.YtdcfcgmmjobdcaaGreatDoor
namespace Rule
set_option linter.unusedVariables false

/-- neighbours are unlike -/
def Unlike (L : List (Nat × Nat)) : Prop := ∀ i x y, L[i]? = some x → L[i + 1]? = some y → x.2 ≠ y.2
theorem Unlike.snoc {L : List (Nat × Nat)} (h : Unlike L) (x : Nat × Nat) (hx : ∀ y, L.getLast? = some y → y.2 ≠ x.2) : Unlike (L ++ [x]) := by
  intro i a b ha hb
  have hi : i + 1 < (L ++ [x]).length := (List.getElem?_eq_some_iff.1 hb).1
  simp at hi
  by_cases h1 : i + 1 < L.length
  · rw [List.getElem?_append_left h1] at hb
    rw [List.getElem?_append_left (by omega)] at ha
    exact h i a b ha hb
  · have e : i + 1 = L.length := by omega
    rw [List.getElem?_append_left (by omega)] at ha
    rw [e, List.getElem?_append_right (Nat.le_refl _)] at hb
    simp at hb
    subst hb
    refine hx a ?_
    rw [List.getLast?_eq_getElem?, ← e, Nat.add_sub_cancel]
    exact ha
theorem Unlike.init {L : List (Nat × Nat)} {x : Nat × Nat} (h : Unlike (L ++ [x])) : Unlike L ∧ ∀ y, L.getLast? = some y → y.2 ≠ x.2 := by
  refine ⟨fun i a b ha hb => ?_, fun y hy => ?_⟩
  · have h2 : i + 1 < L.length := (List.getElem?_eq_some_iff.1 hb).1
    exact h i a b (by rw [List.getElem?_append_left (by omega)]; exact ha) (by rw [List.getElem?_append_left h2]; exact hb)
  · rw [List.getLast?_eq_getElem?] at hy
    have hl : L.length - 1 < L.length := (List.getElem?_eq_some_iff.1 hy).1
    refine h (L.length - 1) y x (by rw [List.getElem?_append_left hl]; exact hy) ?_
    rw [show L.length - 1 + 1 = L.length by omega, List.getElem?_append_right (Nat.le_refl _)]
    simp
theorem Unlike.join {L : List (Nat × Nat)} (h : Unlike L) (x : Nat × Nat) : Unlike (joinL L x) := by
  rcases List.eq_nil_or_concat L with rfl | ⟨K, y, rfl⟩
  · rw [joinL_nil]
    intro i a b ha hb
    have := (List.getElem?_eq_some_iff.1 hb).1
    simp at this
  · rw [List.concat_eq_append] at h ⊢
    rw [joinL_snoc]
    obtain ⟨h1, h2⟩ := h.init
    by_cases e : y.2 = x.2
    · rw [if_pos e]
      exact h1.snoc _ (fun z hz => by have := h2 z hz; show z.2 ≠ x.2; rw [← e]; exact this)
    · rw [if_neg e]
      refine h.snoc x (fun z hz => ?_)
      simp at hz
      subst hz
      exact e
theorem runsOf_unlike (f : Nat → Nat) (a m : Nat) : Unlike (runsOf f a m) := by
  induction m with
  | zero => intro i x y h; simp [runsOf] at h
  | succ m ih => exact ih.join _

theorem cnt_run (f : Nat → Nat) (p q t len : Nat) (h : ∀ u, t ≤ u → u < t + len → f u = q) : cnt f p (t + len) = cnt f p t + (if q = p then len else 0) := by
  induction len with
  | zero => simp
  | succ len ih =>
    have := ih (fun u x y => h u x (by omega))
    show cnt f p (t + len) + (if f (t + len) = p then 1 else 0) = _
    rw [this, h (t + len) (by omega) (by omega)]
    split <;> omega
/-- how many ticks from a on, below t, are p's -/
def cI (f : Nat → Nat) (a t p : Nat) : Int := (cnt f p t : Int) - (cnt f p a : Int)
theorem cI_start (f : Nat → Nat) (a p : Nat) : cI f a a p = 0 := by unfold cI; omega
theorem cI_nonneg (f : Nat → Nat) (a t p : Nat) (h : a ≤ t) : 0 ≤ cI f a t p := by unfold cI; have := cnt_mono f p h; omega
theorem cI_le (f : Nat → Nat) (a t p : Nat) (h : a ≤ t) : cI f a t p ≤ (t : Int) - a := by unfold cI; have := cnt_diff f p h; omega
theorem cI_run (f : Nat → Nat) (a t len q p : Nat) (h : ∀ u, t ≤ u → u < t + len → f u = q) : cI f a (t + len) p = cI f a t p + (if q = p then (len : Int) else 0) := by
  unfold cI
  rw [cnt_run f p q t len h]
  split <;> omega
theorem cnt_pos {f : Nat → Nat} {p a t u : Nat} (h1 : a ≤ u) (h2 : u < t) (h : f u = p) : cnt f p a < cnt f p t := by
  have e1 := cnt_mono f p h1
  have e2 : cnt f p (u + 1) ≤ cnt f p t := cnt_mono f p (by omega)
  have e3 : cnt f p (u + 1) = cnt f p u + 1 := by show cnt f p u + (if f u = p then 1 else 0) = _; rw [if_pos h]
  omega
theorem cI_zero {f : Nat → Nat} {a t p : Nat} (h : cI f a t p = 0) : ∀ u, a ≤ u → u < t → f u ≠ p := fun u h1 h2 e => by
  have := cnt_pos h1 h2 e
  unfold cI at h
  omega
theorem cI_pos {f : Nat → Nat} {a t p u : Nat} (h1 : a ≤ u) (h2 : u < t) (h : f u = p) : 0 < cI f a t p := by
  have := cnt_pos h1 h2 h
  unfold cI
  omega
/-- the first tick of p from a on -/
def First (f : Nat → Nat) (p a t : Nat) : Prop := a ≤ t ∧ f t = p ∧ ∀ u, a ≤ u → u < t → f u ≠ p
theorem First.uniq {f : Nat → Nat} {p a t u : Nat} (h : First f p a t) (k : First f p a u) : t = u := by
  apply Decidable.byContradiction
  intro hn
  by_cases hlt : t < u
  · exact k.2.2 t h.1 hlt h.2.1
  · exact h.2.2 u k.1 (by omega) k.2.1
theorem First.near {f : Nat → Nat} {p a t H : Nat} (h1 : 0 < H) (hf : ∀ t, H ≤ t → f (t + H) = f t) (h : First f p a t) : t < a + 2 * H := by
  apply Decidable.byContradiction
  intro hn
  have e := hf (t - H) (by omega)
  rw [show t - H + H = t by omega, h.2.1] at e
  exact h.2.2 (t - H) (by omega) (by omega) e.symm
/-- what the rounds of the first loop know of firsts -/
def Firsts (f : Nat → Nat) (n a t : Nat) (fi : Nat → Int) : Prop := ∀ p, p ≤ n → 0 < cI f a t p → ∃ u : Nat, fi p = u ∧ First f p a u ∧ u < t
theorem Firsts.start (f : Nat → Nat) (n a : Nat) (fi : Nat → Int) : Firsts f n a a fi := fun p _ h => by rw [cI_start] at h; omega
theorem Firsts.old {f : Nat → Nat} {n a t len q : Nat} {fi : Nat → Int} (h : Firsts f n a t fi) (hr : ∀ u, t ≤ u → u < t + len → f u = q) (hq : cI f a t q ≠ 0) (hat : a ≤ t) : Firsts f n a (t + len) fi := fun p hp h0 => by
  rw [cI_run f a t len q p hr] at h0
  have h1 : 0 < cI f a t p := by
    by_cases e : q = p
    · subst e; have := cI_nonneg f a t q hat; omega
    · rw [if_neg e] at h0; omega
  obtain ⟨u, e1, e2, e3⟩ := h p hp h1
  exact ⟨u, e1, e2, by omega⟩
theorem Firsts.new {f : Nat → Nat} {n a t len q : Nat} {fi : Nat → Int} (h : Firsts f n a t fi) (hl : 1 ≤ len) (hr : ∀ u, t ≤ u → u < t + len → f u = q) (hq : cI f a t q = 0) (hat : a ≤ t) : Firsts f n a (t + len) (fun p => if p = q then (t : Int) else fi p) := fun p hp h0 => by
  rw [cI_run f a t len q p hr] at h0
  by_cases e : p = q
  · subst e
    exact ⟨t, by simp, ⟨hat, hr t (Nat.le_refl _) (by omega), cI_zero hq⟩, by omega⟩
  · rw [if_neg (fun h => e h.symm)] at h0
    obtain ⟨u, e1, e2, e3⟩ := h p hp (by omega)
    exact ⟨u, by simp only [if_neg e]; exact e1, e2, by omega⟩
/-- what NextOf answers of a span -/
theorem next_in {f : Nat → Nat} {p a b H : Nat} {x : Int} {fi : Nat → Int} {n : Nat} (h1 : 0 < H) (hf : ∀ t, H ≤ t → f (t + H) = f t) (hab : a ≤ b) (hb : b ≤ 1099511627776) (hp : p ≤ n) (hfi : Firsts f n a b fi)
    (hx : (x = -1 ∧ ∀ u, a ≤ u → u < min (a + 2 * H) 1099511627776 → f u ≠ p) ∨ ∃ t : Nat, x = t ∧ t < min (a + 2 * H) 1099511627776 ∧ First f p a t) :
    (0 < cI f a b p → x = fi p) ∧ (cI f a b p = 0 → x ≠ -1 → (b : Int) ≤ x) := by
  constructor
  · intro h0
    obtain ⟨u, e1, e2, e3⟩ := hfi p hp h0
    rcases hx with ⟨rfl, hno⟩ | ⟨t, rfl, ht, hF⟩
    · exact (hno u e2.1 (by have := e2.near h1 hf; omega) e2.2.1).elim
    · rw [e1, hF.uniq e2]
  · intro h0 hne
    rcases hx with ⟨rfl, hno⟩ | ⟨t, rfl, ht, hF⟩
    · exact (hne rfl).elim
    · apply Decidable.byContradiction
      intro hn
      exact cI_zero h0 t hF.1 (by omega) hF.2.1
end Rule
end Go.Proofs.YtdcfcgmmjobdcaaGreatDoor

namespace Go.Proofs.YtdcfcgmmjobdcaaGreatDoor
open Go.RowKit Plain
set_option linter.unusedVariables false
set_option maxRecDepth 100000

theorem sum_cast : ∀ M : List Nat, (M.map (fun x : Nat => (x : Int))).sum = (M.sum : Int)
  | [] => rfl
  | x :: r => by simp [sum_cast r]
theorem zl_pr (L : List (Nat × Nat)) (q : Nat) : Slt.pr (zl L) q = (Rule.pre L q : Nat) := by
  unfold Slt.pr Rule.pre zl
  rw [← sum_cast, ← List.map_take, List.map_map, List.map_map]
  rfl
theorem zl_gt {L : List (Nat × Nat)} {q : Nat} {x : Nat × Nat} (h : L[q]? = some x) : Slt.gt (zl L) q = ((x.1 : Int), (x.2 : Int)) := by
  apply Slt.gt_eq
  unfold zl
  rw [List.getElem?_map, h]
  rfl
theorem zl_len (L : List (Nat × Nat)) : (zl L).length = L.length := by simp [zl]
theorem goes_runs (f : Nat → Nat) (a m : Nat) (hm : m ≤ 1048576) (hf : ∀ t, f t ≤ 32) : Slt.Goes (zl (Rule.runsOf f a m)) := by
  have hT := Rule.runsOf_tile f a m
  have hU := Rule.runsOf_unlike f a m
  intro q hq
  rw [zl_len] at hq
  obtain ⟨x, hx⟩ : ∃ x, (Rule.runsOf f a m)[q]? = some x := ⟨_, List.getElem?_eq_getElem hq⟩
  have h1 := hT.pos x (List.mem_of_getElem? hx)
  have h2 := Rule.pre_le hT (q + 1)
  rw [Rule.pre_succ hx] at h2
  have h3 := hT.at' q x hx (Rule.pre (Rule.runsOf f a m) q) (Nat.le_refl _) (by omega)
  have h4 := hf (a + Rule.pre (Rule.runsOf f a m) q)
  unfold Slt.Ok
  rw [zl_gt hx, zl_pr]
  refine ⟨by simp; omega, by simp; omega, by simp, by simp; omega, ?_⟩
  cases q with
  | zero => rw [Slt.nb_zero]; simp only; omega
  | succ p =>
    rw [Slt.nb_succ]
    obtain ⟨y, hy⟩ : ∃ y, (Rule.runsOf f a m)[p]? = some y := ⟨_, List.getElem?_eq_getElem (by omega)⟩
    rw [zl_gt hy]
    have := hU p y x hy hx
    simp
    omega
theorem pr_runs (f : Nat → Nat) (a m : Nat) : Slt.pr (zl (Rule.runsOf f a m)) (zl (Rule.runsOf f a m)).length = m := by
  rw [zl_pr, zl_len, Rule.pre_all, (Rule.runsOf_tile f a m).sum]
theorem occ32 {xs : List Srv} (hv : Vd xs) (t : Nat) : Rule.occ (sys xs) t ≤ 32 := by
  have := Rule.occ_le (sys xs) t
  have := hv.num
  show _ ≤ _
  have e : (sys xs).n = xs.length := rfl
  omega
theorem tab_runs {xs : List Srv} (hv : Vd xs) : Slt.Tab (zl (Rule.runsOf (Rule.occ (sys xs)) 0 (hyp xs))) (zl (Rule.runsOf (Rule.occ (sys xs)) (hyp xs) (hyp xs))) (hyp xs) :=
  ⟨goes_runs _ _ _ hv.hyp2 (occ32 hv), goes_runs _ _ _ hv.hyp2 (occ32 hv), pr_runs _ _ _, pr_runs _ _ _, hv.hyp1, hv.hyp2⟩
theorem in_runs {f : Nat → Nat} {a m u q : Nat} (h : Slt.In (zl (Rule.runsOf f a m)) (u : Int) q) : (Slt.gt (zl (Rule.runsOf f a m)) q).2 = (f (a + u) : Nat) := by
  have hq := h.1
  have h1 := h.2.1
  have h2 := h.2.2
  rw [zl_len] at hq
  obtain ⟨x, hx⟩ : ∃ x, (Rule.runsOf f a m)[q]? = some x := ⟨_, List.getElem?_eq_getElem hq⟩
  rw [zl_pr] at h1 h2
  rw [Rule.pre_succ hx] at h2
  rw [zl_gt hx, (Rule.runsOf_tile f a m).at' q x hx u (by omega) (by omega)]
theorem who_runs {xs : List Srv} (hv : Vd xs) {t q : Nat} (h : Slt.Sits (zl (Rule.runsOf (Rule.occ (sys xs)) 0 (hyp xs))) (zl (Rule.runsOf (Rule.occ (sys xs)) (hyp xs) (hyp xs))) (hyp xs) t q) :
    Slt.who (zl (Rule.runsOf (Rule.occ (sys xs)) 0 (hyp xs))) (zl (Rule.runsOf (Rule.occ (sys xs)) (hyp xs) (hyp xs))) (hyp xs) t q = (Rule.occ (sys xs) t : Nat) := by
  have hin := h.in'
  have hH := hv.hyp1
  have ba := Slt.beg_add (hyp xs) t
  have bm := Slt.beg_mul (hyp xs) t
  unfold Slt.who
  by_cases hb : Slt.beg (hyp xs) t = 0
  · unfold Slt.lst at hin ⊢
    rw [if_pos hb] at hin ⊢
    rw [in_runs hin, show 0 + t % hyp xs = t by omega]
  · unfold Slt.lst at hin ⊢
    rw [if_neg hb] at hin ⊢
    rw [in_runs hin]
    have hk : 1 ≤ t / hyp xs := by
      apply Decidable.byContradiction
      intro hn
      rw [show t / hyp xs = 0 from Nat.eq_zero_of_not_pos hn, Nat.mul_zero] at bm
      exact hb bm
    have e := Rule.again_mul hv.bd.ok (fun i hi => hv.dvd i hi) (hyp xs + t % hyp xs) (by omega) (t / hyp xs - 1)
    have e2 : hyp xs + t % hyp xs + (t / hyp xs - 1) * hyp xs = t := by
      rw [Nat.sub_mul, Nat.mul_comm (t / hyp xs), Nat.one_mul]
      have : hyp xs ≤ hyp xs * (t / hyp xs) := Nat.le_mul_of_pos_right _ hk
      omega
    rw [e2] at e
    rw [e]
theorem sm_rel {xs : List Srv} (hv : Vd xs) : ∀ n, n ≤ xs.length → ((Rule.sm (fun i => (2 * hyp xs) / (sys xs).P i) n : Nat) : Int) = relF (hyp xs : Int) xs n
  | 0, _ => rfl
  | n + 1, hn => by
    have ih := sm_rel hv n (by omega)
    have hp := hv.per n (by omega)
    rw [Rule.sm, relF, ← ih]
    have e : zP xs n = (((sys xs).P n : Nat) : Int) := by
      show (gs xs n).p = ((gs xs n).p.toNat : Int)
      omega
    rw [e]
    rfl
theorem slots_bound {xs : List Srv} (ht : timF xs xs.length = none) : (Rule.runsOf (Rule.occ (sys xs)) 0 (hyp xs)).length + (Rule.runsOf (Rule.occ (sys xs)) (hyp xs) (hyp xs)).length ≤ 131074 := by
  have hv := vd_of ht
  have h1 := Rule.slots_two hv.bd.ok hv.hyp1 (fun i hi => hv.dvd i hi)
  have h2 := sm_rel hv xs.length (Nat.le_refl _)
  have h3 : relF (hyp xs : Int) xs xs.length ≤ 65536 := by
    have hf := tim_none ht
    unfold timF at ht
    rw [hf] at ht
    unfold togF at ht
    have e : ((hyp xs : Nat) : Int) = lcmV (zP xs) xs.length 1048576 := by
      have := hv.hyp1
      unfold hyp at this ⊢
      omega
    rw [e]
    by_cases hb : lcmB (zP xs) xs.length 1048576 = true
    · rw [if_pos hb] at ht
      by_cases hr : relF (lcmV (zP xs) xs.length 1048576) xs xs.length ≤ 65536
      · exact hr
      · rw [if_neg hr] at ht; cases ht
    · rw [if_neg hb] at ht; cases ht
  have e : (sys xs).n = xs.length := rfl
  rw [e] at h1
  omega
end Go.Proofs.YtdcfcgmmjobdcaaGreatDoor

namespace Go.Proofs.YtdcfcgmmjobdcaaGreatDoor
open Go.RowKit Plain
set_option linter.unusedVariables false
set_option maxRecDepth 100000

def tP (xs : List Srv) : List (Nat × Nat) := match timF xs xs.length with
  | none => Rule.runsOf (Rule.occ (sys xs)) 0 (hyp xs)
  | some _ => []
def tC (xs : List Srv) : List (Nat × Nat) := match timF xs xs.length with
  | none => Rule.runsOf (Rule.occ (sys xs)) (hyp xs) (hyp xs)
  | some _ => []
def tE (xs : List Srv) : Int := match timF xs xs.length with
  | none => 0
  | some p => p.1
theorem tP_le (xs : List Srv) : (tP xs).length ≤ 2097152 := by
  unfold tP
  cases h : timF xs xs.length with
  | none =>
    have := (vd_of h).hyp2
    have := Rule.runsOf_le (Rule.occ (sys xs)) 0 (hyp xs)
    simp only
    omega
  | some p => simp
theorem tC_le (xs : List Srv) : (tC xs).length ≤ 2097152 := by
  unfold tC
  cases h : timF xs xs.length with
  | none =>
    have := (vd_of h).hyp2
    have := Rule.runsOf_le (Rule.occ (sys xs)) (hyp xs) (hyp xs)
    simp only
    omega
  | some p => simp
theorem t_valid {xs : List Srv} (h : tE xs = 0) : hyF (zl (tP xs)) (zl (tC xs)) ≠ 0 := by
  unfold tE at h
  unfold tP tC
  cases ht : timF xs xs.length with
  | none =>
    have hv := vd_of ht
    simp only
    rw [tab_hyF (tab_runs hv)]
    have := hv.hyp1
    omega
  | some p =>
    rw [ht] at h
    exact (tim_ne ht h).elim

/-- a table in blocks from lo on, below hi -/
structure Tq (w : World) (lo hi : Nat) (a0 : Option Addr) (c0 : Nat) (a1 : Option Addr) (c1 : Nat) (P C : List (Nat × Nat)) : Prop where
  p : Sl w (fun k => lo ≤ k ∧ k < hi) a0 P.length c0 (zl P)
  c : Sl w (fun k => lo ≤ k ∧ k < hi) a1 C.length c1 (zl C)
theorem Tq.kept {w w' : World} {lo hi : Nat} {a0 a1 : Option Addr} {c0 c1 : Nat} {P C : List (Nat × Nat)} {G : Nat → Prop} (h : Tq w lo hi a0 c0 a1 c1 P C) (k : Kept G w w') (hd : ∀ b, lo ≤ b → b < hi → ¬ G b) : Tq w' lo hi a0 c0 a1 c1 P C :=
  ⟨h.p.kept k (fun b hb => hd b hb.1 hb.2), h.c.kept k (fun b hb => hd b hb.1 hb.2)⟩
theorem Tq.keep {w w' : World} {lo hi : Nat} {a0 a1 : Option Addr} {c0 c1 : Nat} {P C : List (Nat × Nat)} (h : Tq w lo hi a0 c0 a1 c1 P C) (k : Kept No w w') : Tq w' lo hi a0 c0 a1 c1 P C := h.kept k (fun _ _ _ h => h)
/-- and one that may be written -/
structure Wq (w : World) (lo hi : Nat) (a0 a1 : Option Addr) (n0 n1 : Nat) : Prop where
  p : ∃ f, Rs w a0 n0 f
  c : ∃ f, Rs w a1 n1 f
  b0 : ∀ k, Blk a0 k → lo ≤ k ∧ k < hi
  b1 : ∀ k, Blk a1 k → lo ≤ k ∧ k < hi
  dis : ∀ k, Blk a0 k → ¬ Blk a1 k
theorem Wq.keep {w w' : World} {lo hi : Nat} {a0 a1 : Option Addr} {n0 n1 : Nat} (h : Wq w lo hi a0 a1 n0 n1) (k : Kept No w w') : Wq w' lo hi a0 a1 n0 n1 := by
  obtain ⟨⟨f, hf⟩, ⟨g, hg⟩, h1, h2, h3⟩ := h
  exact ⟨⟨f, hf.kept k (fun _ _ h => h)⟩, ⟨g, hg.kept k (fun _ _ h => h)⟩, h1, h2, h3⟩

theorem sl_nil (w : World) (F : Nat → Prop) : Sl w F none 0 0 [] := ⟨rfl, Nat.le_refl _, by omega, fun _ => rfl, fun i x h => by simp at h⟩
theorem rs_nil (w : World) : Rs w none 0 (fun _ => (0, 0)) := ⟨fun _ => rfl, fun i h => by omega⟩
theorem Pt.tb {w : World} {lo g : Nat} {L : List (Nat × Nat)} {c : Nat} (h : Pt w lo g L) (h1 : L.length ≤ c) (h2 : c ≤ 9223372036854775807) : Sl w (fun k => lo ≤ k ∧ k < w.heap.size) (some ⟨g, 0, none⟩) L.length c (zl L) := by
  have s := h.sl.mono (G := fun k => lo ≤ k ∧ k < w.heap.size) (fun k e => by rw [e]; exact ⟨h.lo, h.hi⟩)
  exact ⟨s.len, h1, h2, fun e => (by cases e), s.at'⟩

theorem make_A {F : Nat → Prop} {a : Option Addr} {c : Nat} {xs : List Srv} (w : World) (hg : Gl w) (h : Sv w F a xs.length c xs) (hF : ∀ k, F k → k < w.heap.size) :
    Calls Tryz.prog 10 #[.slice a xs.length c] w fun e w' => ∃ a0 a1, e = .returned (.tuple #[.agg #[.slice a0 (tP xs).length (tP xs).length, .slice a1 (tC xs).length (tC xs).length], .int .i64 (tE xs)]) ∧ Tq w' w.heap.size w'.heap.size a0 (tP xs).length a1 (tC xs).length (tP xs) (tC xs) ∧ Wq w' w.heap.size w'.heap.size a0 a1 (tP xs).length (tC xs).length ∧ Kept No w w' := by
  unfold tP tC tE
  cases ht : timF xs xs.length with
  | none =>
    refine (make_yes w hg h hF ht).mono ?_
    rintro e w' ⟨g0, g1, rfl, p0, p1, hne, hk⟩
    have l0 := p0.tb (Nat.le_refl _) (by have := Rule.runsOf_le (Rule.occ (sys xs)) 0 (hyp xs); have := (vd_of ht).hyp2; omega)
    have l1 := p1.tb (Nat.le_refl _) (by have := Rule.runsOf_le (Rule.occ (sys xs)) (hyp xs) (hyp xs); have := (vd_of ht).hyp2; omega)
    refine ⟨_, _, rfl, ⟨l0, l1⟩, ⟨p0.rs, p1.rs, fun k e => ?_, fun k e => ?_, fun k e e' => ?_⟩, hk⟩
    · injection e with e; injection e with e _ _; subst e; exact ⟨p0.lo, p0.hi⟩
    · injection e with e; injection e with e _ _; subst e; exact ⟨p1.lo, p1.hi⟩
    · injection e with e; injection e with e _ _; subst e
      injection e' with e'; injection e' with e' _ _; exact hne e'.symm
  | some p =>
    refine (make_no w hg h ht).mono ?_
    rintro e w' ⟨rfl, hk⟩
    exact ⟨none, none, rfl, ⟨sl_nil _ _, sl_nil _ _⟩, ⟨⟨_, rs_nil _⟩, ⟨_, rs_nil _⟩, fun k e => (by cases e), fun k e => (by cases e), fun k e => (by cases e)⟩, hk⟩

theorem rmake_A {F : Nat → Prop} {a : Option Addr} {c : Nat} {xs : List Srv} (w : World) (h : Sv w F a xs.length c xs) (hF : ∀ k, F k → k < w.heap.size) :
    Calls Tryz.prog 23 #[.slice a xs.length c] w fun e w' => ∃ a0 c0 a1 c1, e = .returned (.tuple #[.agg #[.slice a0 (tP xs).length c0, .slice a1 (tC xs).length c1], .int .i64 (tE xs)]) ∧ Tq w' w.heap.size w'.heap.size a0 c0 a1 c1 (tP xs) (tC xs) ∧ Kept No w w' := by
  unfold tP tC tE
  cases ht : timF xs xs.length with
  | none =>
    refine (rmake_yes w h hF ht).mono ?_
    rintro e w' ⟨g0, c0, g1, c1, rfl, q0, q1, q2, q3, p0, p1, hk⟩
    exact ⟨_, c0, _, c1, rfl, ⟨p0.tb q0 q1, p1.tb q2 q3⟩, hk⟩
  | some p =>
    refine (rmake_no w h ht).mono ?_
    rintro e w' ⟨rfl, hk⟩
    exact ⟨none, 0, none, 0, rfl, ⟨sl_nil _ _, sl_nil _ _⟩, hk⟩
end Go.Proofs.YtdcfcgmmjobdcaaGreatDoor

namespace Go.Proofs.YtdcfcgmmjobdcaaGreatDoor
open Go.RowKit Plain
set_option linter.unusedVariables false
set_option linter.unusedSimpArgs false
set_option maxRecDepth 100000

theorem wpList_cps {w : World} {ops : Array Oper} {rest : List Oper} {o : Oper} {a : Act} {Q : Exit → Act → World → Prop} (hgd : o.guard = none) (s x : Operand)
    (ho : o.op = .call { callee := .builtin .append, args := #[s, x], argTypes := #[22, 22] }) (B : Nat) (v : Value) (hs : a.eval s = v) (hv : w.ownsRow B 46 4 v 0 []) (hB : B ≤ w.heap.size) (xa : Option Addr) (n c : Nat) (hx : a.eval x = .slice xa n c)
    (F : Nat → Prop) (xs : List Srv) (hz : Sv w F xa n c xs) (hn : n * 32 ≤ 140737488351232)
    (h : ∀ v1 w', Hid (w'.ownsRow B 46 4 v1 n (fl xs)) → Hid (Kept (fun k => v.ownBlock = some k) w w') → wpList Tryz.prog ops Q rest (a.put o.dst v1) w') : wpList Tryz.prog ops Q (o :: rest) a w := by
  obtain ⟨i0, hi, hz0, hz1, hz2⟩ := info_parts Tryz.infoS
  cases xa with
  | none =>
    have hc0 := hz.nil rfl
    have hn0 : n = 0 := by have := hz.cap; omega
    have hx0 : xs = [] := List.eq_nil_of_length_eq_zero (by rw [hz.len]; exact hn0)
    subst hc0 hn0 hx0
    refine wpList_append_own_none hgd s x 22 ho B 46 i0 4 Tryz.underlying22 hi _ _ _ hs hv hx ?_
    exact h v w hv (Kept.refl _ _)
  | some ad =>
    refine wpList_append_own _ hgd s x 22 ho B 46 i0 (.agg #[.int .i64 0, .int .i64 0, .int .i64 0, .int .i64 0]) 4 32 Tryz.underlying22 hi hz0 hz1 hz2 rfl (by decide) _ 0 [] hs hv ad n c (fl xs) hx (by rw [fl_len, hz.len]) hz.news (fl_one _) (by unfold maxLen; omega) (by omega) hB ?_
    intro v1 w1 own1 grow1 _
    rw [Nat.zero_add, List.nil_append] at own1
    exact h v1 w1 own1 ((Kept.refl (fun k => v.ownBlock = some k) w).grown grow1 (fun k e => .inl e))

theorem eqSv (w : World) (p b o q : Int) : (Op.equalIn 10000 46 (.agg #[.int .i64 p, .int .i64 b, .int .i64 o, .int .i64 q]) (.agg #[.int .i64 p, .int .i64 b, .int .i64 o, .int .i64 q])).run Tryz.prog w = .ok true w := by
  rw [show (10000 : Nat) = 9999 + 1 from rfl, run_equalIn_struct w 9999 _ _ _ (by kernel_rfl) (by kernel_rfl)]
  simp [go_sem, Tryz.underlying46]

/-- a server whose budget is halved -/
def half (x : Srv) : Srv := ⟨x.p, x.b.tdiv 2 + 1, x.o, x.q⟩
theorem half_ok {x : Srv} (h : x.ok) : (half x).ok := by
  obtain ⟨h1, h2, h3, h4⟩ := h
  refine ⟨h1, ?_, h3, h4⟩
  unfold I6 at *
  show _ ≤ x.b.tdiv 2 + 1 ∧ x.b.tdiv 2 + 1 ≤ _
  rcases Int.le_total 0 x.b with e | e
  · rw [Int.tdiv_eq_ediv_of_nonneg e]
    omega
  · have e1 : x.b.tdiv 2 = -((-x.b).tdiv 2) := by rw [Int.neg_tdiv, Int.neg_neg]
    rw [e1, Int.tdiv_eq_ediv_of_nonneg (by omega)]
    omega
/-- one budget written -/
theorem Mf.bud {w : World} {g N : Nat} {f : Nat → Srv} (h : Mf w g N f) (k : Nat) (y : Int) : Mf (w.setCell ⟨g, k * 4 + 1, none⟩ (.int .i64 y)) g N (fun i => if i = k then ⟨(f i).p, y, (f i).o, (f i).q⟩ else f i) := by
  intro i hi
  obtain ⟨c0, c1, c2, c3⟩ := h i hi
  by_cases e : i = k
  · subst e
    simp only [if_true]
    refine ⟨?_, ?_, ?_, ?_⟩
    · rw [cell_set c0, if_neg (by omega)]
    · rw [cell_set c1, if_pos rfl]
    · rw [cell_set c2, if_neg (by omega)]
    · rw [cell_set c3, if_neg (by omega)]
  · simp only [if_neg e]
    refine ⟨?_, ?_, ?_, ?_⟩
    · rw [cell_set c0, if_neg (by omega)]
    · rw [cell_set c1, if_neg (by omega)]
    · rw [cell_set c2, if_neg (by omega)]
    · rw [cell_set c3, if_neg (by omega)]
theorem Fz.set {w : World} {g : Nat} (h : Fz w g) (p : Addr) (v : Value) : Fz (w.setCell p v) g := fun i => by rw [World.frozen?_setCell]; exact h i
theorem Fz.kept {w w' : World} {g : Nat} {G : Nat → Prop} (h : Fz w g) (k : Kept G w w') (hg : ¬ G g) (hl : g < w.heap.size) : Fz w' g := fun i => by
  have := h i
  obtain ⟨o, ho⟩ : ∃ o, w.heap[g]? = some o := ⟨_, Array.getElem?_eq_getElem hl⟩
  have e := k.at' ho hg
  simp only [World.frozen?, ho] at this
  simp only [World.frozen?, e]
  exact this
theorem Mf.ext {w : World} {g N : Nat} {f f' : Nat → Srv} (h : Mf w g N f) (e : ∀ i, i < N → f i = f' i) : Mf w g N f' := fun i hi => by rw [← e i hi]; exact h i hi
theorem Mf.svx {w : World} {g N : Nat} {f : Nat → Srv} {xs : List Srv} (h : Mf w g N f) (c : Nat) (hn : xs.length ≤ N) (hc : xs.length ≤ c) (hm : c ≤ 9223372036854775807) (hx : ∀ i, i < xs.length → f i = gs xs i) (hok : ∀ i, i < xs.length → (gs xs i).ok) : Sv w (fun b => b = g) (some ⟨g, 0, none⟩) xs.length c xs := by
  have s := h.sv xs.length c hn hc hm (fun i hi => by rw [hx i hi]; exact hok i hi)
  have e : (List.range xs.length).map f = xs := by
    apply List.ext_getElem?
    intro i
    by_cases hi : i < xs.length
    · rw [List.getElem?_map, List.getElem?_range hi, List.getElem?_eq_getElem hi]
      show some (f i) = _
      rw [hx i hi]
      unfold gs
      simp [hi]
    · rw [List.getElem?_eq_none (by simp; omega), List.getElem?_eq_none (by omega)]
  rw [e] at s
  exact s
def mk7 : Srv := ⟨-7, 0, 0, 0⟩
def mine0 (xs : List Srv) (i : Nat) : Srv := (xs ++ [mk7]).getD i ⟨0, 0, 0, 0⟩
theorem mine0_lt {xs : List Srv} {i : Nat} (h : i < xs.length) : mine0 xs i = gs xs i := by
  unfold mine0 gs
  simp [List.getD_eq_getElem?_getD, List.getElem?_append_left h]
theorem mine0_n (xs : List Srv) : mine0 xs xs.length = mk7 := by
  unfold mine0
  simp [List.getD_eq_getElem?_getD]

/-- what stands behind both Makes -/
structure Sm (w W : World) (n : Nat) (f : Nat → Srv) (g lo T U : Nat) (a0 a1 b0 : Option Addr) (c0 : Nat) (b1 : Option Addr) (c1 : Nat) (P C : List (Nat × Nat)) : Prop where
  k : Kept No w W
  t : W.heap[T]? = some (.cells #[.slice a0 P.length P.length, .slice a1 C.length C.length] 29)
  u : W.heap[U]? = some (.cells #[.slice b0 P.length c0, .slice b1 C.length c1] 29)
  ta : Tq W lo T a0 P.length a1 C.length P C
  wa : Wq W lo T a0 a1 P.length C.length
  tb : Tq W (T + 1) U b0 c0 b1 c1 P C
  m : Mf W g (n + 1) f
  z : Fz W g
  gl : w.heap.size ≤ g
  gh : g < lo
  lt : lo ≤ T
  tu : T < U
  uh : U < W.heap.size
theorem Sm.keep {w W W' : World} {n : Nat} {f : Nat → Srv} {g lo T U : Nat} {a0 a1 b0 : Option Addr} {c0 : Nat} {b1 : Option Addr} {c1 : Nat} {P C : List (Nat × Nat)} (h : Sm w W n f g lo T U a0 a1 b0 c0 b1 c1 P C) (k : Kept No W W') : Sm w W' n f g lo T U a0 a1 b0 c0 b1 c1 P C :=
  ⟨h.k.trans k (fun _ h => h.elim), k.at' h.t (fun h => h), k.at' h.u (fun h => h), h.ta.keep k, h.wa.keep k, h.tb.keep k, h.m.kept k (fun h => h), h.z.kept k (fun h => h) (by have := h.gh; have := h.lt; have := h.tu; have := h.uh; omega), h.gl, h.gh, h.lt, h.tu, Nat.lt_of_lt_of_le h.uh k.size⟩
/-- what stands behind the third -/
structure Sk (w W : World) (n : Nat) (f : Nat → Srv) (g T U kl K : Nat) (X Y : Value) (b0 : Option Addr) (c0 : Nat) (b1 : Option Addr) (c1 : Nat) (h0 h1 : Option Addr) (P C : List (Nat × Nat)) : Prop where
  k : Kept No w W
  t : W.heap[T]? = some (.cells #[X, Y] 29)
  u : W.heap[U]? = some (.cells #[.slice b0 P.length c0, .slice b1 C.length c1] 29)
  q : W.heap[K]? = some (.cells #[.slice h0 P.length P.length, .slice h1 C.length C.length] 29)
  tb : Tq W (T + 1) U b0 c0 b1 c1 P C
  tk : Tq W kl K h0 P.length h1 C.length P C
  m : Mf W g (n + 1) f
  z : Fz W g
  gl : w.heap.size ≤ g
  gh : g < T
  tu : T < U
  ul : U < kl
  lk : kl ≤ K
  uh : K < W.heap.size
/-- g's own cells aside -/
theorem Sk.kept {w W W' : World} {n : Nat} {f f' : Nat → Srv} {g T U kl K : Nat} {X Y : Value} {b0 : Option Addr} {c0 : Nat} {b1 : Option Addr} {c1 : Nat} {h0 h1 : Option Addr} {P C : List (Nat × Nat)} (h : Sk w W n f g T U kl K X Y b0 c0 b1 c1 h0 h1 P C) (k : Kept (fun b => b = g) W W') (m : Mf W' g (n + 1) f') (z : Fz W' g) : Sk w W' n f' g T U kl K X Y b0 c0 b1 c1 h0 h1 P C := by
  have := h.gh; have := h.tu; have := h.ul; have := h.lk; have := h.gl
  exact ⟨h.k.trans k (fun b e => .inr (by omega)), k.at' h.t (fun e => by omega), k.at' h.u (fun e => by omega), k.at' h.q (fun e => by omega), h.tb.kept k (fun b h1 h2 e => by omega), h.tk.kept k (fun b h1 h2 e => by omega), m, z, h.gl, h.gh, h.tu, h.ul, h.lk, Nat.lt_of_lt_of_le h.uh k.size⟩
theorem Sk.keep {w W W' : World} {n : Nat} {f : Nat → Srv} {g T U kl K : Nat} {X Y : Value} {b0 : Option Addr} {c0 : Nat} {b1 : Option Addr} {c1 : Nat} {h0 h1 : Option Addr} {P C : List (Nat × Nat)} (h : Sk w W n f g T U kl K X Y b0 c0 b1 c1 h0 h1 P C) (k : Kept No W W') : Sk w W' n f g T U kl K X Y b0 c0 b1 c1 h0 h1 P C :=
  h.kept (k.mono (fun _ h => h.elim)) (h.m.kept k (fun h => h)) (h.z.kept k (fun h => h) (by have := h.gh; have := h.tu; have := h.ul; have := h.lk; have := h.uh; omega))
def hvL (xs : List Srv) (k : Nat) : List Srv := (List.range k).map (fun i => half (gs xs i))
theorem hvL_len (xs : List Srv) (k : Nat) : (hvL xs k).length = k := by simp [hvL]
theorem hvL_succ (xs : List Srv) (k : Nat) : hvL xs (k + 1) = hvL xs k ++ [half (gs xs k)] := by simp [hvL, List.range_succ]
theorem hvL_gs (xs : List Srv) {k i : Nat} (h : i < k) : gs (hvL xs k) i = half (gs xs i) := by
  unfold gs hvL
  rw [List.getD_eq_getElem?_getD, List.getElem?_map, List.getElem?_range h]
  rfl
theorem tab_fz {w : World} {T : Nat} {X Y : Value} {t : TypeId} (h : w.heap[T]? = some (.cells #[X, Y] t)) : ∀ k, w.frozen? ⟨T, k, none⟩ = false := fun k => by simp [World.frozen?, h]
def mineK (xs : List Srv) (k i : Nat) : Srv := if i < k then half (gs xs i) else mine0 xs i
theorem mineK_0 (xs : List Srv) : mineK xs 0 = mine0 xs := by
  funext i
  unfold mineK
  rw [if_neg (Nat.not_lt_zero i)]
theorem mineK_at {xs : List Srv} {k : Nat} (h : k < xs.length) : mineK xs k k = gs xs k := by
  unfold mineK
  rw [if_neg (Nat.lt_irrefl k), mine0_lt h]
theorem mineK_lt {xs : List Srv} {k i : Nat} (h : i < k) : mineK xs k i = half (gs xs i) := by
  unfold mineK
  rw [if_pos h]
theorem mineK_succ {xs : List Srv} {k : Nat} (h : k < xs.length) (i : Nat) : (if i = k then ⟨(mineK xs k i).p, (gs xs k).b.tdiv 2 + 1, (mineK xs k i).o, (mineK xs k i).q⟩ else mineK xs k i) = mineK xs (k + 1) i := by
  by_cases e : i = k
  · subst e
    rw [if_pos rfl, mineK_at h, mineK_lt (Nat.lt_succ_self i)]
    rfl
  · rw [if_neg e]
    unfold mineK
    by_cases e2 : i < k
    · rw [if_pos e2, if_pos (by omega)]
    · rw [if_neg e2, if_neg (by omega)]
theorem tdiv_bd {x : Int} (h : I6 x) : -4611686018427387904 ≤ x.tdiv 2 ∧ x.tdiv 2 ≤ 4611686018427387904 := by
  unfold I6 at h
  rcases Int.le_total 0 x with e | e
  · rw [Int.tdiv_eq_ediv_of_nonneg e]
    omega
  · have e1 : x.tdiv 2 = -((-x).tdiv 2) := by rw [Int.neg_tdiv, Int.neg_neg]
    rw [e1, Int.tdiv_eq_ediv_of_nonneg (by omega)]
    omega
theorem tdiv_wrap {x : Int} (h : I6 x) : wrap64 (wrap64 (x.tdiv 2) + 1) = x.tdiv 2 + 1 := by
  have := tdiv_bd h
  unfold wrap64
  omega
theorem Sk.far {w W W' : World} {n : Nat} {f : Nat → Srv} {g T U kl K : Nat} {X Y : Value} {b0 : Option Addr} {c0 : Nat} {b1 : Option Addr} {c1 : Nat} {h0 h1 : Option Addr} {P C : List (Nat × Nat)} {G : Nat → Prop} (h : Sk w W n f g T U kl K X Y b0 c0 b1 c1 h0 h1 P C) (k : Kept G W W') (hG : ∀ b, G b → K < b) : Sk w W' n f g T U kl K X Y b0 c0 b1 c1 h0 h1 P C := by
  have := h.gh; have := h.tu; have := h.ul; have := h.lk; have := h.gl; have := h.uh
  exact ⟨h.k.trans k (fun b e => .inr (by have := hG b e; omega)), k.at' h.t (fun e => by have := hG _ e; omega), k.at' h.u (fun e => by have := hG _ e; omega), k.at' h.q (fun e => by have := hG _ e; omega), h.tb.kept k (fun b h1 h2 e => by have := hG _ e; omega), h.tk.kept k (fun b h1 h2 e => by have := hG _ e; omega), h.m.kept k (fun e => by have := hG _ e; omega), h.z.kept k (fun e => by have := hG _ e; omega) (by omega), h.gl, h.gh, h.tu, h.ul, h.lk, Nat.lt_of_lt_of_le h.uh k.size⟩
theorem put_k (W : World) (T : Nat) (X Y : Value) : Kept (fun b => b = T) W ((W.setCell ⟨T, 0, none⟩ X).setCell ⟨T, 1, none⟩ Y) := Kept.setCell (F := fun k => k = T) (p := ⟨T, 1, none⟩) (Kept.setCell (F := fun k => k = T) (p := ⟨T, 0, none⟩) (Kept.refl _ W) (.inl rfl) _) (.inl rfl) _
theorem Sk.put {w W : World} {n : Nat} {f : Nat → Srv} {g T U kl K : Nat} {X Y : Value} {b0 : Option Addr} {c0 : Nat} {b1 : Option Addr} {c1 : Nat} {h0 h1 : Option Addr} {P C : List (Nat × Nat)} (h : Sk w W n f g T U kl K X Y b0 c0 b1 c1 h0 h1 P C) (X' Y' : Value) : Sk w ((W.setCell ⟨T, 0, none⟩ X').setCell ⟨T, 1, none⟩ Y') n f g T U kl K X' Y' b0 c0 b1 c1 h0 h1 P C := by
  have := h.gh; have := h.tu; have := h.ul; have := h.lk; have := h.gl; have := h.uh
  have k := put_k W T X' Y'
  exact ⟨h.k.trans k (fun b e => .inr (by omega)), set2T h.t _ _, k.at' h.u (fun e => by omega), k.at' h.q (fun e => by omega), h.tb.kept k (fun b h1 h2 e => by omega), h.tk.kept k (fun b h1 h2 e => by omega), h.m.kept k (fun e => by omega), h.z.kept k (fun e => by omega) (by omega), h.gl, h.gh, h.tu, h.ul, h.lk, Nat.lt_of_lt_of_le h.uh k.size⟩
end Go.Proofs.YtdcfcgmmjobdcaaGreatDoor

namespace Go.Proofs.YtdcfcgmmjobdcaaGreatDoor
open Go.RowKit Plain
set_option linter.unusedVariables false
set_option linter.unusedSimpArgs false
set_option maxRecDepth 100000

set_option maxHeartbeats 4000000 in
theorem smake_law {F : Nat → Prop} {a : Option Addr} {c : Nat} {xs : List Srv} (w : World) (hg : Gl w) (h : Sv w F a xs.length c xs) (hF : ∀ k, F k → k < w.heap.size) (hsz : xs.length * 32 ≤ 140737488351232) :
    Calls Tryz.prog 5 #[.slice a xs.length c] w fun e w' => e = .returned (.bool true) ∧ Below w.heap.size w w' := by
  obtain ⟨i0, hi0, hz0, hz1, hz2⟩ := info_parts Tryz.infoS
  have HS : Hid (Gl w ∧ Sv w F a xs.length c xs ∧ (∀ k, F k → k < w.heap.size)) := ⟨hg, h, hF⟩
  have hcap := h.cap
  have hmax := h.max
  have k0 : Kept No w (w.alloc (.cells #[] 46)) := (Kept.refl No w).alloc _
  have HS0 : Hid (Sv (w.alloc (.cells #[] 46)) F a xs.length c xs) := h.keep k0
  have HK0 : Hid (Kept No w (w.alloc (.cells #[] 46))) := k0
  clear h hg hF k0
  go_enter Tryz.func5, Tryz.ntmps5
  go_upto_region 2 with (first
    | (at_builtin; refine wpList_cps rfl _ _ rfl w.heap.size _ rfl (made0 w) (by rw [World.size_alloc]; omega) a xs.length c rfl F xs HS0.out (by omega) ?_; intro v1 w2 OW2 KW2)
    | (at_builtin; refine wpList_append_own_at _ rfl _ _ 22 rfl w.heap.size 46 i0 (.agg #[.int .i64 0, .int .i64 0, .int .i64 0, .int .i64 0]) 4 32 Tryz.underlying22 hi0 hz0 hz1 hz2 rfl (by decide) _ _ _ rfl (OW2.out.alloc _) ⟨w2.heap.size, 0, none⟩ 1 1 (fl [mk7]) rfl rfl (cell_four w2 mk7 _) (fl_one _) (by unfold maxLen; omega) (by omega) (by have := HK0.out.size; have := KW2.out.size; simp; omega) ?_; intro v9 w10 own10 grow10 _ at10))
  have K2 : Kept No w w2 := HK0.out.trans KW2.out (fun k e => by
    have e' : some w.heap.size = some k := e
    injection e' with e'
    exact .inr (by omega))
  have K10 : Kept No w w10 := (K2.alloc _).grown grow10 (fun k e => .inr (OW2.out.lt k e).1)
  have hxl : (xs ++ [mk7]).length = xs.length + 1 := by simp
  rw [← fl_app] at own10
  obtain ⟨g, cap, rfl, hgl, hgh, hgc, hgm, hmf, hfz⟩ : ∃ g cap, v9 = .slice (some ⟨g, 0, none⟩) (xs.length + 1) cap ∧ w.heap.size ≤ g ∧ g < w10.heap.size ∧ xs.length + 1 ≤ cap ∧ cap ≤ 9223372036854775807 ∧ Mf w10 g (xs.length + 1) (mine0 xs) ∧ Fz w10 g := by
    rcases own_mf own10 hxl with ⟨_, h0⟩ | r
    · omega
    · exact r
  have hok : ∀ i, i < xs.length → (gs xs i).ok := fun i hi => HS.out.2.1.ok i hi
  have hSv : Sv w10 (fun b => b = g) (some ⟨g, 0, none⟩) xs.length cap xs := hmf.svx cap (by omega) (by omega) hgm (fun i hi => mine0_lt hi) hok
  have m1 := make_A w10 (HS.out.1.kept K10) hSv (fun k e => by omega)
  have H10 : Hid (Kept No w w10 ∧ w.heap.size ≤ g ∧ g < w10.heap.size ∧ Mf w10 g (xs.length + 1) (mine0 xs) ∧ Fz w10 g) := ⟨K10, hgl, hgh, hmf, hfz⟩
  clear K2 K10 own10 grow10 at10 hmf hfz hSv OW2 KW2 HK0 HS0 hgl hgh
  have hp1 := tP_le xs
  have hc1 := tC_le xs
  have HP : Hid (∃ P' C' E', tP xs = P' ∧ tC xs = C' ∧ tE xs = E') := ⟨_, _, _, rfl, rfl, rfl⟩
  obtain ⟨P, C, E, eP, eC, eE⟩ := HP.out
  clear HP
  have HP : Hid (tP xs = P ∧ tC xs = C ∧ tE xs = E) := ⟨eP, eC, eE⟩
  rw [eP] at hp1
  rw [eC] at hc1
  rw [eP, eC, eE] at m1
  have HV : Hid (E = 0 → hyF (zl P) (zl C) ≠ 0) := fun e => by rw [← eP, ← eC]; exact t_valid (by rw [eE]; exact e)
  clear eP eC eE
  have hcz : ((xs.length : Nat) : Int) ≤ (cap : Int) := by omega
  go_upto_region 3 with (go_at_call 10; refine m1.mono ?_; rintro e w11 ⟨a0, a1, rfl, t11, b11, k11⟩; have H11 : Hid (Tq w11 w10.heap.size w11.heap.size a0 P.length a1 C.length P C ∧ Wq w11 w10.heap.size w11.heap.size a0 a1 P.length C.length ∧ Kept No w10 w11) := ⟨t11, b11, k11⟩; clear t11 b11 k11 m1)
  have r1 := rmake_A (w11.alloc (.cells #[.slice a0 P.length P.length, .slice a1 C.length C.length] 29)) ((HS.out.2.1.keep H10.out.1).keep (H11.out.2.2.alloc _)) (fun k e => by have := HS.out.2.2 k e; have := H10.out.1.size; have := H11.out.2.2.size; rw [World.size_alloc]; omega)
  rw [HP.out.1, HP.out.2.1, HP.out.2.2] at r1
  go_upto_region 4 with (go_at_call 23; refine r1.mono ?_; rintro e w12 ⟨b0, c0, b1, c1, rfl, t12, k12⟩; have H12 : Hid (Tq w12 (w11.heap.size + 1) w12.heap.size b0 c0 b1 c1 P C ∧ Kept No (w11.alloc (.cells #[.slice a0 P.length P.length, .slice a1 C.length C.length] 29)) w12) := ⟨(by rw [World.size_alloc] at t12; exact t12), k12⟩; clear t12 k12 r1)
  have HM : Hid (Sm w (w12.alloc (.cells #[.slice b0 P.length c0, .slice b1 C.length c1] 29)) xs.length (mine0 xs) g w10.heap.size w11.heap.size w12.heap.size a0 a1 b0 c0 b1 c1 P C) := by
    have kA : Kept No w11 (w12.alloc (.cells #[.slice b0 P.length c0, .slice b1 C.length c1] 29)) := (((Kept.refl No w11).alloc _).trans H12.out.2 (fun _ h => h.elim)).alloc _
    have kB := H11.out.2.2.trans kA (fun _ h => h.elim)
    have kC : Kept No (w11.alloc (.cells #[.slice a0 P.length P.length, .slice a1 C.length C.length] 29)) (w12.alloc (.cells #[.slice b0 P.length c0, .slice b1 C.length c1] 29)) := H12.out.2.alloc _
    have z1 := H12.out.2.size
    rw [World.size_alloc] at z1
    exact ⟨H10.out.1.trans kB (fun _ h => h.elim), kC.at' (World.alloc_heap_new _ _) (fun h => h), World.alloc_heap_new _ _, H11.out.1.keep kA, H11.out.2.1.keep kA, H12.out.1.keep ((Kept.refl No w12).alloc _), H10.out.2.2.2.1.kept kB (fun h => h), H10.out.2.2.2.2.kept kB (fun h => h) H10.out.2.2.1, H10.out.2.1, H10.out.2.2.1, H11.out.2.2.size, by omega, by rw [World.size_alloc]; omega⟩
  clear H10 H11 H12
  generalize (w12.alloc (.cells #[.slice b0 P.length c0, .slice b1 C.length c1] 29)) = w13 at *
  generalize w11.heap.size = T at *
  generalize w12.heap.size = U at *
  generalize w10.heap.size = lo at *
  have HN : Hid (∀ W, Kept No w13 W → Calls Tryz.prog 24 #[.agg #[.slice a0 P.length P.length, .slice a1 C.length C.length], .agg #[.slice b0 P.length c0, .slice b1 C.length c1]] W fun e w' => e = .returned (.bool true) ∧ Kept No w13 w') := fun W k => (sameT_yes W (HM.out.ta.p.keep k) (HM.out.tb.p.keep k) (HM.out.ta.c.keep k) (HM.out.tb.c.keep k)).mono (fun _ w' ⟨e, k'⟩ => ⟨e, k.trans k' (fun _ h => h.elim)⟩)
  obtain ⟨d0, d1⟩ := bx2 HM.out.t
  obtain ⟨d2, d3⟩ := bx2 HM.out.u
  have s1 := HN.out w13 (Kept.refl _ _)
  have HQ : Hid (∀ W, Kept No w13 W → Calls Tryz.prog 11 #[] W fun e w' => e = .returned (.bool true) ∧ Kept No w13 w') := fun W k => (lives_any W (HS.out.1.kept (HM.out.k.trans k (fun _ h => h.elim)))).mono (fun _ w' ⟨e, k'⟩ => ⟨e, k.trans k' (fun _ h => h.elim)⟩)
  have HC : Hid (w13.cell? ⟨g, xs.length * 4, none⟩ = some (.int .i64 (-7))) := by
    have := (HM.out.m xs.length (by omega)).1
    rw [mine0_n] at this
    exact this
  go_upto_region 6 with (first
    | (go_at_call 24; refine s1.mono ?_; rintro e w14 ⟨rfl, k14⟩; have c7 := k14.cell HC.out (fun h => h); have l1 := HQ.out w14 k14; clear s1 d0 d1 d2 d3)
    | (go_at_call 11; refine l1.mono ?_; rintro e w15 ⟨rfl, k15⟩; clear l1 c7))
  have HM5 : Hid (Sm w w15 xs.length (mine0 xs) g lo T U a0 a1 b0 c0 b1 c1 P C) := HM.out.keep k15
  clear k14 k15 HM HC HQ HN
  go_wp2
  go_loopw [8] (fun x wr => ∃ k : Nat, x = .int .i64 k ∧ k ≤ xs.length ∧ Kept No w15 wr) (fun x _ => xs.length - (intOf x).toNat)
  case atStart => exact ⟨0, rfl, Nat.zero_le _, Kept.refl _ _⟩
  case round =>
    obtain ⟨k, rfl, hk, hkr⟩ := hrel
    by_cases hlt : k < xs.length
    · have hltz : (k : Int) < (xs.length : Int) := by omega
      have hltz1 : (k : Int) < (xs.length : Int) + 1 := by omega
      obtain ⟨e0, e1, e2, e3⟩ := HM5.out.m k (by omega)
      rw [mine0_lt hlt] at e0 e1 e2 e3
      obtain ⟨_, b, o, rfl, _, x0, x1, x2, x3⟩ := (HS.out.2.1.keep (HM5.out.k)).at' k (gs xs k) (by unfold gs; simp [hlt])
      generalize (gs xs k).p = yp at *
      generalize (gs xs k).b = yb at *
      generalize (gs xs k).o = yo at *
      generalize (gs xs k).q = yq at *
      have e0' := hkr.cell e0 (fun h => h)
      have e1' := hkr.cell e1 (fun h => h)
      have e2' := hkr.cell e2 (fun h => h)
      have e3' := hkr.cell e3 (fun h => h)
      have x0' := hkr.cell x0 (fun h => h)
      have x1' := hkr.cell x1 (fun h => h)
      have x2' := hkr.cell x2 (fun h => h)
      have x3' := hkr.cell x3 (fun h => h)
      clear e0 e1 e2 e3 x0 x1 x2 x3
      have HK : Hid (Kept No w15 wr) := hkr
      clear hkr
      have hq1 := eqSv
      go_upto_region 9 with fail
      go_quiet (fail)
      clear e0' e1' e2' e3' x0' x1' x2' x3'
      go_wp2
      go_roundw
      case rel => exact ⟨k + 1, by go_num, by omega, HK.out.drewN _⟩
      case measure => simp [intOf]; omega
    · have hltz : ¬ (k : Int) < (xs.length : Int) := by omega
      have HM6 : Hid (Sm w wr xs.length (mine0 xs) g lo T U a0 a1 b0 c0 b1 c1 P C) := HM5.out.keep hkr
      clear hk hkr HM5 hlt
      go_upto_region 11 with fail
      clear hltz
      generalize wr = w16 at *
      obtain ⟨d0, d1⟩ := bx2 HM6.out.t
      have hva := valid_any w16 HM6.out.ta.p (fun k e => by have := HM6.out.tu; have := HM6.out.uh; omega) HM6.out.ta.c (fun k e => by have := HM6.out.tu; have := HM6.out.uh; omega)
      go_cut [77] from 71 to 77 (fun v wx => v = .bool false ∧ Kept No w16 wx)
      case first =>
        by_cases hE : E = 0
        · subst hE
          rw [if_neg (HV.out rfl)] at hva
          go_wp2_with (go_at_call 16; refine hva.mono ?_; rintro e w17 ⟨rfl, k17⟩; have K17 : Hid (Kept No w16 w17) := k17; clear k17 hva d0 d1)
          go_meet
          exact ⟨rfl, K17.out⟩
        · have hEb : (E == 0) = false := by simp [hE]
          clear hva
          go_wp2_with fail
          go_meet
          exact ⟨rfl, Kept.refl _ _⟩
      case rest =>
        obtain ⟨rfl, hkc⟩ := hcut
        have HM7 : Hid (Sm w wc xs.length (mine0 xs) g lo T U a0 a1 b0 c0 b1 c1 P C) := HM6.out.keep hkc
        clear HM6 hkc hva d0 d1
        have hSv : Sv wc (fun b => b = g) (some ⟨g, 0, none⟩) xs.length cap xs := HM7.out.m.svx cap (by omega) (by omega) hgm (fun i hi => mine0_lt hi) hok
        have m1 := make_A wc (HS.out.1.kept HM7.out.k) hSv (fun k e => by have := HM7.out.gh; have := HM7.out.lt; have := HM7.out.tu; have := HM7.out.uh; omega)
        rw [HP.out.1, HP.out.2.1, HP.out.2.2] at m1
        clear hSv
        go_upto_region 14 with (go_at_call 10; refine m1.mono ?_; rintro e w18 ⟨h0, h1, rfl, t18, b18, k18⟩; have H18 : Hid (Tq w18 wc.heap.size w18.heap.size h0 P.length h1 C.length P C ∧ Kept No wc w18) := ⟨t18, k18⟩; clear t18 b18 k18 m1)
        have HA : Hid (Sm w (w18.alloc (.cells #[.slice h0 P.length P.length, .slice h1 C.length C.length] 29)) xs.length (mine0 xs) g lo T U a0 a1 b0 c0 b1 c1 P C ∧ (w18.alloc (.cells #[.slice h0 P.length P.length, .slice h1 C.length C.length] 29)).heap[w18.heap.size]? = some (.cells #[.slice h0 P.length P.length, .slice h1 C.length C.length] 29) ∧ Tq (w18.alloc (.cells #[.slice h0 P.length P.length, .slice h1 C.length C.length] 29)) wc.heap.size w18.heap.size h0 P.length h1 C.length P C ∧ U < wc.heap.size ∧ wc.heap.size ≤ w18.heap.size ∧ w18.heap.size < (w18.alloc (.cells #[.slice h0 P.length P.length, .slice h1 C.length C.length] 29)).heap.size) :=
          ⟨HM7.out.keep (H18.out.2.alloc _), World.alloc_heap_new _ _, H18.out.1.keep ((Kept.refl No w18).alloc _), HM7.out.uh, H18.out.2.size, by rw [World.size_alloc]; omega⟩
        clear H18 HM7
        generalize (w18.alloc (.cells #[.slice h0 P.length P.length, .slice h1 C.length C.length] 29)) = w19 at *
        generalize w18.heap.size = K at *
        generalize wc.heap.size = kl at *
        obtain ⟨d0, d1⟩ := bx2 HA.out.1.t
        have ap : Calls Tryz.prog 25 #[.agg #[.slice a0 P.length P.length, .slice a1 C.length C.length]] w19 fun e w' => e = .returned (.bool true) ∧ Sk w w' xs.length (mine0 xs) g T U kl K (.slice a0 P.length P.length) (.slice a1 C.length C.length) b0 c0 b1 c1 h0 h1 P C := by
          obtain ⟨⟨f0, q0⟩, ⟨f1, q1⟩, q2, q3, q4⟩ := HA.out.1.wa
          have z1 := HA.out.1.gh; have z2 := HA.out.1.lt; have z3 := HA.out.1.tu; have z4 := HA.out.1.uh; have z5 := HA.out.1.gl
          have z6 := HA.out.2.2.2
          refine (apart_yes w19 q0 q1 q4 (fun k e => by have := q2 k e; omega) (fun k e => by have := q3 k e; omega) hp1 hc1).mono ?_
          rintro e w' ⟨rfl, k'⟩
          have far : ∀ b, (b < lo ∨ T ≤ b) → ¬ (Blk a0 b ∨ Blk a1 b) := fun b hb e => by
            rcases e with e | e
            · have := q2 b e; omega
            · have := q3 b e; omega
          refine ⟨rfl, ⟨HA.out.1.k.trans k' (fun b e => .inr ?_), k'.at' HA.out.1.t (far _ (by omega)), k'.at' HA.out.1.u (far _ (by omega)), k'.at' HA.out.2.1 (far _ (by omega)), HA.out.1.tb.kept k' (fun b _ _ => far _ (by omega)), HA.out.2.2.1.kept k' (fun b _ _ => far _ (by omega)), HA.out.1.m.kept k' (far _ (by omega)), HA.out.1.z.kept k' (far _ (by omega)) (by omega), z5, by omega, z3, z6.1, z6.2.1, Nat.lt_of_lt_of_le z6.2.2 k'.size⟩⟩
          rcases e with e | e
          · have := q2 b e; omega
          · have := q3 b e; omega
        clear HA
        go_upto_region 16 with (first
          | (go_at_call 25; refine ap.mono ?_; rintro e w20 ⟨rfl, s20⟩; clear ap d0 d1; obtain ⟨d0, d1⟩ := bx2 s20.q; obtain ⟨d2, d3⟩ := bx2 s20.u; have sm := sameT_yes w20 s20.tk.p s20.tb.p s20.tk.c s20.tb.c; have H20 : Hid (Sk w w20 xs.length (mine0 xs) g T U kl K (.slice a0 P.length P.length) (.slice a1 C.length C.length) b0 c0 b1 c1 h0 h1 P C) := s20; clear s20)
          | (go_at_call 24; refine sm.mono ?_; rintro e w21 ⟨rfl, k21⟩; have H21 : Hid (Sk w w21 xs.length (mine0 xs) g T U kl K (.slice a0 P.length P.length) (.slice a1 C.length C.length) b0 c0 b1 c1 h0 h1 P C) := H20.out.keep k21; clear k21 sm d0 d1 d2 d3 H20))
        go_wp2
        go_loopw [11, 12] (fun v x wr => ∃ k : Nat, x = .int .i64 k ∧ k ≤ xs.length ∧ wr.ownsRow w21.heap.size 46 4 v k (fl (hvL xs k)) ∧ Sk w wr xs.length (mineK xs k) g T U kl K (.slice a0 P.length P.length) (.slice a1 C.length C.length) b0 c0 b1 c1 h0 h1 P C ∧ w21.heap.size ≤ wr.heap.size) (fun _ x _ => xs.length - (intOf x).toNat)
        case atStart => exact ⟨0, rfl, Nat.zero_le _, World.ownsRow_nil _ _ _ _, (by rw [mineK_0]; exact H21.out), Nat.le_refl _⟩
        case round =>
          obtain ⟨k, rfl, hk, hown, hsk, hge⟩ := hrel
          have HR : Hid (wr.ownsRow w21.heap.size 46 4 u11 k (fl (hvL xs k)) ∧ Sk w wr xs.length (mineK xs k) g T U kl K (.slice a0 P.length P.length) (.slice a1 C.length C.length) b0 c0 b1 c1 h0 h1 P C ∧ w21.heap.size ≤ wr.heap.size) := ⟨hown, hsk, hge⟩
          clear hown hsk hge
          by_cases hlt : k < xs.length
          · have hltz : (k : Int) < (xs.length : Int) := by omega
            have hltz1 : (k : Int) < (xs.length : Int) + 1 := by omega
            obtain ⟨e0, e1, e2, e3⟩ := HR.out.2.1.m k (by omega)
            rw [mineK_at hlt] at e0 e1 e2 e3
            have hfz := HR.out.2.1.z (k * 4 + 1)
            have HW : Hid (wrap64 (wrap64 ((gs xs k).b.tdiv 2) + 1) = (gs xs k).b.tdiv 2 + 1) := tdiv_wrap (hok k hlt).2.1
            have HX : Hid (Sk w (wr.setCell ⟨g, k * 4 + 1, none⟩ (.int .i64 ((gs xs k).b.tdiv 2 + 1))) xs.length (mineK xs (k + 1)) g T U kl K (.slice a0 P.length P.length) (.slice a1 C.length C.length) b0 c0 b1 c1 h0 h1 P C ∧ (wr.setCell ⟨g, k * 4 + 1, none⟩ (.int .i64 ((gs xs k).b.tdiv 2 + 1))).ownsRow w21.heap.size 46 4 u11 k (fl (hvL xs k)) ∧ w21.heap.size ≤ (wr.setCell ⟨g, k * 4 + 1, none⟩ (.int .i64 ((gs xs k).b.tdiv 2 + 1))).heap.size) := by
              have ks : Kept (fun b => b = g) wr (wr.setCell ⟨g, k * 4 + 1, none⟩ (.int .i64 ((gs xs k).b.tdiv 2 + 1))) := Kept.setCell (F := fun b => b = g) (p := ⟨g, k * 4 + 1, none⟩) (Kept.refl _ wr) (.inl rfl) _
              refine ⟨HR.out.2.1.kept ks ((HR.out.2.1.m.bud k _).ext (fun i _ => mineK_succ hlt i)) (HR.out.2.1.z.set _ _), ks.owns HR.out.1 (fun b e e' => ?_), Nat.le_trans HR.out.2.2 ks.size⟩
              have z1 := (HR.out.1.lt b e).1
              have := H21.out.gh; have := H21.out.tu; have := H21.out.ul; have := H21.out.lk; have := H21.out.uh
              omega
            go_upto_region 21 with fail
            rw [HW.out]
            clear e0 e1 e2 e3 hfz HR
            generalize (wr.setCell ⟨g, k * 4 + 1, none⟩ (.int .i64 ((gs xs k).b.tdiv 2 + 1))) = w4 at *
            obtain ⟨e0, e1, e2, e3⟩ := HX.out.1.m k (by omega)
            rw [mineK_lt (Nat.lt_succ_self k)] at e0 e1 e2 e3
            have HH : Hid (hvL xs (k + 1) = hvL xs k ++ [half (gs xs k)]) := hvL_succ xs k
            generalize half (gs xs k) = hx at *
            go_wp2_with (at_builtin; refine wpList_append_own_at _ rfl _ _ 22 rfl w21.heap.size 46 i0 (.agg #[.int .i64 0, .int .i64 0, .int .i64 0, .int .i64 0]) 4 32 Tryz.underlying22 hi0 hz0 hz1 hz2 rfl (by decide) _ _ _ rfl (HX.out.2.1.alloc _) ⟨w4.heap.size, 0, none⟩ 1 1 (fl [hx]) rfl rfl (cell_four w4 hx _) (fl_one _) (by unfold maxLen; omega) (by omega) (by have := HX.out.2.2; simp; omega) ?_; intro v9 w10 own10 grow10 _ at10)
            have HN : Hid (w10.ownsRow w21.heap.size 46 4 v9 (k + 1) (fl (hvL xs (k + 1))) ∧ Sk w w10 xs.length (mineK xs (k + 1)) g T U kl K (.slice a0 P.length P.length) (.slice a1 C.length C.length) b0 c0 b1 c1 h0 h1 P C ∧ w21.heap.size ≤ w10.heap.size) := by
              have kg : Kept (fun j => w21.heap.size ≤ j) w4 w10 := ((Kept.refl _ w4).alloc _).grown grow10 (fun b e => .inl (HX.out.2.1.lt b e).1)
              refine ⟨?_, HX.out.1.far kg (fun b e => by have := H21.out.uh; omega), Nat.le_trans HX.out.2.2 kg.size⟩
              rw [HH.out, fl_app]
              exact own10
            clear own10 grow10 at10 e0 e1 e2 e3
            go_wp2
            go_roundw
            case rel => exact ⟨k + 1, by go_num, by omega, HN.out⟩
            case measure => simp [intOf]; omega
          · have hltz : ¬ (k : Int) < (xs.length : Int) := by omega
            have hke : k = xs.length := by omega
            rw [hke] at HR
            have hyl : (hvL xs xs.length).length = xs.length := hvL_len xs _
            have hyk : ∀ i, i < (hvL xs xs.length).length → (gs (hvL xs xs.length) i).ok := fun i hi => by
              rw [hyl] at hi
              rw [hvL_gs xs hi]
              exact half_ok (hok i hi)
            obtain ⟨oa, oc, ho, hso⟩ := own_sv HR.out.1 hyl (fun i hi => hyk i (by omega))
            subst ho
            have H22 : Hid (Sv wr (fun b => (Value.slice oa xs.length oc).ownBlock = some b) oa xs.length oc (hvL xs xs.length) ∧ (∀ b, (Value.slice oa xs.length oc).ownBlock = some b → w21.heap.size ≤ b ∧ b < wr.heap.size) ∧ Sk w wr xs.length (mineK xs xs.length) g T U kl K (.slice a0 P.length P.length) (.slice a1 C.length C.length) b0 c0 b1 c1 h0 h1 P C ∧ K < w21.heap.size) := ⟨hso, fun b e => HR.out.1.lt b e, HR.out.2.1, H21.out.uh⟩
            have hSv : Sv wr (fun b => b = g) (some ⟨g, 0, none⟩) (hvL xs xs.length).length cap (hvL xs xs.length) := HR.out.2.1.m.svx cap (by omega) (by omega) hgm (fun i hi => by rw [hyl] at hi; rw [mineK_lt hi, hvL_gs xs hi]) hyk
            have m1 := make_A wr (HS.out.1.kept HR.out.2.1.k) hSv (fun b e => by have := HR.out.2.1.gh; have := HR.out.2.1.tu; have := HR.out.2.1.ul; have := HR.out.2.1.lk; have := HR.out.2.1.uh; omega)
            clear hSv hso HR H21 hk hke hlt HP HV
            have HY : Hid (∀ W, Kept (fun b => b = T) wr W → ∀ (hw : wr.heap.size ≤ W.heap.size), Calls Tryz.prog 23 #[.slice oa xs.length oc] W fun e w' => ∃ a0 c0 a1 c1, e = .returned (.tuple #[.agg #[.slice a0 (tP (hvL xs xs.length)).length c0, .slice a1 (tC (hvL xs xs.length)).length c1], .int .i64 (tE (hvL xs xs.length))]) ∧ Tq w' W.heap.size w'.heap.size a0 c0 a1 c1 (tP (hvL xs xs.length)) (tC (hvL xs xs.length)) ∧ Kept No W w') := fun W k hw => by
              have sv := H22.out.1.kept k (fun b e e' => by have := H22.out.2.1 b e; have := H22.out.2.2.1.tu; have := H22.out.2.2.1.ul; have := H22.out.2.2.1.lk; have := H22.out.2.2.2; omega)
              have r := rmake_A (xs := hvL xs xs.length) (a := oa) (c := oc) W (by rw [hyl]; exact sv) (fun b e => by have := H22.out.2.1 b e; omega)
              rw [hyl] at r
              exact r
            rw [hyl] at m1
            generalize tP (hvL xs xs.length) = P2 at *
            generalize tC (hvL xs xs.length) = C2 at *
            generalize tE (hvL xs xs.length) = E2 at *
            go_upto_region 22 with fail
            clear hltz
            obtain ⟨d0, d1⟩ := bx2 H22.out.2.2.1.t
            go_upto_region 23 with (go_at_call 10; refine m1.mono ?_; rintro e w23 ⟨m0, m9, rfl, t23, b23, k23⟩; have H23 : Hid (Tq w23 wr.heap.size w23.heap.size m0 P2.length m9 C2.length P2 C2 ∧ Kept No wr w23 ∧ Sk w w23 xs.length (mineK xs xs.length) g T U kl K (.slice a0 P.length P.length) (.slice a1 C.length C.length) b0 c0 b1 c1 h0 h1 P C) := ⟨t23, k23, H22.out.2.2.1.keep k23⟩; clear t23 b23 k23 m1 d0 d1; obtain ⟨d0, d1⟩ := bx2 H23.out.2.2.t; have dz := tab_fz H23.out.2.2.t)
            have kp := put_k w23 T (.slice m0 P2.length P2.length) (.slice m9 C2.length C2.length)
            have H24 : Hid (Sk w ((w23.setCell ⟨T, 0, none⟩ (.slice m0 P2.length P2.length)).setCell ⟨T, 1, none⟩ (.slice m9 C2.length C2.length)) xs.length (mineK xs xs.length) g T U kl K (.slice m0 P2.length P2.length) (.slice m9 C2.length C2.length) b0 c0 b1 c1 h0 h1 P C ∧ Tq ((w23.setCell ⟨T, 0, none⟩ (.slice m0 P2.length P2.length)).setCell ⟨T, 1, none⟩ (.slice m9 C2.length C2.length)) wr.heap.size w23.heap.size m0 P2.length m9 C2.length P2 C2) :=
              ⟨H23.out.2.2.put _ _, H23.out.1.kept kp (fun b h1 h2 e => by have := H22.out.2.2.1.tu; have := H22.out.2.2.1.ul; have := H22.out.2.2.1.lk; have := H22.out.2.2.1.uh; omega)⟩
            have r1 := HY.out _ ((H23.out.2.1.mono (fun _ h => h.elim)).trans kp (fun b e => .inl e)) (Nat.le_trans H23.out.2.1.size kp.size)
            clear kp d0 d1 dz H23 HY
            generalize ((w23.setCell ⟨T, 0, none⟩ (.slice m0 P2.length P2.length)).setCell ⟨T, 1, none⟩ (.slice m9 C2.length C2.length)) = w24 at *
            go_upto_region 24 with (go_at_call 23; refine r1.mono ?_; rintro e w25 ⟨n0, x0, n1, x1, rfl, t25, k25⟩; have H25 : Hid (Sk w w25 xs.length (mineK xs xs.length) g T U kl K (.slice m0 P2.length P2.length) (.slice m9 C2.length C2.length) b0 c0 b1 c1 h0 h1 P C ∧ Tq w25 wr.heap.size w23.heap.size m0 P2.length m9 C2.length P2 C2 ∧ Tq w25 w24.heap.size w25.heap.size n0 x0 n1 x1 P2 C2) := ⟨H24.out.1.keep k25, H24.out.2.keep k25, t25⟩; clear t25 k25 r1 H24)
            have ka : Kept No w25 (w25.alloc (.cells #[.slice n0 P2.length x0, .slice n1 C2.length x1] 29)) := (Kept.refl No w25).alloc _
            have H26 : Hid (Sk w (w25.alloc (.cells #[.slice n0 P2.length x0, .slice n1 C2.length x1] 29)) xs.length (mineK xs xs.length) g T U kl K (.slice m0 P2.length P2.length) (.slice m9 C2.length C2.length) b0 c0 b1 c1 h0 h1 P C ∧ Tq (w25.alloc (.cells #[.slice n0 P2.length x0, .slice n1 C2.length x1] 29)) wr.heap.size w23.heap.size m0 P2.length m9 C2.length P2 C2 ∧ Tq (w25.alloc (.cells #[.slice n0 P2.length x0, .slice n1 C2.length x1] 29)) w24.heap.size w25.heap.size n0 x0 n1 x1 P2 C2 ∧ (w25.alloc (.cells #[.slice n0 P2.length x0, .slice n1 C2.length x1] 29)).heap[w25.heap.size]? = some (.cells #[.slice n0 P2.length x0, .slice n1 C2.length x1] 29)) := ⟨H25.out.1.keep ka, H25.out.2.1.keep ka, H25.out.2.2.keep ka, World.alloc_heap_new _ _⟩
            clear ka H25
            generalize (w25.alloc (.cells #[.slice n0 P2.length x0, .slice n1 C2.length x1] 29)) = w26 at *
            generalize w25.heap.size = V at *
            obtain ⟨d0, d1⟩ := bx2 H26.out.1.t
            obtain ⟨d2, d3⟩ := bx2 H26.out.2.2.2
            have s1 := sameT_yes w26 H26.out.2.1.p H26.out.2.2.1.p H26.out.2.1.c H26.out.2.2.1.c
            go_wp2_with (first
              | (go_at_call 24; refine s1.mono ?_; rintro e w27 ⟨rfl, k27⟩; have H27 : Hid (Sk w w27 xs.length (mineK xs xs.length) g T U kl K (.slice m0 P2.length P2.length) (.slice m9 C2.length C2.length) b0 c0 b1 c1 h0 h1 P C) := H26.out.1.keep k27; clear k27 s1 d0 d1 d2 d3; obtain ⟨d0, d1⟩ := bx2 H27.out.q; obtain ⟨d2, d3⟩ := bx2 H27.out.u; have s2 := sameT_yes w27 H27.out.tk.p H27.out.tb.p H27.out.tk.c H27.out.tb.c)
              | (go_at_call 24; refine s2.mono ?_; rintro e w28 ⟨rfl, k28⟩; have H28 : Hid (Kept No w w28) := H27.out.k.trans k28 (fun _ h => h.elim); clear k28 s2 d0 d1 d2 d3))
            go_ret
            exact ⟨rfl, H28.out.below0⟩
end Go.Proofs.YtdcfcgmmjobdcaaGreatDoor
