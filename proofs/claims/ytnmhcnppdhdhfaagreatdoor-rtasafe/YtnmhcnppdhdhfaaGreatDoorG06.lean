/-
  One text: RLev, VPl, NPlain, NTicks, NNext.
-/
import Derived.Test.YtnmhcnppdhdhfaaGreatDoorHRWrk
import Derived.Laws.Entries
import Derived.RowKit
import Derived.IntWalk
import Derived.Test.YtnmhcnppdhdhfaaGreatDoorProg
import Derived.WalkKit
import Derived.WalkSpells
import Derived.WalkLawsBesides
import Derived.WalkMore
namespace Go.Proofs.YtnmhcnppdhdhfaaGreatDoor
open Rp
set_option linter.unusedVariables false

/-- the ticks that are left for the j-th -/
def lv (o : Nat → Bool) (T C : Nat → Nat) : Nat → Nat → Bool
  | 0 => o
  | j + 1 => nxt (lv o T C j) (fun _ => C j) (T j)
abbrev rm (o : Nat → Bool) (T C : Nat → Nat) (j t : Nat) : Nat := remn (lv o T C j) (fun _ => C j) (T j) t
theorem lv_true {o : Nat → Bool} {T C : Nat → Nat} {t : Nat} (ho : o t = true) : ∀ j, (∀ i, i < j → rm o T C i t = 0) → lv o T C j t = true
  | 0, _ => ho
  | j + 1, h => by
    show nxt _ _ _ t = true
    unfold nxt
    rw [lv_true ho j (fun i hi => h i (by omega)), Bool.true_and]
    exact decide_eq_true (h j (by omega))
theorem lv_off {o : Nat → Bool} {T C : Nat → Nat} {t : Nat} (ho : o t = false) : ∀ j, lv o T C j t = false
  | 0 => ho
  | j + 1 => by
    show nxt _ _ _ t = false
    unfold nxt
    rw [lv_off ho j]; rfl
theorem lv_busy {o : Nat → Bool} {T C : Nat → Nat} {t i : Nat} (hi : 0 < rm o T C i t) : ∀ j, i < j → lv o T C j t = false
  | 0, h => by omega
  | j + 1, h => by
    show nxt _ _ _ t = false
    unfold nxt
    rcases Nat.lt_or_eq_of_le (Nat.lt_succ_iff.1 h) with h1 | h1
    · rw [lv_busy hi j h1]; rfl
    · subst h1
      rw [decide_eq_false (by show ¬ rm o T C i t = 0; omega), Bool.and_false]

/-- the line stands at now -/
structure LJ (o : Nat → Bool) (T C : Nat → Nat) (now m : Nat) (f : Nat → Wr) : Prop where
  j : ∀ i, i < m → J (lv o T C i) now (f i).k
  eT : ∀ i, (f i).k.T = T i
  eC : ∀ i, (f i).k.C = C i
theorem LJ.gap {o : Nat → Bool} {T C : Nat → Nat} {now now' m : Nat} {f : Nat → Wr} (h : LJ o T C now m f) (hn : now ≤ now') (ho : ∀ t, now ≤ t → t < now' → o t = false) : LJ o T C now' m f :=
  ⟨fun i hi => (h.j i hi).skip hn (fun t h1 h2 => lv_off (ho t h1 h2) i), h.eT, h.eC⟩
theorem LJ.less {o : Nat → Bool} {T C : Nat → Nat} {now m m' : Nat} {f : Nat → Wr} (h : LJ o T C now m f) (hm : m' ≤ m) : LJ o T C now m' f := ⟨fun i hi => h.j i (by omega), h.eT, h.eC⟩

/-- the first i have nothing to do up to b -/
structure Id (o : Nat → Bool) (T C : Nat → Nat) (now below b m i : Nat) (f f' : Nat → Wr) : Prop where
  lj : LJ o T C now m f'
  at' : ∀ j, ∃ k, f' j = (f j).at k
  rel : ∀ j, j < i → now < (f' j).k.release ∧ (f' j).k.left = 0 ∧ b ≤ (f' j).k.release
  rl : ∀ j, (f' j).k.release = (f j).k.release ∨ (f' j).k.release ≤ now + T j
  b0 : now < b
  b1 : b ≤ below
theorem Id.quiet {o : Nat → Bool} {T C : Nat → Nat} {now below b m i : Nat} {f f' : Nat → Wr} (h : Id o T C now below b m i f f') (him : i ≤ m) {j : Nat} (hj : j < i) {n : Nat} (h1 : now ≤ n) (h2 : n ≤ b) : J (lv o T C j) n (f' j).k ∧ ∀ t, now ≤ t → t < n → rm o T C j t = 0 := by
  obtain ⟨r1, r2, r3⟩ := h.rel j hj
  have := (h.lj.j j (by omega)).idle r1 r2 h1 (by omega)
  refine ⟨this.1, fun t h3 h4 => ?_⟩
  have e := this.2 t h3 h4
  unfold Wk.rem at e
  rw [h.lj.eT, h.lj.eC] at e
  exact e
/-- nobody has anything to do -/
theorem Id.all {o : Nat → Bool} {T C : Nat → Nat} {now below b m : Nat} {f f' : Nat → Wr} (h : Id o T C now below b m m f f') : LJ o T C b m f' :=
  ⟨fun j hj => (h.quiet (Nat.le_refl _) hj (by have := h.b0; omega) (Nat.le_refl _)).1, h.lj.eT, h.lj.eC⟩
/-- the i-th works -/
theorem Id.works {o : Nat → Bool} {T C : Nat → Nat} {now below b m i t : Nat} {f f' : Nat → Wr} (h : Id o T C now below b m i f f') (him : i < m) (ho : ∀ u, now ≤ u → u < below → o u = true) (hr : now < (f' i).k.release) (ht0 : 0 < t) (ht : t ≤ (f' i).k.left) (hb : now + t ≤ b) (hbr : now + t ≤ (f' i).k.release) :
    LJ o T C (now + t) m (upd f' i ((f' i).at (worked (f' i).k now t))) := by
  have hA : ∀ u, now ≤ u → u < now + t → lv o T C i u = true := fun u h1 h2 => lv_true (ho u h1 (by have := h.b1; omega)) i (fun j hj => (h.quiet (Nat.le_of_lt him) hj (by omega) (show u + 1 ≤ b by omega)).2 u h1 (by omega))
  have hw := (h.lj.j i him).work hr ht0 ht hbr hA
  refine ⟨fun j hj => ?_, fun j => ?_, fun j => ?_⟩
  · rcases Nat.lt_trichotomy j i with hji | hji | hji
    · have e : upd f' i ((f' i).at (worked (f' i).k now t)) j = f' j := by unfold upd; rw [if_neg (by omega)]
      rw [e]
      exact (h.quiet (Nat.le_of_lt him) hji (by omega) hb).1
    · subst hji
      rw [upd_at]
      exact hw.1
    · have e : upd f' i ((f' i).at (worked (f' i).k now t)) j = f' j := by unfold upd; rw [if_neg (by omega)]
      rw [e]
      refine (h.lj.j j hj).skip (by omega) (fun u h1 h2 => lv_busy ?_ j hji)
      have := hw.2 u h1 h2
      unfold Wk.rem at this
      rw [h.lj.eT, h.lj.eC] at this
      exact this
  · unfold upd
    split
    · rename_i e; subst e; exact h.lj.eT j
    · exact h.lj.eT j
  · unfold upd
    split
    · rename_i e; subst e; exact h.lj.eC j
    · exact h.lj.eC j
end Go.Proofs.YtnmhcnppdhdhfaaGreatDoor

namespace Go.Proofs.YtnmhcnppdhdhfaaGreatDoor
open Rp
set_option linter.unusedVariables false

/-- the ticks that are left for the j-th level, where a job takes what its release says -/
def lvR (o : Nat → Bool) (T : Nat → Nat) (C : Nat → Nat → Nat) : Nat → Nat → Bool
  | 0 => o
  | j + 1 => nxt (lvR o T C j) (C j) (T j)
abbrev rmR (o : Nat → Bool) (T : Nat → Nat) (C : Nat → Nat → Nat) (j t : Nat) : Nat := remn (lvR o T C j) (C j) (T j) t
theorem lvR_true {o : Nat → Bool} {T : Nat → Nat} {C : Nat → Nat → Nat} {t : Nat} (ho : o t = true) : ∀ j, (∀ i, i < j → rmR o T C i t = 0) → lvR o T C j t = true
  | 0, _ => ho
  | j + 1, h => by
    show nxt _ _ _ t = true
    unfold nxt
    rw [lvR_true ho j (fun i hi => h i (by omega)), Bool.true_and]
    exact decide_eq_true (h j (by omega))
theorem lvR_off {o : Nat → Bool} {T : Nat → Nat} {C : Nat → Nat → Nat} {t : Nat} (ho : o t = false) : ∀ j, lvR o T C j t = false
  | 0 => ho
  | j + 1 => by
    show nxt _ _ _ t = false
    unfold nxt
    rw [lvR_off ho j]; rfl
theorem lvR_busy {o : Nat → Bool} {T : Nat → Nat} {C : Nat → Nat → Nat} {t i : Nat} (hi : 0 < rmR o T C i t) : ∀ j, i < j → lvR o T C j t = false
  | 0, h => by omega
  | j + 1, h => by
    show nxt _ _ _ t = false
    unfold nxt
    rcases Nat.lt_or_eq_of_le (Nat.lt_succ_iff.1 h) with h1 | h1
    · rw [lvR_busy hi j h1]; rfl
    · subst h1
      rw [decide_eq_false (by show ¬ rmR o T C i t = 0; omega), Bool.and_false]
theorem lvR_mono {o : Nat → Bool} {T : Nat → Nat} {C : Nat → Nat → Nat} {D : Nat → Nat} : ∀ j, (∀ i, i < j → ∀ u, C i u ≤ D i) → ∀ t, lv o T D j t = true → lvR o T C j t = true
  | 0, _, t, h => h
  | j + 1, h, t, ht => nxt_mono (lvR_mono j (fun i hi => h i (by omega))) (fun u => h j (by omega) u) t ht
theorem lvR_full {o : Nat → Bool} {T : Nat → Nat} {D : Nat → Nat} : ∀ j, lvR o T (fun i _ => D i) j = lv o T D j
  | 0 => rfl
  | j + 1 => by
    show nxt (lvR o T (fun i _ => D i) j) (fun _ => D j) (T j) = nxt (lv o T D j) (fun _ => D j) (T j)
    rw [lvR_full j]

structure Jb where
  rl : Int
  lf : Int
  ct : Int
/-- a level's job ahead of the release of tick t -/
def jb0 (o : Nat → Bool) (T : Nat → Nat) (C : Nat → Nat → Nat) (j t : Nat) : Jb :=
  if t = 0 then ⟨0, 0, 0⟩ else ⟨(((t - 1) / T j * T j : Nat) : Int), ((aft (lvR o T C j) (C j) (T j) (t - 1) : Nat) : Int), (((t - 1) / T j + 1 : Nat) : Int)⟩
/-- behind it -/
def jb1 (o : Nat → Bool) (T : Nat → Nat) (C : Nat → Nat → Nat) (j t : Nat) : Jb :=
  ⟨((t / T j * T j : Nat) : Int), ((rmR o T C j t : Nat) : Int), ((t / T j + 1 : Nat) : Int)⟩

/-- the scheme of a run: level l is the process at q l -/
structure Sch (o : Nat → Bool) (T : Nat → Nat) (C : Nat → Nat → Nat) (n s : Nat) (q : Nat → Nat) (pr v per : Nat → Int) (tk : Nat → Nat → Int) : Prop where
  sur : ∀ i, i < n → ∃ l, l < n ∧ q l = i
  lt : ∀ l, l < n → q l < n
  lo : ∀ a b, a < b → b < n → pr (q b) < pr (q a)
  sn : s ≤ n
  ok : ∀ j, j < s → ∀ E, okE (lvR o T C j) (C j) (T j) E
  nv : ∀ l, s ≤ l → l < n → v (q l) = -1
  vp : ∀ j, j < s → 0 ≤ v (q j)
  Tp : ∀ l, l < n → 0 < T l
  pe : ∀ l, l < n → per (q l) = (T l : Int)
  cs : ∀ j, j < s → ∀ u, u % T j = 0 → ((C j u : Nat) : Int) = tk (u / T j) (q j)

section
variable {o : Nat → Bool} {T : Nat → Nat} {C : Nat → Nat → Nat} {n s : Nat} {q : Nat → Nat} {pr v per : Nat → Int} {tk : Nat → Nat → Int}
theorem Sch.inj (h : Sch o T C n s q pr v per tk) {a b : Nat} (ha : a < n) (hb : b < n) (e : q a = q b) : a = b := by
  rcases Nat.lt_trichotomy a b with h1 | h1 | h1
  · have := h.lo a b h1 hb; rw [e] at this; omega
  · exact h1
  · have := h.lo b a h1 ha; rw [e] at this; omega
/-- what a release makes of a job -/
def relS (per : Nat → Int) (tk : Nat → Nat → Int) (t i : Nat) (b : Jb) : Jb := if ((t : Int) % per i = 0 ∧ b.lf = 0) then ⟨t, tk b.ct.toNat i, b.ct + 1⟩ else b
theorem mod_int (t T : Nat) : ((t : Int) % (T : Int) = 0) ↔ t % T = 0 := by
  rw [← Int.natCast_emod]; omega
theorem jb_rel (h : Sch o T C n s q pr v per tk) {j : Nat} (hj : j < s) (t : Nat) : ((t : Int) % per (q j) = 0 → (jb0 o T C j t).lf = 0) ∧ relS per tk t (q j) (jb0 o T C j t) = jb1 o T C j t := by
  have hjn : j < n := Nat.lt_of_lt_of_le hj h.sn
  have hT := h.Tp j hjn
  rw [h.pe j hjn]
  have hz : t % T j = 0 → (jb0 o T C j t).lf = 0 ∧ (jb0 o T C j t).ct = ((t / T j : Nat) : Int) := by
    intro hm
    unfold jb0
    by_cases h0 : t = 0
    · subst h0; rw [if_pos rfl]; simp
    · rw [if_neg h0]
      have ha := h.ok j hj t t (by omega) (Nat.le_refl _) hm
      refine ⟨by show ((aft _ _ _ _ : Nat) : Int) = 0; rw [ha]; rfl, ?_⟩
      show (((t - 1) / T j + 1 : Nat) : Int) = ((t / T j : Nat) : Int)
      congr 1
      obtain ⟨Q, hQ⟩ := Nat.dvd_of_mod_eq_zero hm
      cases Q with
      | zero => rw [Nat.mul_zero] at hQ; omega
      | succ k =>
        rw [Nat.mul_add, Nat.mul_one] at hQ
        have a1 : (t - 1) / T j = k := by
          rw [show t - 1 = T j * k + (T j - 1) by omega, Nat.mul_add_div hT, Nat.div_eq_of_lt (by omega), Nat.add_zero]
        have a2 : t / T j = k + 1 := by
          rw [hQ, Nat.mul_add_div hT, Nat.div_self hT]
        rw [a1, a2]
  refine ⟨fun hm => (hz ((mod_int _ _).1 hm)).1, ?_⟩
  unfold relS
  rw [h.pe j hjn]
  by_cases hm : t % T j = 0
  · obtain ⟨z1, z2⟩ := hz hm
    rw [if_pos ⟨(mod_int _ _).2 hm, z1⟩, z2]
    unfold jb1
    have e1 := Nat.div_add_mod t (T j)
    have e2 : t / T j * T j = t := by rw [Nat.mul_comm]; omega
    rw [e2, Int.toNat_natCast, ← h.cs j hj t hm]
    congr 1
    · show ((C j t : Nat) : Int) = ((remn _ _ _ t : Nat) : Int)
      congr 1
      cases t with
      | zero => rfl
      | succ t => rw [remn_succ, if_pos hm]
  · rw [if_neg (fun hh => hm ((mod_int _ _).1 hh.1))]
    unfold jb0 jb1
    have h0 : t ≠ 0 := by intro e; subst e; exact hm (Nat.zero_mod _)
    rw [if_neg h0]
    obtain ⟨u, rfl⟩ : ∃ u, t = u + 1 := ⟨t - 1, by omega⟩
    have e : (u + 1) / T j = u / T j := by
      have e1 := Nat.div_add_mod u (T j)
      have e2 := Nat.mod_lt u hT
      have e3 : u % T j + 1 < T j := by
        apply Decidable.byContradiction
        intro hn
        have e4 : u % T j + 1 = T j := by omega
        apply hm
        rw [show u + 1 = T j * (u / T j) + T j by omega, Nat.mul_add_mod, Nat.mod_self]
      have e5 : u + 1 = T j * (u / T j) + (u % T j + 1) := by omega
      have : (T j * (u / T j) + (u % T j + 1)) / T j = u / T j := by rw [Nat.mul_add_div hT, Nat.div_eq_of_lt e3, Nat.add_zero]
      rw [← e5] at this
      exact this
    rw [Nat.add_sub_cancel, e]
    congr 2
    show aft _ _ _ u = remn _ _ _ (u + 1)
    rw [remn_succ, if_neg hm]
/-- nobody of those whose answer is a number is late -/
theorem rel_ok (h : Sch o T C n s q pr v per tk) {t : Nat} {f : Nat → Jb} (hf : ∀ j, j < s → f (q j) = jb0 o T C j t) {i : Nat} (hi : i < n) (hm : (t : Int) % per i = 0) : (f i).lf = 0 ∨ v i = -1 := by
  obtain ⟨l, hl, rfl⟩ := h.sur i hi
  by_cases hs : l < s
  · left; rw [hf l hs]; exact (jb_rel h hs t).1 hm
  · right; exact h.nv l (by omega) hl
theorem rel_all (h : Sch o T C n s q pr v per tk) {t : Nat} {f g : Nat → Jb} (hf : ∀ j, j < s → f (q j) = jb0 o T C j t) (hg : ∀ i, i < n → g i = relS per tk t i (f i)) : ∀ j, j < s → g (q j) = jb1 o T C j t := fun j hj => by
  rw [hg _ (h.lt j (Nat.lt_of_lt_of_le hj h.sn)), hf j hj]
  exact (jb_rel h hj t).2

/-- one instruction done -/
def wkS (b : Jb) : Jb := ⟨b.rl, b.lf - 1, b.ct⟩
theorem jb_next (j t : Nat) : jb0 o T C j (t + 1) = ⟨(jb1 o T C j t).rl, ((aft (lvR o T C j) (C j) (T j) t : Nat) : Int), (jb1 o T C j t).ct⟩ := by
  unfold jb0 jb1
  rw [if_neg (by omega), Nat.add_sub_cancel]
/-- a tick of others, or with nothing to do -/
theorem wk_none (h : Sch o T C n s q pr v per tk) {t : Nat} {g : Nat → Jb} (hg : ∀ j, j < s → g (q j) = jb1 o T C j t) (hn : o t = false ∨ ∀ i, i < n → (g i).lf ≤ 0) : (∀ j, j < s → g (q j) = jb0 o T C j (t + 1)) ∧ ∀ j, j < s → ends (lvR o T C j) (C j) (T j) t = false := by
  have key : ∀ j, j < s → aft (lvR o T C j) (C j) (T j) t = rmR o T C j t ∧ ends (lvR o T C j) (C j) (T j) t = false := fun j hj => by
    rcases hn with ho | hz
    · have := lvR_off (T := T) (C := C) ho j
      unfold aft ends
      rw [this]
      exact ⟨by simp, rfl⟩
    · have e : rmR o T C j t = 0 := by
        have := hz _ (h.lt j (Nat.lt_of_lt_of_le hj h.sn))
        rw [hg j hj] at this
        have : ((rmR o T C j t : Nat) : Int) ≤ 0 := this
        omega
      unfold aft ends
      have e2 : remn (lvR o T C j) (C j) (T j) t = 0 := e
      rw [e2]
      refine ⟨by rw [Nat.zero_sub]; exact e.symm, by simp⟩
  refine ⟨fun j hj => ?_, fun j hj => (key j hj).2⟩
  rw [hg j hj, jb_next, (key j hj).1]
  rfl
/-- the place of the greatest priority that has something to do -/
structure Fst (n : Nat) (pr : Nat → Int) (g : Nat → Jb) (k : Nat) : Prop where
  lt : k < n
  pos : 0 < (g k).lf
  max : ∀ i, i < n → 0 < (g i).lf → pr i ≤ pr k
/-- it works -/
theorem wk_one (h : Sch o T C n s q pr v per tk) {t : Nat} {g : Nat → Jb} (hg : ∀ j, j < s → g (q j) = jb1 o T C j t) (ho : o t = true) {l : Nat} (hl : l < n) (hk : Fst n pr g (q l)) :
    (∀ j, j < s → (fun i => if i = q l then wkS (g i) else g i) (q j) = jb0 o T C j (t + 1)) ∧ (∀ j, j < s → j ≠ l → ends (lvR o T C j) (C j) (T j) t = false) ∧ (l < s → (ends (lvR o T C l) (C l) (T l) t = true ↔ (g (q l)).lf = 1) ∧ (t : Int) + 1 - (g (q l)).rl = ((t % T l + 1 : Nat) : Int)) := by
  have hup : ∀ j, j < s → j < l → rmR o T C j t = 0 := fun j hj hjl => by
    have hjn : j < n := by omega
    apply Decidable.byContradiction
    intro hn
    have := hk.max _ (h.lt j hjn) (by rw [hg j hj]; show (0 : Int) < ((rmR o T C j t : Nat) : Int); omega)
    have := h.lo j l hjl hl
    omega
  have key : ∀ j, j < s → j ≠ l → aft (lvR o T C j) (C j) (T j) t = rmR o T C j t ∧ ends (lvR o T C j) (C j) (T j) t = false := fun j hj hne => by
    by_cases hjl : j < l
    · have e := hup j hj hjl
      have e2 : remn (lvR o T C j) (C j) (T j) t = 0 := e
      unfold aft ends
      rw [e2]
      exact ⟨by rw [Nat.zero_sub]; exact e.symm, by simp⟩
    · have hls : l < s := by omega
      have hp : 0 < rmR o T C l t := by
        have := hk.pos
        rw [hg l hls] at this
        have : (0 : Int) < ((rmR o T C l t : Nat) : Int) := this
        omega
      have := lvR_busy hp j (by omega)
      unfold aft ends
      rw [this]
      exact ⟨by simp, rfl⟩
  have hself : l < s → lvR o T C l t = true ∧ 0 < rmR o T C l t := fun hls => by
    refine ⟨lvR_true ho l (fun i hi => hup i (by omega) hi), ?_⟩
    have := hk.pos
    rw [hg l hls] at this
    have : (0 : Int) < ((rmR o T C l t : Nat) : Int) := this
    omega
  refine ⟨fun j hj => ?_, fun j hj hne => (key j hj hne).2, fun hls => ?_⟩
  · show (if q j = q l then wkS (g (q j)) else g (q j)) = _
    by_cases e : j = l
    · subst e
      rw [if_pos rfl, hg j hj, jb_next]
      obtain ⟨e1, e2⟩ := hself hj
      unfold wkS
      congr 1
      show ((rmR o T C j t : Nat) : Int) - 1 = ((aft _ _ _ t : Nat) : Int)
      unfold aft
      rw [e1, if_pos rfl]
      have : 0 < remn (lvR o T C j) (C j) (T j) t := e2
      show ((remn (lvR o T C j) (C j) (T j) t : Nat) : Int) - 1 = _
      omega
    · rw [if_neg (fun hh => e (h.inj (by have := h.sn; omega) hl hh)), hg j hj, jb_next, (key j hj e).1]
      rfl
  · obtain ⟨e1, e2⟩ := hself hls
    rw [hg l hls]
    constructor
    · unfold ends
      rw [e1, Bool.true_and]
      show decide (remn (lvR o T C l) (C l) (T l) t = 1) = true ↔ ((remn (lvR o T C l) (C l) (T l) t : Nat) : Int) = 1
      rw [decide_eq_true_eq]
      omega
    · show (t : Int) + 1 - ((t / T l * T l : Nat) : Int) = _
      have e1 := Nat.div_add_mod t (T l)
      rw [Nat.mul_comm] at e1
      omega
end
end Go.Proofs.YtnmhcnppdhdhfaaGreatDoor

namespace Go.Proofs.YtnmhcnppdhdhfaaGreatDoor.Plain
open Go Go.RowKit

/-- an int64's bounds -/
def I64 (x : Int) : Prop := -9223372036854775808 ≤ x ∧ x ≤ 9223372036854775807

theorem wrap_bv (v : BitVec 64) : IntKind.i64.wrap (v.toNat : Int) = v.toInt := by
  have := v.isLt
  rw [IntWalk.i64_left, BitVec.toInt_eq_toNat_cond]
  unfold wrap64
  simp only [Nat.reducePow] at *
  split <;> omega

theorem bv_msb (x : Int) (h : I64 x) : (BitVec.ofInt 64 x).msb = decide (x < 0) := by
  rw [BitVec.msb_eq_toInt, BitVec.toInt_ofInt]
  have : x.bmod (2 ^ 64) = x := by
    unfold I64 at h; unfold Int.bmod; simp only [Nat.reducePow]; split <;> omega
  rw [this]

theorem bits_of (v : BitVec 64) : IntKind.i64.wrap (v.toNat : Int) < 0 ↔ v.msb = true := by
  rw [wrap_bv, BitVec.msb_eq_toInt]; simp

theorem and_neg (x y : Int) (hx : I64 x) (hy : I64 y) : bits .and .i64 x y < 0 ↔ (x < 0 ∧ y < 0) := by
  show IntKind.i64.wrap ((BitVec.ofInt 64 x &&& BitVec.ofInt 64 y).toNat : Int) < 0 ↔ _
  rw [bits_of, BitVec.msb_and, bv_msb x hx, bv_msb y hy]; simp

theorem xor_neg (x y : Int) (hx : I64 x) (hy : I64 y) : bits .xor .i64 x y < 0 ↔ ¬ (x < 0 ↔ y < 0) := by
  show IntKind.i64.wrap ((BitVec.ofInt 64 x ^^^ BitVec.ofInt 64 y).toNat : Int) < 0 ↔ _
  rw [bits_of, BitVec.msb_xor, bv_msb x hx, bv_msb y hy]
  by_cases h1 : x < 0 <;> by_cases h2 : y < 0 <;> simp [h1, h2]

theorem bits_I64 (op : BinOp) (x y : Int) : I64 (bits op .i64 x y) := by
  unfold bits; simp only [IntWalk.i64_left]; unfold wrap64 I64; omega

theorem wrap64_I64 (n : Int) : I64 (wrap64 n) := by unfold wrap64 I64; omega

theorem sums (a b s : Int) (ha : I64 a) (hb : I64 b) (hs : I64 s) : bits .and .i64 (bits .xor .i64 a s) (bits .xor .i64 b s) < 0 ↔ (¬ (a < 0 ↔ s < 0) ∧ ¬ (b < 0 ↔ s < 0)) := by
  rw [and_neg _ _ (bits_I64 _ _ _) (bits_I64 _ _ _), xor_neg a s ha hs, xor_neg b s hb hs]

theorem add_fits (a b : Int) (ha : I64 a) (hb : I64 b) (h : I64 (a + b)) : ¬ bits .and .i64 (bits .xor .i64 a (a + b)) (bits .xor .i64 b (a + b)) < 0 := by
  rw [sums a b _ ha hb h]; unfold I64 at *; omega

theorem add_wraps (a b : Int) (ha : I64 a) (hb : I64 b) (h : ¬ I64 (a + b)) : bits .and .i64 (bits .xor .i64 a (wrap64 (a + b))) (bits .xor .i64 b (wrap64 (a + b))) < 0 := by
  rw [sums a b _ ha hb (wrap64_I64 _)]; unfold I64 wrap64 at *; omega

theorem sub_fits (a b : Int) (ha : I64 a) (hb : I64 b) (h : I64 (a - b)) : ¬ bits .and .i64 (bits .xor .i64 a b) (bits .xor .i64 a (a - b)) < 0 := by
  rw [and_neg _ _ (bits_I64 _ _ _) (bits_I64 _ _ _), xor_neg a b ha hb, xor_neg a _ ha h]; unfold I64 at *; omega

theorem sub_wraps (a b : Int) (ha : I64 a) (hb : I64 b) (h : ¬ I64 (a - b)) : bits .and .i64 (bits .xor .i64 a b) (bits .xor .i64 a (wrap64 (a - b))) < 0 := by
  rw [and_neg _ _ (bits_I64 _ _ _) (bits_I64 _ _ _), xor_neg a b ha hb, xor_neg a _ ha (wrap64_I64 _)]; unfold I64 wrap64 at *; omega

/-- num.Later -/
def laterF (t n : Int) : Int := if t < 0 ∨ 1099511627776 ≤ t ∨ n < 0 ∨ 1099511627776 - t ≤ n then -1 else t + n
/-- num.Add: the number -/
def addV (a b : Int) : Int := if bits .and .i64 (bits .xor .i64 a (wrap64 (a + b))) (bits .xor .i64 b (wrap64 (a + b))) < 0 then 0 else wrap64 (a + b)
/-- num.Add: whether there is one -/
def addB (a b : Int) : Bool := if bits .and .i64 (bits .xor .i64 a (wrap64 (a + b))) (bits .xor .i64 b (wrap64 (a + b))) < 0 then false else true
def subV (a b : Int) : Int := if bits .and .i64 (bits .xor .i64 a b) (bits .xor .i64 a (wrap64 (a - b))) < 0 then 0 else wrap64 (a - b)
def subB (a b : Int) : Bool := if bits .and .i64 (bits .xor .i64 a b) (bits .xor .i64 a (wrap64 (a - b))) < 0 then false else true

theorem laterF_no {t n : Int} (h : t < 0 ∨ 1099511627776 ≤ t ∨ n < 0 ∨ 1099511627776 ≤ t + n) : laterF t n = -1 := if_pos (by omega)
theorem laterF_yes {t n : Int} (h1 : 0 ≤ t) (h2 : 0 ≤ n) (h3 : t + n < 1099511627776) : laterF t n = t + n := if_neg (by omega)

theorem wrap_in {n : Int} (h : I64 n) : wrap64 n = n := IntWalk.wrap64_in n h
theorem addV_yes {a b : Int} (ha : I64 a) (hb : I64 b) (h : I64 (a + b)) : addV a b = a + b := by
  unfold addV; rw [wrap_in h]; exact if_neg (add_fits a b ha hb h)
theorem addB_yes {a b : Int} (ha : I64 a) (hb : I64 b) (h : I64 (a + b)) : addB a b = true := by
  unfold addB; rw [wrap_in h]; exact if_neg (add_fits a b ha hb h)
theorem addV_no {a b : Int} (ha : I64 a) (hb : I64 b) (h : ¬ I64 (a + b)) : addV a b = 0 := if_pos (add_wraps a b ha hb h)
theorem addB_no {a b : Int} (ha : I64 a) (hb : I64 b) (h : ¬ I64 (a + b)) : addB a b = false := if_pos (add_wraps a b ha hb h)
theorem subV_yes {a b : Int} (ha : I64 a) (hb : I64 b) (h : I64 (a - b)) : subV a b = a - b := by
  unfold subV; rw [wrap_in h]; exact if_neg (sub_fits a b ha hb h)
theorem subB_yes {a b : Int} (ha : I64 a) (hb : I64 b) (h : I64 (a - b)) : subB a b = true := by
  unfold subB; rw [wrap_in h]; exact if_neg (sub_fits a b ha hb h)
theorem subV_no {a b : Int} (ha : I64 a) (hb : I64 b) (h : ¬ I64 (a - b)) : subV a b = 0 := if_pos (sub_wraps a b ha hb h)
theorem subB_no {a b : Int} (ha : I64 a) (hb : I64 b) (h : ¬ I64 (a - b)) : subB a b = false := if_pos (sub_wraps a b ha hb h)

theorem wf_I64 {x : Int} (h : (Lit.int .i64 x).wf = true) : I64 x := by
  simp [Lit.wf, IntKind.min, IntKind.max, IntKind.signed, IntKind.bits] at h
  unfold I64; omega

end Go.Proofs.YtnmhcnppdhdhfaaGreatDoor.Plain

namespace Go.Proofs.YtnmhcnppdhdhfaaGreatDoor.Plain
open Go Go.RowKit

/-- num.countBelow -/
def cbF (o p b : Int) : Int := if b ≤ o then 0 else (b - 1 - o) / p + 1
def nextV (o p f : Int) : Int :=
  if o < 0 ∨ p < 1 then 0 else if f ≤ o then o else if (f - o) % p = 0 then f else if 9223372036854775807 - f < p - (f - o) % p then 0 else f + (p - (f - o) % p)
def nextB (o p f : Int) : Bool :=
  if o < 0 ∨ p < 1 then false else if f ≤ o then true else if (f - o) % p = 0 then true else if 9223372036854775807 - f < p - (f - o) % p then false else true
def countV (o p f b : Int) : Int := if o < 0 ∨ p < 1 then 0 else if b ≤ f then 0 else cbF o p b - cbF o p f
def countB (o p : Int) : Bool := if o < 0 ∨ p < 1 then false else true

theorem div_is {x q p r : Int} (hp : 0 < p) (h : r + p * q = x) (h0 : 0 ≤ r) (h1 : r < p) : x / p = q :=
  ((Int.ediv_emod_unique hp).2 ⟨h, h0, h1⟩).1

/-- x = p * q + r -/
theorem split (x p : Int) (hp : 1 ≤ p) : x % p + p * (x / p) = x ∧ 0 ≤ x % p ∧ x % p < p :=
  ⟨Int.emod_add_mul_ediv x p, Int.emod_nonneg x (by omega), Int.emod_lt_of_pos x (by omega)⟩

theorem div_pred (x p : Int) (hp : 1 ≤ p) : (x - 1) / p = if x % p = 0 then x / p - 1 else x / p := by
  obtain ⟨h, h0, h1⟩ := split x p hp
  by_cases e : x % p = 0
  · rw [if_pos e]
    exact div_is (r := p - 1) (by omega) (by rw [Int.mul_sub]; omega) (by omega) (by omega)
  · rw [if_neg e]
    exact div_is (r := x % p - 1) (by omega) (by omega) (by omega) (by omega)

theorem cb_nonneg (o p b : Int) (hp : 1 ≤ p) : 0 ≤ cbF o p b := by
  unfold cbF; split
  · omega
  · have := Int.ediv_nonneg (a := b - 1 - o) (b := p) (by omega) (by omega); omega

theorem div_le (x p : Int) (hp : 1 ≤ p) (hx : 0 ≤ x) : 0 ≤ x / p ∧ x / p ≤ x :=
  ⟨Int.ediv_nonneg hx (by omega), Int.ediv_le_self p hx⟩

theorem cb_le (o p b : Int) (hp : 1 ≤ p) (ho : 0 ≤ o) (hb : b ≤ 9223372036854775807) : cbF o p b ≤ 9223372036854775807 := by
  unfold cbF; split
  · omega
  · have := (div_le (b - 1 - o) p hp (by omega)).2; omega

theorem cb_gt (o p b k : Int) (hp : 1 ≤ p) (hk : 0 ≤ k) : k < cbF o p b ↔ o + k * p < b := by
  unfold cbF
  have hm : 0 ≤ k * p := Int.mul_nonneg hk (by omega)
  split
  · omega
  · have := @Int.le_ediv_iff_mul_le k (b - 1 - o) p (by omega)
    omega

theorem cb_mono (o p b c : Int) (hp : 1 ≤ p) (h : b ≤ c) : cbF o p b ≤ cbF o p c := by
  apply Decidable.byContradiction
  intro hn
  have h1 := (cb_gt o p b (cbF o p c) hp (cb_nonneg o p c hp)).1 (by omega)
  have h2 := (cb_gt o p c (cbF o p c) hp (cb_nonneg o p c hp)).2 (by omega)
  omega

theorem next_at (o p f : Int) (ho : 0 ≤ o) (hp : 1 ≤ p) (h : nextB o p f = true) : nextV o p f = o + cbF o p f * p := by
  unfold nextB at h; unfold nextV cbF
  rw [if_neg (by omega)] at h ⊢
  by_cases h1 : f ≤ o
  · simp [h1]
  · simp only [h1, if_false] at h ⊢
    have hd := div_pred (f - o) p hp
    obtain ⟨hs, hs0, hs1⟩ := split (f - o) p hp
    rw [show f - 1 - o = f - o - 1 by omega, hd]
    have hc : (f - o) / p * p = p * ((f - o) / p) := Int.mul_comm _ _
    by_cases h2 : (f - o) % p = 0
    · simp only [h2, if_true]
      rw [show (f - o) / p - 1 + 1 = (f - o) / p by omega]
      omega
    · simp only [h2, if_false] at h ⊢
      split at h
      · cases h
      · rename_i h3
        simp only [h3, if_false]
        rw [Int.add_mul]
        omega

theorem next_yes (o p f : Int) (ho : 0 ≤ o) (ho2 : o ≤ 9223372036854775807) (hp : 1 ≤ p) (hf : f ≤ 9223372036854775807) (h : nextB o p f = true) :
    f ≤ nextV o p f ∧ o ≤ nextV o p f ∧ (nextV o p f - o) % p = 0 ∧ (nextV o p f - o < p ∨ nextV o p f - p < f) ∧ nextV o p f ≤ 9223372036854775807 := by
  have hat := next_at o p f ho hp h
  have hmod : (nextV o p f - o) % p = 0 := by
    rw [hat, show o + cbF o p f * p - o = cbF o p f * p by omega]; exact Int.mul_emod_left _ _
  refine ⟨?_, ?_, hmod, ?_, ?_⟩
  all_goals
    clear hat hmod
    unfold nextB at h; unfold nextV
    rw [if_neg (by omega)] at h ⊢
    have := Int.emod_nonneg (f - o) (b := p) (by omega)
    have := Int.emod_lt_of_pos (f - o) (b := p) (by omega)
    split
    · omega
    · rename_i h1; rw [if_neg h1] at h
      split
      · omega
      · rename_i h2; rw [if_neg h2] at h
        split
        · rename_i h3; rw [if_pos h3] at h; cases h
        · omega

theorem next_no (o p f : Int) (ho : 0 ≤ o) (hp : 1 ≤ p) (h : nextB o p f = false) : nextV o p f = 0 ∧ 9223372036854775807 - p < f := by
  unfold nextB at h; unfold nextV
  rw [if_neg (by omega)] at h ⊢
  have := Int.emod_nonneg (f - o) (b := p) (by omega)
  by_cases h1 : f ≤ o
  · simp [h1] at h
  · by_cases h2 : (f - o) % p = 0
    · simp [h1, h2] at h
    · by_cases h3 : 9223372036854775807 - f < p - (f - o) % p
      · rw [if_neg h1, if_neg h2, if_pos h3]; exact ⟨rfl, by omega⟩
      · simp [h1, h2, h3] at h

theorem count_of (o p f b : Int) (ho : 0 ≤ o) (hp : 1 ≤ p) (h : f < b) : countV o p f b = cbF o p b - cbF o p f := by
  unfold countV; rw [if_neg (by omega), if_neg (by omega)]
theorem count_zero (o p f b : Int) (h : b ≤ f) : countV o p f b = 0 := by
  unfold countV; rw [if_pos h]; split <;> rfl
theorem count_bd (o p f b : Int) (ho : 0 ≤ o) (hp : 1 ≤ p) (hb : b ≤ 9223372036854775807) : 0 ≤ countV o p f b ∧ countV o p f b ≤ 9223372036854775807 := by
  by_cases h : b ≤ f
  · rw [count_zero o p f b h]; omega
  · rw [count_of o p f b ho hp (by omega)]
    have := cb_mono o p f b hp (by omega)
    have := cb_nonneg o p f hp
    have := cb_le o p b hp ho hb
    omega
theorem count_sum (o p f m b : Int) (ho : 0 ≤ o) (hp : 1 ≤ p) (h1 : f ≤ m) (h2 : m ≤ b) : countV o p f m + countV o p m b = countV o p f b := by
  have e : ∀ x y, x ≤ y → countV o p x y = cbF o p y - cbF o p x := by
    intro x y h
    by_cases hx : x = y
    · subst hx; rw [count_zero _ _ _ _ (by omega)]; omega
    · exact count_of o p x y ho hp (by omega)
  rw [e f m h1, e m b h2, e f b (by omega)]; omega
theorem count_next (o p f b : Int) (ho : 0 ≤ o) (hp : 1 ≤ p) (h : f < b) (hk : nextB o p f = true) : nextV o p f < b ↔ 1 ≤ countV o p f b := by
  rw [count_of o p f b ho hp h, next_at o p f ho hp hk, ← cb_gt o p b (cbF o p f) hp (cb_nonneg o p f hp)]; omega
theorem count_one (o p f : Int) (ho : 0 ≤ o) (hp : 1 ≤ p) : countV o p f (f + 1) = if o ≤ f ∧ (f - o) % p = 0 then 1 else 0 := by
  rw [count_of o p f (f + 1) ho hp (by omega)]
  unfold cbF
  by_cases h1 : f + 1 ≤ o
  · rw [if_pos h1, if_pos (by omega), if_neg (by omega)]; omega
  · rw [if_neg h1, show f + 1 - 1 - o = f - o by omega]
    by_cases h2 : f ≤ o
    · have : f - o = 0 := by omega
      rw [if_pos h2, this, if_pos ⟨by omega, Int.zero_emod _⟩, Int.zero_ediv]; rfl
    · rw [if_neg h2, show f - 1 - o = f - o - 1 by omega, div_pred (f - o) p hp]
      by_cases h3 : (f - o) % p = 0
      · rw [if_pos h3, if_pos ⟨by omega, h3⟩]; omega
      · rw [if_neg h3, if_neg (fun h => h3 h.2)]; omega

end Go.Proofs.YtnmhcnppdhdhfaaGreatDoor.Plain

namespace Go.Proofs.YtnmhcnppdhdhfaaGreatDoor
open Go.RowKit Plain
set_option linter.unusedVariables false
set_option maxRecDepth 100000

theorem comes_any (o p : Int) (w : World) :
    Calls Tryz.prog 210 #[.int .i64 o, .int .i64 p] w fun e w' => e = .returned (.bool (countB o p)) ∧ w' = w := by
  by_cases h1 : o < 0
  · rw [show countB o p = false from if_pos (by omega)]
    go_enter Tryz.func210, Tryz.ntmps210
    go_wp2
    go_ret
    exact ⟨rfl, rfl⟩
  by_cases h2 : p < 1
  · rw [show countB o p = false from if_pos (by omega)]
    have h3 : decide (1 ≤ p) = false := by simp; omega
    go_enter Tryz.func210, Tryz.ntmps210
    go_wp2
    go_ret
    exact ⟨rfl, rfl⟩
  rw [show countB o p = true from if_neg (by omega)]
  have h3 : decide (1 ≤ p) = true := by simp; omega
  go_enter Tryz.func210, Tryz.ntmps210
  go_wp2
  go_ret
  exact ⟨rfl, rfl⟩

theorem next_any (o p f : Int) (w : World) (ho2 : I64 o) (hp2 : I64 p) (hf : I64 f) :
    Calls Tryz.prog 171 #[.int .i64 o, .int .i64 p, .int .i64 f] w fun e w' => e = .returned (.tuple #[.int .i64 (nextV o p f), .bool (nextB o p f)]) ∧ w' = w := by
  unfold I64 at hf ho2 hp2
  obtain ⟨hf1, hf2⟩ := hf
  obtain ⟨_, ho2⟩ := ho2
  obtain ⟨_, hp2⟩ := hp2
  by_cases h1 : o < 0 ∨ p < 1
  · have hc : countB o p = false := if_pos h1
    rw [show nextV o p f = 0 from if_pos h1, show nextB o p f = false from if_pos h1]
    go_enter Tryz.func171, Tryz.ntmps171
    go_wp2_with (go_at_call 210; refine (comes_any _ _ _).mono ?_; rintro e w' ⟨rfl, rfl⟩)
    go_ret2
    exact ⟨rfl, rfl⟩
  have hc : countB o p = true := if_neg h1
  unfold nextV nextB
  rw [if_neg h1, if_neg h1]
  have ho : 0 ≤ o := by omega
  have hp : 1 ≤ p := by omega
  clear h1
  by_cases h2 : f ≤ o
  · rw [if_pos h2, if_pos h2]
    go_enter Tryz.func171, Tryz.ntmps171
    go_wp2_with (go_at_call 210; refine (comes_any _ _ _).mono ?_; rintro e w' ⟨rfl, rfl⟩)
    go_ret2
    exact ⟨rfl, rfl⟩
  rw [if_neg h2, if_neg h2]
  have r1 := Int.emod_nonneg (f - o) (b := p) (by omega)
  have r2 := Int.emod_lt_of_pos (f - o) (b := p) (by omega)
  have h2' : o < f := by omega
  clear h2
  by_cases h3 : (f - o) % p = 0
  · rw [if_pos h3, if_pos h3]
    go_enter Tryz.func171, Tryz.ntmps171
    go_wp2_with (go_at_call 210; refine (comes_any _ _ _).mono ?_; rintro e w' ⟨rfl, rfl⟩)
    go_ret2
    exact ⟨rfl, rfl⟩
  rw [if_neg h3, if_neg h3]
  by_cases h4 : 9223372036854775807 - f < p - (f - o) % p
  · rw [if_pos h4, if_pos h4]
    go_enter Tryz.func171, Tryz.ntmps171
    go_wp2_with (go_at_call 210; refine (comes_any _ _ _).mono ?_; rintro e w' ⟨rfl, rfl⟩)
    go_ret2
    exact ⟨rfl, rfl⟩
  rw [if_neg h4, if_neg h4]
  go_enter Tryz.func171, Tryz.ntmps171
  go_wp2_with (go_at_call 210; refine (comes_any _ _ _).mono ?_; rintro e w' ⟨rfl, rfl⟩)
  go_ret2
  exact ⟨rfl, rfl⟩

end Go.Proofs.YtnmhcnppdhdhfaaGreatDoor
