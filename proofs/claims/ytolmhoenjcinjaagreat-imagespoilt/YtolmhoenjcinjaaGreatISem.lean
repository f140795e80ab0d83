/-
  What is laid by the program's own writing, as functions of a Writer's state; how it stands to the bytes of an image. No walk here.
-/
import Derived.Test.YtolmhoenjcinjaaGreatIDat
namespace Go.Proofs.YtolmhoenjcinjaaGreat
open Go.RowKit
set_option linter.unusedVariables false

abbrev St : Type := List Nat × Int
def lay (s : St) (news : List Nat) : St := (layBs s.1 s.2 news, s.2)
theorem lay_stuck {s : St} (h : s.2 ≠ 0) (n : List Nat) : lay s n = s := by unfold lay layBs; rw [if_pos h]
theorem lay_yes (bs n : List Nat) : lay (bs, 0) n = (bs ++ n, 0) := rfl
/-- PutList -/
def wl {α : Type} (tl : St → α → St) (s : St) (xs : List α) (most : Int) : St :=
  if s.2 ≠ 0 then s else if most < xs.length then (s.1, 1) else xs.foldl tl (s.1 ++ be xs.length 4, 0)
/-- put: no more than what is left of the bound -/
def wp {α : Type} (tl : St → α → St) (s : St) (xs : List α) : St := wl tl s xs (1048576 - (s.1.length : Int))

/-- tells just these bytes, or has a fault, where they are more than may be; never above a bound -/
structure Tl {α : Type} (tl : St → α → St) (enc : α → List Nat) (k : Nat) : Prop where
  stuck : ∀ s x, s.2 ≠ 0 → tl s x = s
  good : ∀ s x, s.2 = 0 → tl s x = (s.1 ++ enc x, 0) ∨ ((tl s x).2 ≠ 0 ∧ 1048576 < s.1.length + (enc x).length)
  few : ∀ s x, (tl s x).1.length ≤ max s.1.length 60000000 + k
/-- a flat element -/
structure Tf {α : Type} (tl : St → α → St) (enc : α → List Nat) : Prop where
  eq : ∀ s x, tl s x = lay s (enc x)
  len : ∀ x, 1 ≤ (enc x).length ∧ (enc x).length ≤ 48
theorem Tf.tl {α : Type} {tl : St → α → St} {enc : α → List Nat} (h : Tf tl enc) : Tl tl enc 48 where
  stuck s x hs := by rw [h.eq]; exact lay_stuck hs _
  good s x hs := by left; rw [h.eq]; obtain ⟨b, e⟩ := s; dsimp only at hs; subst hs; rfl
  few s x := by
    rw [h.eq]
    have := layBs_len s.1 s.2 (enc x)
    have h2 := (h.len x).2
    show (layBs s.1 s.2 (enc x)).length ≤ _
    omega
theorem Tl.mono {α : Type} {tl : St → α → St} {enc : α → List Nat} {k m : Nat} (h : Tl tl enc k) (hk : k ≤ m) : Tl tl enc m :=
  ⟨h.stuck, h.good, fun s x => by have := h.few s x; omega⟩
theorem Tl.comap {α β : Type} {tl : St → α → St} {enc : α → List Nat} {k : Nat} (h : Tl tl enc k) (f : β → α) : Tl (fun s y => tl s (f y)) (fun y => enc (f y)) k :=
  ⟨fun s x hs => h.stuck s _ hs, fun s x hs => h.good s _ hs, fun s x => h.few s _⟩
theorem Tl.seq {α : Type} {t1 t2 : St → α → St} {e1 e2 : α → List Nat} {k m : Nat} (h1 : Tl t1 e1 k) (h2 : Tl t2 e2 m) : Tl (fun s x => t2 (t1 s x) x) (fun x => e1 x ++ e2 x) (k + m) where
  stuck s x hs := by show t2 (t1 s x) x = s; rw [h1.stuck s x hs, h2.stuck s x hs]
  good s x hs := by
    show t2 (t1 s x) x = _ ∨ _
    rcases h1.good s x hs with e | ⟨e, g⟩
    · rcases h2.good (t1 s x) x (by rw [e]) with f | ⟨f, g⟩
      · left; rw [f, e]; simp
      · right; refine ⟨f, ?_⟩; rw [e] at g; simp only [List.length_append] at g ⊢; omega
    · right
      refine ⟨by rw [h2.stuck _ x e]; exact e, ?_⟩
      rw [List.length_append]; omega
  few s x := by
    have a := h1.few s x
    have b := h2.few (t1 s x) x
    show (t2 (t1 s x) x).1.length ≤ _
    omega
theorem fold_stuck {α : Type} {tl : St → α → St} {enc : α → List Nat} {k : Nat} (h : Tl tl enc k) (xs : List α) (s : St) (hs : s.2 ≠ 0) : xs.foldl tl s = s := by
  induction xs with
  | nil => rfl
  | cons x xs ih => rw [List.foldl_cons, h.stuck s x hs]; exact ih
theorem fold_good {α : Type} {tl : St → α → St} {enc : α → List Nat} {k : Nat} (h : Tl tl enc k) : ∀ (xs : List α) (s : St), s.2 = 0 → xs.foldl tl s = (s.1 ++ (xs.map enc).flatten, 0) ∨ ((xs.foldl tl s).2 ≠ 0 ∧ 1048576 < s.1.length + (xs.map enc).flatten.length)
  | [], s, hs => by left; obtain ⟨b, e⟩ := s; dsimp only at hs; subst hs; simp
  | x :: xs, s, hs => by
    rw [List.foldl_cons, List.map_cons, List.flatten_cons]
    rcases h.good s x hs with e | ⟨e, g⟩
    · rw [e]
      rcases fold_good h xs (s.1 ++ enc x, 0) rfl with f | ⟨f, g⟩
      · left; rw [f]; simp
      · right; refine ⟨f, ?_⟩; simp only [List.length_append] at g ⊢; omega
    · right
      rw [fold_stuck h xs _ e]
      refine ⟨e, ?_⟩
      rw [List.length_append]; omega
theorem fold_few {α : Type} {tl : St → α → St} {enc : α → List Nat} {k : Nat} (h : Tl tl enc k) : ∀ (xs : List α) (s : St), (xs.foldl tl s).1.length ≤ max s.1.length 60000000 + k * xs.length
  | [], s => by simp only [List.foldl_nil, List.length_nil]; omega
  | x :: xs, s => by
    have a := h.few s x
    have b := fold_few h xs (tl s x)
    rw [List.foldl_cons, List.length_cons, Nat.mul_add]
    omega
theorem fold_flat {α : Type} {tl : St → α → St} {enc : α → List Nat} (h : Tf tl enc) : ∀ (xs : List α) (s : St), (xs.foldl tl s).1.length ≤ s.1.length + 48 * xs.length
  | [], s => by simp
  | x :: xs, s => by
    have b := fold_flat h xs (tl s x)
    have a : (tl s x).1.length ≤ s.1.length + 48 := by
      rw [h.eq]
      have := layBs_len s.1 s.2 (enc x)
      have h2 := (h.len x).2
      show (layBs s.1 s.2 (enc x)).length ≤ _
      omega
    rw [List.foldl_cons, List.length_cons]
    omega
theorem fold_take {α : Type} (tl : St → α → St) (xs : List α) (s : St) (k : Nat) (x : α) (h : xs[k]? = some x) : (xs.take (k + 1)).foldl tl s = tl ((xs.take k).foldl tl s) x := by
  rw [List.take_add_one, h, List.foldl_append]; rfl
theorem fold_rest {α : Type} {tl : St → α → St} (hst : ∀ s x, s.2 ≠ 0 → tl s x = s) (xs : List α) (s : St) (k : Nat) (h : ((xs.take k).foldl tl s).2 ≠ 0) : xs.foldl tl s = (xs.take k).foldl tl s := by
  have e : xs.foldl tl s = (xs.drop k).foldl tl ((xs.take k).foldl tl s) := by rw [← List.foldl_append, List.take_append_drop]
  rw [e]
  generalize (xs.take k).foldl tl s = S at h ⊢
  generalize xs.drop k = ys
  induction ys with
  | nil => rfl
  | cons y ys ih => rw [List.foldl_cons, hst S y h]; exact ih
theorem wp_good {α : Type} {tl : St → α → St} {enc : α → List Nat} {k : Nat} (h : Tl tl enc k) (hp : ∀ x, 1 ≤ (enc x).length) (s : St) (xs : List α) (hs : s.2 = 0) : wp tl s xs = (s.1 ++ encL enc xs, 0) ∨ ((wp tl s xs).2 ≠ 0 ∧ 1048576 < s.1.length + (encL enc xs).length) := by
  have hf := flat_len hp xs
  unfold wp wl
  rw [if_neg (by rw [hs]; simp)]
  by_cases hm : 1048576 - (s.1.length : Int) < xs.length
  · right
    rw [if_pos hm]
    refine ⟨by simp, ?_⟩
    rw [encL_len]; omega
  · rw [if_neg hm]
    rcases fold_good h xs (s.1 ++ be xs.length 4, 0) rfl with e | ⟨e, g⟩
    · left; rw [e]; unfold encL; simp
    · right
      refine ⟨e, ?_⟩
      rw [encL_len]
      simp only [List.length_append, be_length] at g
      omega
theorem wp_stuck {α : Type} (tl : St → α → St) (s : St) (xs : List α) (hs : s.2 ≠ 0) : wp tl s xs = s := by unfold wp wl; rw [if_pos hs]
theorem Tf.list {α : Type} {tl : St → α → St} {enc : α → List Nat} (h : Tf tl enc) : Tl (wp tl) (encL enc) 0 where
  stuck := wp_stuck tl
  good s xs hs := wp_good h.tl (fun x => (h.len x).1) s xs hs
  few s xs := by
    unfold wp wl
    by_cases hs : s.2 ≠ 0
    · rw [if_pos hs]; omega
    · rw [if_neg hs]
      by_cases hm : 1048576 - (s.1.length : Int) < xs.length
      · rw [if_pos hm]; dsimp only; omega
      · rw [if_neg hm]
        have := fold_flat h xs (s.1 ++ be xs.length 4, 0)
        simp only [List.length_append, be_length] at this
        omega
theorem Tl.list {α : Type} {tl : St → α → St} {enc : α → List Nat} {k : Nat} (h : Tl tl enc k) (hk : k ≤ 1000) (hp : ∀ x, 1 ≤ (enc x).length) : Tl (wp tl) (encL enc) (1000 * 1048576) where
  stuck := wp_stuck tl
  good s xs hs := wp_good h hp s xs hs
  few s xs := by
    unfold wp wl
    by_cases hs : s.2 ≠ 0
    · rw [if_pos hs]; omega
    · rw [if_neg hs]
      by_cases hm : 1048576 - (s.1.length : Int) < xs.length
      · rw [if_pos hm]; dsimp only; omega
      · rw [if_neg hm]
        have a := fold_few h xs (s.1 ++ be xs.length 4, 0)
        simp only [List.length_append, be_length] at a
        have b : k * xs.length ≤ 1000 * 1048576 := Nat.mul_le_mul hk (by omega)
        omega

def tlI (s : St) (x : Int) : St := lay s (be64 x)
def tlB (s : St) (x : Bool) : St := lay s (flagB x)
def tlIns (s : St) (x : Ins) : St := lay s (encIns x)
theorem tfI : Tf tlI be64 := ⟨fun _ _ => rfl, fun x => by rw [be64_len]; omega⟩
theorem tfB : Tf tlB flagB := ⟨fun _ _ => rfl, fun x => by rw [flagB_len]; omega⟩
theorem tfIns : Tf tlIns encIns := ⟨fun _ _ => rfl, fun x => by rw [encIns_len]; omega⟩
theorem lay_lay (s : St) (a b : List Nat) : lay (lay s a) b = lay s (a ++ b) := by
  unfold lay layBs; split
  · simp_all
  · simp [*]

def tlPrc (s : St) (x : Prc) : St := tlB (tlI (tlI (tlI (tlI (tlI s x.en) x.pr) x.pe) x.li) x.ca) x.auto
theorem tfPrc : Tf tlPrc encPrc := ⟨fun s x => by simp only [tlPrc, tlI, tlB, lay_lay, encPrc, List.append_assoc], fun x => by simp only [encPrc, List.length_append, be64_len, flagB_len]; omega⟩
def tlSm (s : St) (x : Sm) : St := tlI (tlI s x.st) x.mx
theorem tfSm : Tf tlSm encSm := ⟨fun s x => by simp only [tlSm, tlI, lay_lay, encSm], fun x => by simp only [encSm, List.length_append, be64_len]; omega⟩
def tlBf (s : St) (x : Bf) : St := tlI (tlI s x.sz) x.dp
theorem tfBf : Tf tlBf encBf := ⟨fun s x => by simp only [tlBf, tlI, lay_lay, encBf], fun x => by simp only [encBf, List.length_append, be64_len]; omega⟩
def tlPo (s : St) (x : Po) : St := tlI (tlI (tlI (tlB (tlI (tlI s x.pt) x.kd) x.out) x.sz) x.dp) x.rf
theorem tfPo : Tf tlPo encPo := ⟨fun s x => by simp only [tlPo, tlI, tlB, lay_lay, encPo, List.append_assoc], fun x => by simp only [encPo, List.length_append, be64_len, flagB_len]; omega⟩
def tlCh (s : St) (x : Ch) : St := tlI (tlI (wp tlI (tlI (tlI s x.kd) x.fr) x.dst) x.ph) x.pe
theorem tCh : Tl tlCh encCh 1000 := (show Tl tlCh encCh _ from (((tfI.tl).comap (fun x : Ch => x.kd)).seq (((tfI.tl).comap (fun x : Ch => x.fr)).seq (((tfI.list).comap (fun x : Ch => x.dst)).seq (((tfI.tl).comap (fun x : Ch => x.ph)).seq ((tfI.tl).comap (fun x : Ch => x.pe))))))).mono (by decide)
def tlPn (s : St) (x : Pn) : St := wp tlBf (wp tlB (wp tlSm (tlI (tlI (tlI (tlI (tlI (tlI (tlI (tlI (tlI (wp tlPrc (wp tlIns (wp tlI (tlI (tlI (tlI (tlI (tlI (tlI s x.pe) x.bu) x.off) x.pr) x.wo) x.fi) x.init) x.code) x.procs) x.ha) x.h0) x.h1) x.h2) x.h3) x.h4) x.h5) x.h6) x.h7) x.sems) x.evs) x.bufs
theorem tPn : Tl tlPn encPn 1000 := (show Tl tlPn encPn _ from (((tfI.tl).comap (fun x : Pn => x.pe)).seq (((tfI.tl).comap (fun x : Pn => x.bu)).seq (((tfI.tl).comap (fun x : Pn => x.off)).seq (((tfI.tl).comap (fun x : Pn => x.pr)).seq (((tfI.tl).comap (fun x : Pn => x.wo)).seq (((tfI.tl).comap (fun x : Pn => x.fi)).seq (((tfI.list).comap (fun x : Pn => x.init)).seq (((tfIns.list).comap (fun x : Pn => x.code)).seq (((tfPrc.list).comap (fun x : Pn => x.procs)).seq (((tfI.tl).comap (fun x : Pn => x.ha)).seq (((tfI.tl).comap (fun x : Pn => x.h0)).seq (((tfI.tl).comap (fun x : Pn => x.h1)).seq (((tfI.tl).comap (fun x : Pn => x.h2)).seq (((tfI.tl).comap (fun x : Pn => x.h3)).seq (((tfI.tl).comap (fun x : Pn => x.h4)).seq (((tfI.tl).comap (fun x : Pn => x.h5)).seq (((tfI.tl).comap (fun x : Pn => x.h6)).seq (((tfI.tl).comap (fun x : Pn => x.h7)).seq (((tfSm.list).comap (fun x : Pn => x.sems)).seq (((tfB.list).comap (fun x : Pn => x.evs)).seq ((tfBf.list).comap (fun x : Pn => x.bufs))))))))))))))))))))))).mono (by decide)
def tlIm (s : St) (x : Im) : St := wp tlCh (wp tlPo (wp tlPn s x.parts) x.ports) x.chans
theorem tIm : Tl tlIm encIm (1000 * 1048576 + (0 + 1000 * 1048576)) :=
  ((tPn.list (Nat.le_refl _) dcPn.pos).comap (fun x : Im => x.parts)).seq (((tfPo.list).comap (fun x : Im => x.ports)).seq ((tCh.list (Nat.le_refl _) dcCh.pos).comap (fun x : Im => x.chans)))
/-- what Encode tells -/
def encOk (x : Im) : Bool := decide ((encIm x).length + 12 ≤ 1048576)
def encX (x : Im) : List Nat := if encOk x then sealed 1 (encIm x) else []
def encE (x : Im) : Int := if encOk x then 0 else 1
theorem whole (x : Im) : tlIm ([], 0) x = (encIm x, 0) ∨ ((tlIm ([], 0) x).2 ≠ 0 ∧ encOk x = false) := by
  rcases tIm.good ([], 0) x rfl with h | ⟨h, g⟩
  · left; rw [h]; rfl
  · right; refine ⟨h, ?_⟩
    unfold encOk
    simp only [List.length_nil] at g
    exact decide_eq_false (by omega)

end Go.Proofs.YtolmhoenjcinjaaGreat
