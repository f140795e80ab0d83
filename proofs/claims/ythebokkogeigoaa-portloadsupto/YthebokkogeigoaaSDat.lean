/-
  How ports stand, as data, and lists of it that are read (no walk).
-/
import Derived.Test.YthebokkogeigoaaPInP
namespace Go.Proofs.Ythebokkogeigoaa
open Go.RowKit
set_option linter.unusedVariables false
set_option maxRecDepth 100000

/-- how a port stands -/
structure Ps where
  q : List (List Int)
  has : Bool
  tk : Int
  d : List Int
  lost : Int
def Ps.zero : Ps := ⟨[], false, 0, [], 0⟩
def Ps.val (s : Ps) (qv dv : Value) : Array Value := #[qv, .bool s.has, .int .i64 s.tk, dv, .int .i64 s.lost]
theorem Ps.val_one (s : Ps) {qa da : Option Addr} {qn qc dn dc : Nat} : ∀ u ∈ (s.val (.slice qa qn qc) (.slice da dn dc)).toList, u.oneCell' = true := by
  intro u hu
  simp [Ps.val] at hu
  rcases hu with rfl | rfl | rfl | rfl | rfl <;> rfl
/-- a list of messages that is read -/
structure Mr (w : World) (F : Nat → Prop) (a : Option Addr) (n c : Nat) (xs : List (List Int)) : Prop where
  len : xs.length = n
  cap : n ≤ c
  max : c ≤ 9223372036854775807
  nil : a = none → c = 0
  sm : n ≤ 1048576
  at' : ∀ i, i < n → ∃ b o da dn dc, a = some ⟨b, o, none⟩ ∧ F b ∧ w.cell? ⟨b, o + i, none⟩ = some (.slice da dn dc) ∧ Zs w F da dn dc (xs.getD i []) ∧ dn ≤ 1048576
theorem Mr.kept {w w' : World} {F G : Nat → Prop} {a : Option Addr} {n c : Nat} {xs : List (List Int)} (h : Mr w F a n c xs) (k : Kept G w w') (hd : ∀ b, F b → ¬ G b) : Mr w' F a n c xs :=
  ⟨h.len, h.cap, h.max, h.nil, h.sm, fun i hi => by obtain ⟨b, o, da, dn, dc, e, hb, hc, hz, hs⟩ := h.at' i hi; exact ⟨b, o, da, dn, dc, e, hb, k.cell hc (hd b hb), hz.kept k hd, hs⟩⟩
theorem Mr.mono {w : World} {F G : Nat → Prop} {a : Option Addr} {n c : Nat} {xs : List (List Int)} (h : Mr w F a n c xs) (hF : ∀ k, F k → G k) : Mr w G a n c xs :=
  ⟨h.len, h.cap, h.max, h.nil, h.sm, fun i hi => by obtain ⟨b, o, da, dn, dc, e, hb, hc, hz, hs⟩ := h.at' i hi; exact ⟨b, o, da, dn, dc, e, hF b hb, hc, hz.mono hF, hs⟩⟩
theorem Mr.none (w : World) (F : Nat → Prop) : Mr w F none 0 0 [] := ⟨rfl, Nat.le_refl _, by omega, fun _ => rfl, by omega, fun i hi => by omega⟩
/-- one that is read as a value -/
def Vr (w : World) (F : Nat → Prop) (A : Array Value) (s : Ps) : Prop := ∃ qa qn qc da dn dc, A = s.val (.slice qa qn qc) (.slice da dn dc) ∧ Mr w F qa qn qc s.q ∧ Zs w F da dn dc s.d ∧ dn ≤ 1048576
theorem Vr.kept {w w' : World} {F G : Nat → Prop} {A : Array Value} {s : Ps} (h : Vr w F A s) (k : Kept G w w') (hd : ∀ b, F b → ¬ G b) : Vr w' F A s := by
  obtain ⟨qa, qn, qc, da, dn, dc, e, hm, hz, hs⟩ := h
  exact ⟨qa, qn, qc, da, dn, dc, e, hm.kept k hd, hz.kept k hd, hs⟩
theorem Vr.mono {w : World} {F G : Nat → Prop} {A : Array Value} {s : Ps} (h : Vr w F A s) (hF : ∀ k, F k → G k) : Vr w G A s := by
  obtain ⟨qa, qn, qc, da, dn, dc, e, hm, hz, hs⟩ := h
  exact ⟨qa, qn, qc, da, dn, dc, e, hm.mono hF, hz.mono hF, hs⟩
theorem Vr.size {w : World} {F : Nat → Prop} {A : Array Value} {s : Ps} (h : Vr w F A s) : A.size = 5 ∧ ∀ u ∈ A.toList, u.oneCell' = true := by
  obtain ⟨qa, qn, qc, da, dn, dc, rfl, _⟩ := h
  exact ⟨rfl, s.val_one⟩
theorem Vr.zero (w : World) (F : Nat → Prop) : Vr w F (Ps.zero.val (.slice none 0 0) (.slice none 0 0)) Ps.zero := ⟨none, 0, 0, none, 0, 0, rfl, Mr.none w F, Zs.none w F, by omega⟩
/-- a list of them that is read -/
structure Sr (w : World) (F : Nat → Prop) (a : Option Addr) (n c : Nat) (ss : Nat → Ps) : Prop where
  cap : n ≤ c
  max : c ≤ 9223372036854775807
  sm : n ≤ 1048576
  at' : ∀ i, i < n → ∃ b o A, a = some ⟨b, o, none⟩ ∧ F b ∧ (∀ j, j < 5 → w.cell? ⟨b, o + i * 5 + j, none⟩ = A[j]?) ∧ Vr w F A (ss i)
theorem Sr.kept {w w' : World} {F G : Nat → Prop} {a : Option Addr} {n c : Nat} {ss : Nat → Ps} (h : Sr w F a n c ss) (k : Kept G w w') (hd : ∀ b, F b → ¬ G b) : Sr w' F a n c ss :=
  ⟨h.cap, h.max, h.sm, fun i hi => by
    obtain ⟨b, o, A, e, hb, hc, hv⟩ := h.at' i hi
    refine ⟨b, o, A, e, hb, fun j hj => ?_, hv.kept k hd⟩
    have hA : A[j]? = some (A[j]'(by rw [hv.size.1]; exact hj)) := Array.getElem?_eq_getElem _
    rw [hA]
    exact k.cell ((hc j hj).trans hA) (hd b hb)⟩
theorem Sr.mono {w : World} {F G : Nat → Prop} {a : Option Addr} {n c : Nat} {ss : Nat → Ps} (h : Sr w F a n c ss) (hF : ∀ k, F k → G k) : Sr w G a n c ss :=
  ⟨h.cap, h.max, h.sm, fun i hi => by
    obtain ⟨b, o, A, e, hb, hc, hv⟩ := h.at' i hi
    exact ⟨b, o, A, e, hF b hb, hc, hv.mono hF⟩⟩
theorem Sr.congr {w : World} {F : Nat → Prop} {a : Option Addr} {n c : Nat} {ss tt : Nat → Ps} (h : Sr w F a n c ss) (he : ∀ i, i < n → ss i = tt i) : Sr w F a n c tt :=
  ⟨h.cap, h.max, h.sm, fun i hi => by
    obtain ⟨b, o, A, e, hb, hc, hv⟩ := h.at' i hi
    exact ⟨b, o, A, e, hb, hc, by rw [← he i hi]; exact hv⟩⟩
/-- the five cells of one that is read off a list -/
theorem Sr.row {w : World} {F : Nat → Prop} {a : Option Addr} {n c : Nat} {ss : Nat → Ps} (h : Sr w F a n c ss) {i : Nat} (hi : i < n) : ∃ b o qa qn qc da dn dc, a = some ⟨b, o, none⟩ ∧ F b ∧ w.cell? ⟨b, o + i * 5, none⟩ = some (.slice qa qn qc) ∧ w.cell? ⟨b, o + i * 5 + 1, none⟩ = some (.bool (ss i).has) ∧ w.cell? ⟨b, o + i * 5 + 2, none⟩ = some (.int .i64 (ss i).tk) ∧ w.cell? ⟨b, o + i * 5 + 3, none⟩ = some (.slice da dn dc) ∧ w.cell? ⟨b, o + i * 5 + 4, none⟩ = some (.int .i64 (ss i).lost) ∧ Mr w F qa qn qc (ss i).q ∧ Zs w F da dn dc (ss i).d ∧ dn ≤ 1048576 := by
  obtain ⟨b, o, A, e, hb, hc, qa, qn, qc, da, dn, dc, rfl, hm, hz, hs⟩ := h.at' i hi
  exact ⟨b, o, qa, qn, qc, da, dn, dc, e, hb, hc 0 (by omega), hc 1 (by omega), hc 2 (by omega), hc 3 (by omega), hc 4 (by omega), hm, hz, hs⟩
/-- does it fit the port? -/
def fitS (p : Pr) (s : Ps) : Bool := if p.kd = 0 then !s.has || decide ((s.d.length : Int) = p.sz) else s.q.all (fun x => decide ((x.length : Int) = p.sz)) && decide ((s.q.length : Int) ≤ p.dp)
/-- what is left of it -/
def wantS (p : Pr) (part : Int) (s : Ps) : Ps := if p.pt = part then { q := if p.kd = 0 then [] else s.q, has := if p.kd = 1 then false else s.has, tk := if p.kd = 1 ∨ s.has = false then 0 else s.tk, d := if p.kd = 1 ∨ s.has = false then [] else s.d, lost := s.lost } else Ps.zero
/-- do the first k fit? -/
def allS (ps : Nat → Pr) (part : Int) (ss : Nat → Ps) : Nat → Bool
  | 0 => true
  | k + 1 => allS ps part ss k && (decide ((ps k).pt ≠ part) || fitS (ps k) (ss k))
end Go.Proofs.Ythebokkogeigoaa
