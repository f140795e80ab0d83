/-
  cut.
-/
import Derived.Test.YtofkacfchkimiaaPPlayA
import Derived.Test.YtofkacfchkimiaaPStates
import Derived.Test.YtofkacfchkimiaaPNew
import Derived.Deep.CutBlock
namespace Go.Proofs.Ytofkacfchkimiaa
open Go.RowKit Plain
set_option linter.unusedVariables false
set_option linter.unusedSimpArgs false
set_option maxRecDepth 100000
def Sp.row (s : Sp) (d : Value) : Array Value := #[.int .i64 s.k, .int .i64 s.p, .int .i64 s.a, .int .i64 s.b, .int .i64 s.c, .int .i64 s.d, .int .i64 s.x, .int .i64 s.y, .int .i64 s.z, d]
/-- a script that is read -/
structure Sq (w : World) (F : Nat → Prop) (a : Option Addr) (n c : Nat) (st : Nat → Sp) : Prop where
  cap : n ≤ c
  max : c ≤ 9223372036854775807
  at' : ∀ i, i < n → ∃ b o da dn dc, a = some ⟨b, o, none⟩ ∧ F b ∧ (∀ j, j < 10 → w.cell? ⟨b, o + i * 10 + j, none⟩ = ((st i).row (.slice da dn dc))[j]?) ∧ Zs w F da dn dc (st i).ws
def cL (st : Nat → Sp) (ds : Nat → Value) : Nat → List Value
  | 0 => []
  | k + 1 => cL st ds k ++ ((st k).row (ds k)).toList
theorem cL_ext (st : Nat → Sp) (ds es : Nat → Value) (tt : Nat → Sp) : ∀ k, (∀ j, j < k → ds j = es j ∧ st j = tt j) → cL st ds k = cL tt es k
  | 0, _ => rfl
  | k + 1, h => by
    show cL st ds k ++ _ = cL tt es k ++ _
    rw [cL_ext st ds es tt k (fun j hj => h j (by omega)), (h k (by omega)).1, (h k (by omega)).2]
theorem Zs.take {w : World} {F : Nat → Prop} {a : Option Addr} {n c : Nat} {xs : List Int} (h : Zs w F a n c xs) {m : Nat} (hm : m ≤ n) : Zs w F a m c (xs.take m) :=
  ⟨by rw [List.length_take, h.len]; omega, Nat.le_trans hm h.cap, h.max, h.nil, fun i hi => by
    obtain ⟨b, o, e, hb, hc⟩ := h.at' i (by omega)
    refine ⟨b, o, e, hb, ?_⟩
    rw [hc]
    simp [List.getD, List.getElem?_take, hi]⟩
/-- the script that was cut, in a row of its own; its words lie where they lay -/
def Ct (w wr : World) (F : Nat → Prop) (k : Nat) (v : Value) (st : Nat → Sp) (ds : Nat → Value) : Prop :=
  wr.ownsRow w.heap.size 77 10 v k (cL st ds k) ∧ Kept No w wr ∧ ∀ j, j < k → ∃ da dn dc, ds j = .slice da dn dc ∧ dn ≤ 1000 ∧ Zs w F da dn dc (st j).ws
theorem Try.infoSt : (Try.prog.info? 77).map (fun i => (i.zero, i.size, i.bytes)) = some (some (.agg #[.int .i64 0, .int .i64 0, .int .i64 0, .int .i64 0, .int .i64 0, .int .i64 0, .int .i64 0, .int .i64 0, .int .i64 0, .slice none 0 0]), 10, 96) := by kernel_rfl
theorem row_all (s : Sp) (da : Option Addr) (dn dc : Nat) : ∀ u ∈ (s.row (.slice da dn dc)).toList, u.oneCell' = true := by
  intro u hu
  simp [Sp.row] at hu
  rcases hu with rfl | rfl | rfl | rfl | rfl | rfl | rfl | rfl | rfl | rfl <;> rfl
theorem Ct.more {w wr w3 w4 : World} {F : Nat → Prop} {k : Nat} {v v4 : Value} {st : Nat → Sp} {ds : Nat → Value} (h : Ct w wr F k v st ds) (k3 : Kept No wr w3) (s : Sp) {da : Option Addr} {dn dc : Nat} (hd : dn ≤ 1000) (hz : Zs w F da dn dc s.ws) (g4 : w3.grownBy w4 v.ownBlock) (o4 : w4.ownsRow w.heap.size 77 10 v4 (k + 1) (cL st ds k ++ (s.row (.slice da dn dc)).toList)) : Ct w w4 F (k + 1) v4 (fun j => if j = k then s else st j) (fun j => if j = k then .slice da dn dc else ds j) := by
  have kg : Kept (fun q => v.ownBlock = some q) wr w4 := (k3.mono (fun _ e => e.elim)).grown g4 (fun q e => .inl e)
  refine ⟨?_, h.2.1.trans kg (fun q e => .inr (owns_lo h.1 e)), fun j hj => ?_⟩
  · have e1 : cL (fun j => if j = k then s else st j) (fun j => if j = k then .slice da dn dc else ds j) (k + 1) = cL st ds k ++ (s.row (.slice da dn dc)).toList := by
      show cL (fun j => if j = k then s else st j) (fun j => if j = k then .slice da dn dc else ds j) k ++ ((if k = k then s else st k).row (if k = k then .slice da dn dc else ds k)).toList = _
      rw [if_pos rfl, if_pos rfl, cL_ext _ _ ds st k (fun j hj => ⟨by show (if j = k then _ else _) = _; rw [if_neg (by omega)], by show (if j = k then _ else _) = _; rw [if_neg (by omega)]⟩)]
    rw [e1]; exact o4
  · by_cases ej : j = k
    · subst ej
      simp only [if_pos rfl]
      exact ⟨da, dn, dc, rfl, hd, hz⟩
    · simp only [if_neg ej]
      exact h.2.2 j (by omega)
end Go.Proofs.Ytofkacfchkimiaa
