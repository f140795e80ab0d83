/-
  TraceParts: short, and what the walk stands on.
-/
import Derived.Test.YtdnfdnionkfamaaDoorVLv
namespace Go.Proofs.YtdnfdnionkfamaaDoor
open Go.RowKit
set_option linter.unusedVariables false
set_option linter.unusedSimpArgs false
set_option maxRecDepth 100000

def SomeB (r : Ending) : Prop := ∃ b, r = .returned (.bool b)
set_option maxHeartbeats 4000000 in
theorem short_any {F : Nat → Prop} {a : Option Addr} {n c : Nat} {xs : List Ev} (w : World) (hl : Il w F a n c xs) :
    Calls Tryd.prog 4 #[.slice a n c] w fun r w' => SomeB r ∧ Kept No w w' := by
  have hlc := hl.cap
  have hlm := hl.max
  have hlen := hl.len
  have HL := hid hl
  clear hl
  go_enter Tryd.func4, Tryd.ntmps4
  go_upto_region 3 with fail
  go_wp2
  go_loopw [3, 4] (fun u3 u4 wr => ∃ (k : Nat) (Z : Int), k ≤ n ∧ u3 = .int .i64 Z ∧ u4 = .int .i64 k ∧ Kept No w wr) (fun _ u4 _ => n - (intOf u4).toNat)
  case atStart => exact ⟨0, _, by omega, rfl, rfl, Kept.refl _ _⟩
  case round =>
    obtain ⟨k, Z, hk, rfl, rfl, kr⟩ := hrel
    by_cases hlt : k < n
    · have hltz : (k : Int) < (n : Int) := by omega
      obtain ⟨x, hx⟩ : ∃ x, xs[k]? = some x := ⟨_, List.getElem?_eq_getElem (by omega)⟩
      obtain ⟨b, o, da, dc, rfl, _, hc, ir⟩ := HL.out.at' k x hx
      have c6 : wr.cell? ⟨b, o + k * 7 + 6, none⟩ = some (.slice da x.d.length dc) := kr.cell (hc 6 _ rfl) (fun e => e)
      have q1 := ir.zs.cap
      have q2 := ir.zs.max
      have HK := hid kr
      clear kr hc ir hx
      generalize x.d.length = dn at *
      go_wp2
      refine ⟨⟨k + 1, _, by omega, rfl, by go_num, HK.out⟩, ?_⟩
      simp [intOf]; omega
    · have hltz : ¬ (k : Int) < (n : Int) := by omega
      have HK := hid kr
      clear kr
      go_wp2
      go_ret
      exact ⟨⟨_, rfl⟩, HK.out⟩
theorem Il.take {w : World} {F : Nat → Prop} {a : Option Addr} {n c : Nat} {xs : List Ev} (h : Il w F a n c xs) {k : Nat} (hk : k ≤ n) : Il w F a k c (xs.take k) := by
  have h1 := h.len
  have h2 := h.cap
  refine ⟨by rw [List.length_take]; omega, by omega, h.max, fun i x hx => ?_⟩
  have hi : i < k := by have := (List.getElem?_eq_some_iff.1 hx).1; rw [List.length_take] at this; omega
  rw [List.getElem?_take_of_lt hi] at hx
  exact h.at' i x hx
/-- what the law has reckoned: all partitions up to q alike -/
def alk (xs ys : List Ev) (q : Nat) : Bool := decide (∀ p : Nat, p < q → prj ((p : Int) + 1) xs = prj ((p : Int) + 1) ys)
theorem alk_succ (xs ys : List Ev) (q : Nat) : alk xs ys (q + 1) = (alk xs ys q && decide (prj ((q : Int) + 1) xs = prj ((q : Int) + 1) ys)) := by
  unfold alk
  rw [← Bool.decide_and]
  apply decide_eq_decide.2
  constructor
  · intro h
    exact ⟨fun p hp => h p (by omega), h q (by omega)⟩
  · rintro ⟨h1, h2⟩ p hp
    by_cases e : p = q
    · subst e; exact h2
    · exact h1 p (by omega)
def ptD (xs : List Ev) (i : Nat) : Int := (xs.map Ev.pt).getD i 0
/-- the partitions in one order, up to k -/
def ord (xs ys : List Ev) (k : Nat) : Bool := decide (xs.length = ys.length ∧ ∀ i, i < k → ptD xs i = ptD ys i)
theorem ord_succ (xs ys : List Ev) (k : Nat) : ord xs ys (k + 1) = (ord xs ys k && decide (ptD xs k = ptD ys k)) := by
  unfold ord
  rw [← Bool.decide_and]
  apply decide_eq_decide.2
  constructor
  · rintro ⟨h0, h⟩
    exact ⟨⟨h0, fun p hp => h p (by omega)⟩, h k (by omega)⟩
  · rintro ⟨⟨h0, h1⟩, h2⟩
    refine ⟨h0, fun p hp => ?_⟩
    by_cases e : p = k
    · subst e; exact h2
    · exact h1 p (by omega)
/-- the theorem of the law -/
theorem parts_iff {xs ys : List Ev} (hg : ∀ x ∈ xs, 1 ≤ x.pt ∧ x.pt ≤ 32) {q : Nat} (hq1 : q ≤ xs.length) (hq2 : q ≤ ys.length) (hq3 : q = xs.length ∨ q = ys.length) : xs = ys ↔ (alk xs ys 32 = true ∧ ord xs ys q = true) := by
  constructor
  · rintro rfl
    exact ⟨by unfold alk; simp, by unfold ord; simp⟩
  · rintro ⟨h1, h2⟩
    unfold alk at h1
    unfold ord at h2
    simp only [decide_eq_true_eq] at h1 h2
    refine same_parts xs ys hg h2.1 (fun i x y hx hy => ?_) (fun p p1 p2 => ?_)
    · have hi := (List.getElem?_eq_some_iff.1 hx).1
      have := h2.2 i (by have := h2.1; omega)
      unfold ptD at this
      rw [List.getD, List.getD, List.getElem?_map, List.getElem?_map, hx, hy] at this
      exact this
    · have := h1 (p - 1) (by omega)
      rw [show ((p - 1 : Nat) : Int) + 1 = (p : Int) by omega] at this
      exact this
theorem cnt_step (xs : List Ev) (q : Nat) : cnt xs (q + 1) = cnt xs q + (prj ((q : Int) + 1) xs).length := rfl
section
variable {w : World} {a : Act} {o : Oper}
theorem er_cDif (x y : Operand) (t s : TypeId) (ho : o.op = .call { callee := .value (.func 8), args := #[x, y], argTypes := #[t, s] }) (u v : Value) (hx : a.eval x = u) (hy : a.eval y = v) : (execOp a.eval o).run Tryd.prog w = .ok (.enter 8 #[u, v]) w := by
  subst hx hy
  simp [execOp, ho, go_sem, Act.eval]
theorem er_eqI (x y : Operand) (ho : o.op = .binOp .eql 3 x y 3) (u v : Int) (c : Bool) (hx : a.eval x = .int .i64 u) (hy : a.eval y = .int .i64 v) (hc : (u == v) = c) : (execOp a.eval o).run Tryd.prog w = .ok (.value (.bool c)) w := by
  subst hc
  simp only [execOp, ho, hx, hy]; simp [go_sem]
theorem er_slT (x y : Operand) (ho : o.op = .slice 22 x none (some y) none) (g : Option Addr) (n c k : Nat) (hx : a.eval x = .slice g n c) (hy : a.eval y = .int .i64 (k : Int)) (hk : k ≤ n) (hc : n ≤ c) (hg : g = none → c = 0) : (execOp a.eval o).run Tryd.prog w = .ok (.value (.slice g k c)) w := by
  have h1 : (k : Int) ≤ (c : Int) := by omega
  simp only [execOp, ho, hx, Option.map_some, Option.map_none, hy]
  cases g with
  | none =>
    have := hg rfl
    subst this
    obtain rfl : k = 0 := by omega
    simp [go_sem]
  | some ad =>
    have h2 : k ≤ c := by omega
    simp [go_sem, h1, h2]
end
end Go.Proofs.YtdnfdnionkfamaaDoor
