/-
  'WheelForgets': plain.
-/
import Derived.Test.YtdojmmnojpeklaaWFill
namespace Go.Proofs.Ytdojmmnojpeklaa
open Go.RowKit
set_option linter.unusedVariables false

theorem rem_rem (i : Int) (L : List Fi) : rem i (rem i L) = rem i L := by
  unfold rem; rw [List.filter_filter]; simp
theorem rem_cons_id {i : Int} {x : Fi} (h : x.i = i) (L : List Fi) : rem i (x :: L) = rem i L := by
  unfold rem; rw [List.filter_cons, if_neg (by simp [h])]
theorem rem_cons_ne {i : Int} {x : Fi} (h : x.i ≠ i) (L : List Fi) : rem i (x :: L) = x :: rem i L := by
  unfold rem; rw [List.filter_cons, if_pos (by simp [h])]
theorem rem_ins (x : Fi) : ∀ L : List Fi, rem x.i (ins x L) = rem x.i L
  | [] => by unfold ins; rw [rem_cons_id rfl]
  | y :: L => by
    unfold ins
    split
    · rw [rem_cons_id rfl]
    · by_cases e : y.i = x.i
      · rw [rem_cons_id e, rem_cons_id e, rem_ins x L]
      · rw [rem_cons_ne e, rem_cons_ne e, rem_ins x L]
/-- how many bear a number -/
def cnt (i : Int) (L : List Fi) : Nat := (L.filter (fun x => x.i == i)).length
theorem cnt_snoc (i : Int) (L : List Fi) (x : Fi) : cnt i (L ++ [x]) = cnt i L + (if x.i = i then 1 else 0) := by
  unfold cnt
  rw [List.filter_append, List.length_append]
  congr 1
  by_cases e : x.i = i
  · simp [e]
  · simp [e]
theorem cnt_rem (i : Int) (L : List Fi) : cnt i (rem i L) = 0 := by
  unfold cnt rem
  rw [List.filter_filter, List.length_eq_zero_iff, List.filter_eq_nil_iff]
  intro x hx
  by_cases e : x.i = i <;> simp [e]
theorem cnt_ins (x : Fi) : ∀ L : List Fi, cnt x.i (ins x L) = cnt x.i L + 1
  | [] => by unfold ins cnt; simp
  | y :: L => by
    have ih := cnt_ins x L
    unfold ins
    split
    · unfold cnt; rw [List.filter_cons, if_pos (by simp), List.length_cons]
    · unfold cnt at *
      rw [List.filter_cons, List.filter_cons]
      split
      · rw [List.length_cons, List.length_cons, ih]
      · exact ih
theorem drop_at {L : List Fi} {j : Nat} {x : Fi} (h : L[j]? = some x) : L.drop j = x :: L.drop (j + 1) := by
  have hlt : j < L.length := by
    apply Decidable.byContradiction
    intro hn
    rw [List.getElem?_eq_none (by omega)] at h
    cases h
  rw [List.drop_eq_getElem_cons hlt]
  rw [List.getElem?_eq_getElem hlt] at h
  injection h with h
  rw [h]
/-- the two lists agree behind their places, but for one number -/
def Jn (i : Int) (l m : List Fi) (a k : Nat) : Prop := rem i (m.drop k) = rem i (l.drop a)
theorem Jn.l_id {i : Int} {l m : List Fi} {a k : Nat} {x : Fi} (h : Jn i l m a k) (hx : l[a]? = some x) (e : x.i = i) : Jn i l m (a + 1) k := by
  unfold Jn at *; rw [h, drop_at hx, rem_cons_id e]
theorem Jn.m_id {i : Int} {l m : List Fi} {a k : Nat} {x : Fi} (h : Jn i l m a k) (hx : m[k]? = some x) (e : x.i = i) : Jn i l m a (k + 1) := by
  unfold Jn at *; rw [← h, drop_at hx, rem_cons_id e]
/-- behind the skipped ones the next is the same -/
theorem Jn.next {i : Int} {l m : List Fi} {a k : Nat} {x : Fi} (h : Jn i l m a k) (hx : l[a]? = some x) (e : x.i ≠ i) (hk : ∀ y, m[k]? = some y → y.i ≠ i) : m[k]? = some x ∧ Jn i l m (a + 1) (k + 1) := by
  unfold Jn at *
  rw [drop_at hx, rem_cons_ne e] at h
  cases hm : m[k]? with
  | none =>
    exfalso
    have hlen : m.length ≤ k := by
      apply Decidable.byContradiction
      intro hn
      rw [List.getElem?_eq_getElem (by omega)] at hm
      cases hm
    rw [List.drop_eq_nil_of_le hlen] at h
    cases h
  | some y =>
    rw [drop_at hm, rem_cons_ne (hk y hm)] at h
    injection h with h1 h2
    exact ⟨by rw [h1], h2⟩
theorem Jn.done {i : Int} {l m : List Fi} {k : Nat} (h : Jn i l m l.length k) (hk : ∀ y, m[k]? = some y → y.i ≠ i) : m.length ≤ k := by
  unfold Jn at h
  rw [List.drop_eq_nil_of_le (Nat.le_refl _)] at h
  apply Decidable.byContradiction
  intro hn
  obtain ⟨y, hy⟩ : ∃ y, m[k]? = some y := ⟨_, List.getElem?_eq_getElem (by omega)⟩
  rw [drop_at hy, rem_cons_ne (hk y hy)] at h
  cases h

/-- blocks that are there -/
theorem Wh.bound {w : World} {F : Nat → Prop} {b n : Nat} {L : List Fi} (h : Wh w F b n L) : Wh w (fun k => F k ∧ k < w.heap.size) b n L := by
  obtain ⟨hn, mb, c, M, S, V, h1, h2, h3, h4⟩ := h
  exact ⟨hn, mb, c, M, S, V, h1, h2, h3, fun k hk => ⟨h4 k hk, h1.fp_lt hk⟩⟩
/-- all run out by the end -/
theorem told_all {w w' : World} {F : Nat → Prop} {b : Nat} {L : List Fi} {v : Value} (hL : ∀ x, x ∈ L → x.t < 1099511627776) (h : Told w w' F b 1099511627776 L v) : w'.ownsRow w.heap.size 32 2 v L.length (fcL L) ∧ ∃ F', Wh w' F' b 1099511627776 [] ∧ Kept F w w' ∧ (∀ k, F' k → F k ∨ w.heap.size ≤ k) ∧ ∀ g, v.ownBlock = some g → ¬ F' g := by
  obtain ⟨F', T, L', e, h1, h2, h3, h4, h5, h6, h7⟩ := h
  have : L' = [] := by
    cases L' with
    | nil => rfl
    | cons x L' =>
      have a := h2 x List.mem_cons_self
      have b := hL x (by rw [e]; exact List.mem_append_right _ List.mem_cons_self)
      omega
  subst this
  rw [List.append_nil] at e
  subst e
  exact ⟨h3, F', h4, h5, h6, h7⟩

section
variable {o : Oper} {a : Act} {w : World}
theorem er_load32b (x : Operand) (ho : o.op = .load 32 x) (g off : Nat) (u v : Value) (hx : a.eval x = .pointer (some ⟨g, off, none⟩)) (hr : w.cell? ⟨g, off, none⟩ = some u) (hs : w.cell? ⟨g, off + 1, none⟩ = some v) : (execOp a.eval o).run Try.prog w = .ok (.value (.agg #[u, v])) w := er_load32 x ho g off u v hx hr hs
theorem er_ne32 (x y : Operand) (t : TypeId) (ho : o.op = .binOp .neq 32 x y t) (u v : Int) (hx : a.eval x = .agg #[.int .i64 u, .int .i64 v]) (hy : a.eval y = .agg #[.int .i64 u, .int .i64 v]) : (execOp a.eval o).run Try.prog w = .ok (.value (.bool false)) w := by
  simp only [execOp, ho, hx, hy]
  simp [go_sem]
theorem er_len22 (x : Operand) (ho : o.op = .call { callee := .builtin .len, args := #[x], argTypes := #[22] }) (ht : o.type = 3) (p : Option Addr) (n c : Nat) (hx : a.eval x = .slice p n c) : (execOp a.eval o).run Try.prog w = .ok (.value (.int .i64 n)) w := by
  generalize a.eval = ev at hx ⊢
  simp [execOp, ho, ht, go_sem, hx]
theorem er_ge3 (x y : Operand) (t : TypeId) (ho : o.op = .binOp .geq 3 x y t) (u v : Int) (hx : a.eval x = .int .i64 u) (hy : a.eval y = .int .i64 v) : (execOp a.eval o).run Try.prog w = .ok (.value (.bool (decide (u ≥ v)))) w := by
  simp only [execOp, ho, hx, hy]; simp [go_sem]
theorem er_pk (c x y : Operand) (ho : o.op = .pick c x y) (v : Value) (hc : a.eval c = .bool false) (hy : a.eval y = v) : (execOp a.eval o).run Try.prog w = .ok (.value v) w := by
  subst hy; simp only [execOp, ho, hc]; rfl
end

end Go.Proofs.Ytdojmmnojpeklaa
