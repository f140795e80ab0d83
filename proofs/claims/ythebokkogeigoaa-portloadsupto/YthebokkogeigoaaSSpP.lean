/-
  spoilt: the lists of words of what was told; append with what it did.
-/
import Derived.Test.YthebokkogeigoaaSLeft
import Derived.Laws.OwnMore
import Derived.Maps.AppendAt
namespace Go.Proofs.Ythebokkogeigoaa
open Go.RowKit
set_option linter.unusedVariables false
set_option linter.unusedSimpArgs false
set_option maxRecDepth 100000

theorem owns_head {w : World} {B t g n q cap : Nat} {xs zs : List Value} (h : w.ownsRow B t 1 (.slice (some ⟨g, 0, none⟩) (n + q) cap) (n + q) (xs ++ zs)) (hx : xs.length = n) : w.ownsRow B t 1 (.slice (some ⟨g, 0, none⟩) n cap) n xs := by
  obtain ⟨hl, ⟨hv, h0⟩ | ⟨g', cap', cur, hv, hb, hgg, hn, hm, hs, ht⟩⟩ := h
  · cases hv
  · injection hv with h1 h2 h3
    injection h1 with h1
    injection h1 with h1
    subst h1 h3
    refine ⟨by omega, .inr ⟨g, cap, cur, rfl, hb, hgg, by omega, hm, hs, ?_⟩⟩
    have : (cur.toList.take ((n + q) * 1)).take (n * 1) = (xs ++ zs).take (n * 1) := by rw [ht]
    rw [List.take_take, Nat.min_eq_left (by omega)] at this
    rw [this, Nat.mul_one, ← hx, List.take_left]

/-- append of at least one, with what it did: in place, or in a new row and nothing else touched -/
theorem run_append_own_two {P : Program} (w : World) (t ty e : TypeId) (i : TypeInfo) (z : Value) (bytes : Nat) (ht : P.underlying t = some (.slice e)) (hi : P.info? e = some i) (hz : i.zero = some z)
    (hsize : i.size = 1) (hby : i.bytes = bytes) (hzs : z.cells.size = 1)
    (v : Value) (n : Nat) (xs : List Value) (hown : w.ownsRow 0 e 1 v n xs)
    (a : Addr) (c : Nat) (u : Value) (hnews : ∀ j x, [u][j]? = some x → w.cell? (a.add j) = some x) (h1 : ∀ x ∈ [u], x.oneCell' = true)
    (h63 : n + 1 ≤ maxLen) (hbytes : (n + 1) * bytes ≤ 140737488355328) :
    ∃ v' w', (Builtin.append_ #[t, t] ty #[v, .slice (some a) 1 c]).run P w = .ok v' w' ∧ w'.ownsRow 0 e 1 v' (n + 1) (xs ++ [u]) ∧
      ((∃ g cap, v = .slice (some ⟨g, 0, none⟩) n cap ∧ v' = .slice (some ⟨g, 0, none⟩) (n + 1) cap ∧ w.grownBy w' (some g)) ∨ (v'.ownBlock = some w.heap.size ∧ w.grownBy w' none)) := by
  obtain ⟨v', w', hr, h2, h3, h4, h5⟩ := run_append_own_at (P := P) w 0 t ty e i z 1 bytes ht hi hz hsize hby hzs (by decide) v n xs hown a 1 c [u] rfl hnews h1 h63 hbytes (Nat.zero_le _)
  refine ⟨v', w', hr, h2, ?_⟩
  have hsmall : n + 1 ≤ 9223372036854775807 := by simp only [maxLen] at h63; omega
  rcases hown.2 with ⟨rfl, rfl⟩ | ⟨g, cap, cur, rfl, hbg, hg, hnc, hcm, hcs, htake⟩
  · right
    refine ⟨?_, h3⟩
    rcases h5 with h5 | h5
    · rcases h2.2 with ⟨_, h0⟩ | ⟨g, cap, cur, rfl, _⟩
      · omega
      · simp [Value.ownBlock] at h5
    · exact h5
  · subst hby
    by_cases hroom : n + 1 ≤ cap
    · left
      have hr2 := run_append_room (P := P) w t ty e i ht hi g n cap cur hg a 1 c [u] (by rw [hsize]; rfl) hnews h1 hroom (by rw [hsize, hcs]; simp; omega)
      rw [hr] at hr2
      injection hr2 with e1 e2
      exact ⟨g, cap, rfl, e1, h3⟩
    · right
      have holds : ∀ j x, xs[j]? = some x → w.cell? ((⟨g, 0, none⟩ : Addr).add j) = some x := hown.cells (g := g) rfl
      have hr2 := run_append_grow (P := P) w t ty e i z ht hi hz ⟨g, 0, none⟩ n cap xs (by rw [hsize]; exact hown.1) holds a 1 c [u] (by rw [hsize]; rfl) hnews (by omega) (by omega) (growslice_fits (by omega) hbytes)
      rw [hr] at hr2
      injection hr2 with e1 e2
      rw [e1, e2]
      exact ⟨rfl, ⟨rfl, rfl, rfl, by simp, fun k hk _ => heap_alloc_old w.drew _ hk⟩⟩
/-- append of one word, with what it did -/
theorem wpList_app2 {w : World} {ops : Array Oper} {rest : List Oper} {o : Oper} {a : Act} {Q : Exit → Act → World → Prop} (hgd : o.guard = none) (s x : Operand)
    (ho : o.op = .call { callee := .builtin .append, args := #[s, x], argTypes := #[22, 22] }) (v : Value) (n : Nat) (us : List Value) (u : Value) (hs : a.eval s = v) (hv : w.ownsRow 0 2 1 v n us) (ad : Addr) (hx : a.eval x = .slice (some ad) 1 1) (hnews : ∀ j y, [u][j]? = some y → w.cell? (ad.add j) = some y) (h1 : ∀ y ∈ [u], y.oneCell' = true) (hn : n ≤ 2097152)
    (h : ∀ v' w', Hid (w'.ownsRow 0 2 1 v' (n + 1) (us ++ [u])) → Hid ((∃ g cap, v = .slice (some ⟨g, 0, none⟩) n cap ∧ v' = .slice (some ⟨g, 0, none⟩) (n + 1) cap ∧ w.grownBy w' (some g)) ∨ (v'.ownBlock = some w.heap.size ∧ w.grownBy w' none)) → wpList Try.prog ops Q rest (a.put o.dst v') w') : wpList Try.prog ops Q (o :: rest) a w := by
  obtain ⟨i0, hi, hz0, hz1, hz2⟩ := info_parts Try.infoW
  obtain ⟨v', w', hr, h2, h3⟩ := run_append_own_two (P := Try.prog) w 22 o.type 2 i0 (.int .i64 0) 8 Try.underlying22 hi hz0 hz1 hz2 rfl v n us hv ad 1 u hnews h1 (by unfold maxLen; omega) (by omega)
  refine BigFrame.wpList_want (by simp [Region.wanted, hgd]) fun K hK => ?_
  unfold Oper.wp
  have he : (execOp a.eval o).run Try.prog w = .ok (.value v') w' := by
    unfold execOp
    simp only [ho, resolve, invoke, builtin, Sem.run_bind, Sem.run_pure, Result.andThen_ok, List.map_toArray, List.map_cons, List.map_nil, hs, hx, hr]
  rw [he]
  exact hK _ _ (h v' w' h2 h3)
/-- append of a list of lists -/
theorem wpList_appV {w : World} {F : Nat → Prop} {ops : Array Oper} {rest : List Oper} {o : Oper} {a : Act} {Q : Exit → Act → World → Prop} (hgd : o.guard = none) (s x : Operand)
    (ho : o.op = .call { callee := .builtin .append, args := #[s, x], argTypes := #[47, 47] }) (B : Nat) (v : Value) (n : Nat) (us : List Value) (hs : a.eval s = v) (hv : w.ownsRow B 22 1 v n us) (hB : B ≤ w.heap.size) (xa : Option Addr) (m c : Nat) (vs : List Value) (hx : a.eval x = .slice xa m c) (hz : Vs w F xa m c vs) (h1 : ∀ y ∈ vs, y.oneCell' = true) (hn : n + m ≤ 1048576)
    (h : ∀ ya yc w', Hid (w'.ownsRow B 22 1 (.slice ya (n + m) yc) (n + m) (us ++ vs)) → Hid (Kept (fun k => v.ownBlock = some k) w w') → wpList Try.prog ops Q rest (a.put o.dst (.slice ya (n + m) yc)) w') : wpList Try.prog ops Q (o :: rest) a w := by
  obtain ⟨i0, hi, hz0, hz1, hz2⟩ := info_parts Try.infoL
  have fin : ∀ v' w', (Builtin.append_ #[47, 47] o.type #[v, .slice xa m c]).run Try.prog w = .ok v' w' → w'.ownsRow B 22 1 v' (n + m) (us ++ vs) → Kept (fun k => v.ownBlock = some k) w w' → wpList Try.prog ops Q (o :: rest) a w := fun v' w' hr own1 k1 => by
    obtain ⟨ya, yn, yc, rfl⟩ := own_slice own1
    have hyn : yn = n + m := by
      rcases own1.2 with ⟨h2, h3⟩ | ⟨g, cap, cur, h2, _⟩
      · injection h2 with _ h2 _; omega
      · injection h2
    subst hyn
    refine BigFrame.wpList_want (by simp [Region.wanted, hgd]) fun K hK => ?_
    unfold Oper.wp
    have he : (execOp a.eval o).run Try.prog w = .ok (.value (.slice ya (n + m) yc)) w' := by
      unfold execOp
      simp only [ho, resolve, invoke, builtin, Sem.run_bind, Sem.run_pure, Result.andThen_ok, List.map_toArray, List.map_cons, List.map_nil, hs, hx, hr]
    rw [he]
    exact hK _ _ (h ya yc w' own1 k1)
  cases xa with
  | none =>
    have hc0 := hz.nil rfl
    have hm0 : m = 0 := by have := hz.cap; omega
    have hx0 : vs = [] := List.eq_nil_of_length_eq_zero (by rw [hz.len]; exact hm0)
    subst hc0 hm0 hx0
    refine fin v w (run_append_owned_none (P := Try.prog) (w := w) B 47 o.type 22 i0 1 Try.underlying47 hi v n us hv) ?_ (Kept.refl _ _)
    rw [Nat.add_zero, List.append_nil]
    exact hv
  | some ad =>
    obtain ⟨v', w', hr, own1, grow1, _⟩ := run_append_own (P := Try.prog) w B 47 o.type 22 i0 _ 1 24 Try.underlying47 hi hz0 hz1 hz2 rfl (by decide) v n us hv ad m c vs (by rw [hz.len, Nat.mul_one]) hz.news h1 (by unfold maxLen; omega) (by omega) hB
    exact fin v' w' hr own1 (Kept.grown (Kept.refl _ _) grow1 (fun k e => .inl e))
/-- lists of words U, as far as P goes: each owned; the first k full of a mark of their own -/
def mk (j : Nat) : Value := .int .i64 (-1000 - (j : Int))
def Wo (B : Nat) (w : World) (U : List Value) (P : Nat → Prop) (k : Nat) : Prop := ∀ (j : Nat) (v : Value), P j → U[j]? = some v → ∃ m X, w.ownsRow B 2 1 v m X ∧ m ≤ 1048576 ∧ (j < k → X = List.replicate m (mk j))
def Apt (U : List Value) : Prop := ∀ (i j : Nat) (u v : Value), U[i]? = some u → U[j]? = some v → i ≠ j → Far u v
theorem Wo.kept {B : Nat} {w w' : World} {U : List Value} {P : Nat → Prop} {k : Nat} {G : Nat → Prop} (h : Wo B w U P k) (K : Kept G w w') (hG : ∀ j v, P j → U[j]? = some v → ∀ g, v.ownBlock = some g → ¬ G g) : Wo B w' U P k := fun j v hp hv => by
  obtain ⟨m, X, h1, h2⟩ := h j v hp hv
  exact ⟨m, X, K.owns h1 (hG j v hp hv), h2⟩
theorem Wo.one {B : Nat} {w : World} {U : List Value} {k i m : Nat} {v : Value} {X : List Value} (h : Wo B w U (fun j => j ≠ i) k) (hi : U[i]? = some v) (ho : w.ownsRow B 2 1 v m X) (hm : m ≤ 1048576) (hx : i < k → X = List.replicate m (mk i)) : Wo B w U (fun _ => True) k := fun j u _ hu => by
  by_cases e : j = i
  · subst e
    rw [hi] at hu
    injection hu with hu
    subst hu
    exact ⟨m, X, ho, hm, hx⟩
  · exact h j u e hu
/-- what was told, as lists of words -/
theorem Tl.flat {B : Nat} {w : World} {a : Option Addr} {n c : Nat} {it sv : Nat → Value} {ms : Nat → List Value} {ss : Nat → Ps} (h : Tl B w a n c it sv ms ss) : ∀ k, k ≤ n → (∀ (j : Nat) v, (cat (fun i => sv i :: ms i) k)[j]? = some v → ∃ i, i < k ∧ v ∈ sv i :: ms i) ∧ Apt (cat (fun i => sv i :: ms i) k) := by
  intro k
  induction k with
  | zero => intro _; exact ⟨fun j v hv => (by cases hv), fun i j u v hu => (by cases hu)⟩
  | succ k ih =>
    intro hk
    obtain ⟨h1, h2⟩ := ih (by omega)
    have inr : ∀ (j : Nat) v, (cat (fun i => sv i :: ms i) (k + 1))[j]? = some v → ((cat (fun i => sv i :: ms i) k)[j]? = some v) ∨ ((cat (fun i => sv i :: ms i) k).length ≤ j ∧ (sv k :: ms k)[j - (cat (fun i => sv i :: ms i) k).length]? = some v) := fun j v hv => by
      rw [cat] at hv
      by_cases hj : j < (cat (fun i => sv i :: ms i) k).length
      · rw [List.getElem?_append_left hj] at hv
        exact .inl hv
      · rw [List.getElem?_append_right (by omega)] at hv
        exact .inr ⟨by omega, hv⟩
    refine ⟨fun j v hv => ?_, fun i j u v hu hv hij => ?_⟩
    · rcases inr j v hv with h3 | ⟨_, h3⟩
      · obtain ⟨i, hi, hm⟩ := h1 j v h3
        exact ⟨i, by omega, hm⟩
      · exact ⟨k, by omega, List.mem_of_getElem? h3⟩
    · have cross : ∀ (x y : Nat) u v, (cat (fun i => sv i :: ms i) k)[x]? = some u → v ∈ sv k :: ms k → Far u v := fun x y u v hu hv => by
        obtain ⟨i, hi, hm⟩ := h1 x u hu
        exact h.far i k (by omega) (by omega) (by omega) u hm v hv
      rcases inr i u hu with h3 | ⟨g3, h3⟩
      · rcases inr j v hv with h4 | ⟨g4, h4⟩
        · exact h2 i j u v h3 h4 hij
        · exact cross i j u v h3 (List.mem_of_getElem? h4)
      · rcases inr j v hv with h4 | ⟨g4, h4⟩
        · exact (cross j i v u h4 (List.mem_of_getElem? h3)).symm
        · have tv := h.each k (by omega)
          obtain ⟨x, ex⟩ : ∃ x, x = i - (cat (fun i => sv i :: ms i) k).length := ⟨_, rfl⟩
          obtain ⟨y, ey⟩ : ∃ y, y = j - (cat (fun i => sv i :: ms i) k).length := ⟨_, rfl⟩
          have hxy : x ≠ y := by omega
          rw [← ex] at h3
          rw [← ey] at h4
          cases x with
          | zero =>
            cases y with
            | zero => exact absurd rfl hxy
            | succ y =>
              simp at h3 h4
              subst h3
              exact (tv.sfar v (List.mem_of_getElem? h4)).symm
          | succ x =>
            cases y with
            | zero =>
              simp at h3 h4
              subst h4
              exact tv.sfar u (List.mem_of_getElem? h3)
            | succ y =>
              simp at h3 h4
              exact tv.far x y u v h3 h4 (by omega)
theorem Tl.wo {B : Nat} {w : World} {a : Option Addr} {n c : Nat} {it sv : Nat → Value} {ms : Nat → List Value} {ss : Nat → Ps} (h : Tl B w a n c it sv ms ss) (hs : ∀ i, i < n → (ss i).d.length ≤ 1048576 ∧ ∀ x, x ∈ (ss i).q → x.length ≤ 1048576) : Wo B w (cat (fun i => sv i :: ms i) n) (fun _ => True) 0 := fun j v _ hv => by
  obtain ⟨i, hi, hm⟩ := (h.flat n (Nat.le_refl _)).1 j v hv
  have tv := h.each i hi
  rcases List.mem_cons.1 hm with rfl | hm
  · exact ⟨_, _, tv.smp, (hs i hi).1, fun e => by omega⟩
  · obtain ⟨y, hy, ey⟩ := List.mem_iff_getElem.1 hm
    have hx : (ss i).q[y]? = some ((ss i).q[y]'(by rw [tv.len]; exact hy)) := List.getElem?_eq_getElem _
    exact ⟨_, _, tv.msg y v _ (by rw [List.getElem?_eq_getElem hy, ey]) hx, (hs i hi).2 _ (List.mem_of_getElem? hx), fun e => by omega⟩
end Go.Proofs.Ythebokkogeigoaa
