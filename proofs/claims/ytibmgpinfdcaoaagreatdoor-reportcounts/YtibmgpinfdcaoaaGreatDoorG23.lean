/-
  One text: OWith, OCycle.
-/
import Derived.Test.YtibmgpinfdcaoaaGreatDoorG22
namespace Go.Proofs.YtibmgpinfdcaoaaGreatDoor
open Go.RowKit Go.Shelf Plain
attribute [local go_sem] Oper.semAt_some
set_option linter.unusedVariables false
set_option maxRecDepth 100000

/-- the ticks by which a span lies behind what is played -/
def mv (H fr : Nat) : Nat := fr - Rule.fold H fr
theorem mv_add (H fr : Nat) (h : 1 ≤ H) : mv H fr + Rule.fold H fr = fr ∧ Rule.fold H fr < 2 * H ∧ (0 < mv H fr → H ≤ Rule.fold H fr) ∧ ∃ k, mv H fr = k * H := by
  unfold mv Rule.fold
  by_cases hlt : fr < H
  · rw [if_pos hlt]
    exact ⟨by omega, by omega, by omega, 0, by omega⟩
  · rw [if_neg hlt]
    have h1 := Nat.mod_lt fr (show H > 0 by omega)
    have h2 := Nat.div_add_mod fr H
    have h3 : 1 ≤ fr / H := (Nat.le_div_iff_mul_le (by omega)).2 (by omega)
    have h4 : H ≤ H * (fr / H) := Nat.le_mul_of_pos_right H (by omega)
    refine ⟨by omega, by omega, by omega, fr / H - 1, ?_⟩
    rw [Nat.sub_mul, Nat.mul_comm (fr / H) H]
    omega

/-- the same, and no panic -/
def calm (Q : Exit → Act → World → Prop) : Exit → Act → World → Prop
  | .panic _, _, _ => False
  | .normal, a, w => Q .normal a w
  | .ret, a, w => Q .ret a w
  | .exit i, a, w => Q (.exit i) a w
  | .goto i, a, w => Q (.goto i) a w
  | .outgrown, a, w => Q .outgrown a w
theorem calm_imp (Q : Exit → Act → World → Prop) : ∀ e a w, calm Q e a w → Q e a w := by
  intro e a w h
  cases e with
  | panic c => exact h.elim
  | normal => exact h
  | ret => exact h
  | exit i => exact h
  | goto i => exact h
  | outgrown => exact h

/-- what stands in the boxes of within -/
structure Wb (W : World) (a : Option Addr) (n c H fr below b0 b1 b2 : Nat) : Prop where
  s0 : W.cell? ⟨b0, 0, none⟩ = some (.slice a n c)
  s1 : W.cell? ⟨b1, 0, none⟩ = some (.int .i64 H)
  s2 : W.cell? ⟨b2, 0, none⟩ = some (.int .i64 fr)
  s3 : W.cell? ⟨b2, 1, none⟩ = some (.int .i64 below)
theorem Wb.kept {W W' : World} {a : Option Addr} {n c H fr below b0 b1 b2 : Nat} {S : Nat → Prop} (h : Wb W a n c H fr below b0 b1 b2) (hk : Kept S W W') (n0 : ¬ S b0) (n1 : ¬ S b1) (n2 : ¬ S b2) : Wb W' a n c H fr below b0 b1 b2 :=
  ⟨hk.cell h.s0 n0, hk.cell h.s1 n1, hk.cell h.s2 n2, hk.cell h.s3 n2⟩

theorem wbox1 {W w1 : World} {y v u : Value} {ty : TypeId} (hk : Kept No W w1) (hy : w1.heap[W.heap.size]? = some (.cells #[y] ty)) (hs : w1.heap.size = W.heap.size + 1) :
    ∃ B5 B6, Value.pointer (some ⟨w1.heap.size, 0, none⟩) = .pointer (some ⟨B5, 0, none⟩) ∧ Value.pointer (some ⟨w1.heap.size + 1, 0, none⟩) = .pointer (some ⟨B6, 0, none⟩) ∧ (((w1.alloc (.cells #[v] 3)).alloc (.cells #[u] 3)).drew).heap[W.heap.size]? = some (.cells #[y] ty) ∧ (((w1.alloc (.cells #[v] 3)).alloc (.cells #[u] 3)).drew).heap[B5]? = some (.cells #[v] 3) ∧ (((w1.alloc (.cells #[v] 3)).alloc (.cells #[u] 3)).drew).heap[B6]? = some (.cells #[u] 3) ∧ W.heap.size < B5 ∧ W.heap.size < B6 ∧ B5 ≠ B6 ∧ Kept No W (((w1.alloc (.cells #[v] 3)).alloc (.cells #[u] 3)).drew) := by
  obtain ⟨e1, e2⟩ := heap_alloc2 (w := w1) (o1 := .cells #[v] 3) (o2 := .cells #[u] 3)
  refine ⟨_, _, rfl, rfl, ?_, e1, e2, by omega, by omega, by omega, ((hk.alloc _).alloc _).drew⟩
  exact (Below.heap_alloc _ _ _ (by simp; omega)).trans ((Below.heap_alloc _ _ _ (by omega)).trans hy)
theorem wbox2 {W w1 : World} {y v u : Value} {ty : TypeId} (hk : Kept No W w1) (hy : w1.heap[W.heap.size]? = some (.cells #[y] ty)) (hs : w1.heap.size = W.heap.size + 1) :
    ∃ B5 B6, Value.pointer (some ⟨w1.heap.size + 1, 0, none⟩) = .pointer (some ⟨B5, 0, none⟩) ∧ Value.pointer (some ⟨w1.heap.size, 0, none⟩) = .pointer (some ⟨B6, 0, none⟩) ∧ (((w1.alloc (.cells #[u] 3)).alloc (.cells #[v] 3)).drew).heap[W.heap.size]? = some (.cells #[y] ty) ∧ (((w1.alloc (.cells #[u] 3)).alloc (.cells #[v] 3)).drew).heap[B5]? = some (.cells #[v] 3) ∧ (((w1.alloc (.cells #[u] 3)).alloc (.cells #[v] 3)).drew).heap[B6]? = some (.cells #[u] 3) ∧ W.heap.size < B5 ∧ W.heap.size < B6 ∧ B5 ≠ B6 ∧ Kept No W (((w1.alloc (.cells #[u] 3)).alloc (.cells #[v] 3)).drew) := by
  obtain ⟨e1, e2⟩ := heap_alloc2 (w := w1) (o1 := .cells #[u] 3) (o2 := .cells #[v] 3)
  refine ⟨_, _, rfl, rfl, ?_, e2, e1, by omega, by omega, by omega, ((hk.alloc _).alloc _).drew⟩
  exact (Below.heap_alloc _ _ _ (by simp; omega)).trans ((Below.heap_alloc _ _ _ (by omega)).trans hy)
theorem if_mn3 (H b n : Nat) (h : n ≤ b) : ∃ z : Nat, min (2 * (H : Int)) ((b : Int) - (n : Int)) = (z : Int) ∧ z ≤ 2 * H ∧ n + z ≤ b ∧ (z = 2 * H ∨ n + z = b) := by
  by_cases h : 2 * (H : Int) ≤ (b : Int) - (n : Int)
  · exact ⟨2 * H, by rw [Int.min_def, if_pos h]; omega, by omega, by omega, .inl rfl⟩
  · exact ⟨b - n, by rw [Int.min_def, if_neg h]; omega, by omega, by omega, .inr (by omega)⟩

/-- the loop of within: how far it has come of what is played, the boxes of yield, of now and of moved -/
def And3 (S : Nat → Prop) (b c d : Nat) : Nat → Prop := fun k => S k ∨ k = b ∨ k = c ∨ k = d
def WI (J : St) (fr M By B5 B6 : Nat) (y : Value) (ty : TypeId) : St := fun q W S => ∃ (S1 : Nat → Prop) (now : Nat), S = And3 S1 By B5 B6 ∧ (now = fr ∧ M + q ≤ fr ∨ now = M + q ∧ fr ≤ M + q) ∧ J now W S1 ∧ ¬ S1 By ∧ ¬ S1 B5 ∧ ¬ S1 B6 ∧ W.heap[By]? = some (.cells #[y] ty) ∧ W.heap[B5]? = some (.cells #[.int .i64 now] 3) ∧ W.heap[B6]? = some (.cells #[.int .i64 M] 3)
def WX (J : St) (By B5 B6 : Nat) : Code → St := fun c q W S => c = .ret ∧ ∃ S1 q', S = And3 S1 By B5 B6 ∧ J q' W S1 ∧ By < W.heap.size ∧ B5 < W.heap.size ∧ B6 < W.heap.size
theorem WI.hangs {J : St} (hJ : Hangs J) (fr M By B5 B6 : Nat) (y : Value) (ty : TypeId) : Hangs (WI J fr M By B5 B6 y ty) := by
  refine ⟨?_, ?_⟩
  · rintro q W S ⟨S1, now, rfl, hn, hj, n1, n2, n3, e1, e2, e3⟩ k (hk | hk | hk | hk)
    · exact hJ.old _ _ _ hj k hk
    · subst hk; exact heap_lt e1
    · subst hk; exact heap_lt e2
    · subst hk; exact heap_lt e3
  · rintro q W W' S ⟨S1, now, rfl, hn, hj, n1, n2, n3, e1, e2, e3⟩ hs hk
    exact ⟨S1, now, rfl, hn, hJ.kept _ W W' S1 hj hs (fun k h => hk k (.inl h)), n1, n2, n3, (hk _ (.inr (.inl rfl))).trans e1, (hk _ (.inr (.inr (.inl rfl)))).trans e2, (hk _ (.inr (.inr (.inr rfl)))).trans e3⟩
theorem WX.hangs {J : St} (hJ : Hangs J) (By B5 B6 : Nat) (c : Code) : Hangs (WX J By B5 B6 c) := by
  refine ⟨?_, ?_⟩
  · rintro q W S ⟨rfl, S1, q', rfl, hj, e1, e2, e3⟩ k (hk | hk | hk | hk)
    · exact hJ.old _ _ _ hj k hk
    · omega
    · omega
    · omega
  · rintro q W W' S ⟨rfl, S1, q', rfl, hj, e1, e2, e3⟩ hs hk
    exact ⟨rfl, S1, q', rfl, hJ.kept _ W W' S1 hj hs (fun k h => hk k (.inl h)), by omega, by omega, by omega⟩

theorem and3_more {S1 S3 : Nat → Prop} {W : World} {b c d : Nat} (h : More S1 W S3) : More (And3 S1 b c d) W (And3 S3 b c d) := by
  rintro k (hk | hk | hk | hk)
  · rcases h k hk with h' | h'
    · exact .inl (.inl h')
    · exact .inr h'
  · exact .inl (.inr (.inl hk))
  · exact .inl (.inr (.inr (.inl hk)))
  · exact .inl (.inr (.inr (.inr hk)))
theorem wi_next {J : St} {fr M By B5 B6 q len : Nat} {y : Value} {ty : TypeId} {W w3 : World} {S1 S3 : Nat → Prop} {u : Value} (hJ : Hangs J) (hk : Kept S1 W w3) (hm : More S1 W S3) (hj : J (M + q + len) w3 S3)
    (e1 : W.heap[By]? = some (.cells #[y] ty)) (e2 : W.heap[B5]? = some (.cells #[u] 3)) (e3 : W.heap[B6]? = some (.cells #[.int .i64 M] 3)) (n1 : ¬ S1 By) (n2 : ¬ S1 B5) (n3 : ¬ S1 B6) (h56 : B5 ≠ B6) (h5 : By ≠ B5) (h6 : By ≠ B6) (hle : fr ≤ M + (q + len)) :
    ∃ S', Kept (And3 S1 By B5 B6) W (w3.setCell ⟨B5, 0, none⟩ (.int .i64 ((M : Int) + q + len))) ∧ More (And3 S1 By B5 B6) W S' ∧ WI J fr M By B5 B6 y ty (q + len) (w3.setCell ⟨B5, 0, none⟩ (.int .i64 ((M : Int) + q + len))) S' := by
  have nn : ∀ b, ¬ S1 b → b < W.heap.size → ¬ S3 b := fun b hn hl h => by
    rcases hm b h with h' | h'
    · exact hn h'
    · omega
  have m1 := nn By n1 (heap_lt e1)
  have m2 := nn B5 n2 (heap_lt e2)
  have m3 := nn B6 n3 (heap_lt e3)
  have hb5 := hk.at' e2 n2
  refine ⟨And3 S3 By B5 B6, ?_, and3_more hm, S3, M + (q + len), rfl, .inr ⟨rfl, hle⟩, ?_, m1, m2, m3, ?_, ?_, ?_⟩
  · exact (hk.mono (G := And3 S1 By B5 B6) (fun k h => .inl h)).setCell (p := ⟨B5, 0, none⟩) (.inl (.inr (.inr (.inl rfl)))) _
  · rw [← Nat.add_assoc]
    exact hJ.kept _ w3 _ _ hj (by simp [World.setCell]) (fun k hs => Below.heap_setCell _ _ _ _ (fun e => m2 (by rw [← show k = B5 from e]; exact hs)))
  · exact (Below.heap_setCell _ _ _ _ h5).trans (hk.at' e1 n1)
  · have : (w3.setCell ⟨B5, 0, none⟩ (.int .i64 ((M : Int) + q + len))).heap[B5]? = some (.cells #[.int .i64 ((M : Int) + q + len)] 3) := Boxed.set (t := 3) (v := u) _ hb5
    have e : ((M + (q + len) : Nat) : Int) = (M : Int) + q + len := by omega
    rw [this, e]
  · exact (Below.heap_setCell _ _ _ _ (Ne.symm h56)).trans (hk.at' e3 n3)

theorem within_mid {W wc w2 W2 : World} {S S1 : Nat → Prop} {By B5 B6 : Nat} (k1 : Kept No W wc) (k2 : Kept No wc w2) (hk : Kept (And3 S By B5 B6) w2 W2) (hm : More (And3 S By B5 B6) w2 (And3 S1 By B5 B6)) (h1 : W.heap.size ≤ By) (h2 : W.heap.size ≤ B5) (h3 : W.heap.size ≤ B6) :
    Kept S W W2 ∧ More S W S1 := by
  have k3 : Kept S W w2 := (k1.trans k2 (fun _ h => h.elim)).mono (fun _ h => h.elim)
  refine ⟨k3.trans hk (fun k h => ?_), fun k h => ?_⟩
  · rcases h with h | h | h | h
    · exact .inl h
    · exact .inr (by omega)
    · exact .inr (by omega)
    · exact .inr (by omega)
  · rcases hm k (.inl h) with h' | h'
    · rcases h' with h' | h' | h' | h'
      · exact .inl h'
      · exact .inr (by omega)
      · exact .inr (by omega)
      · exact .inr (by omega)
    · exact .inr (by have := k3.size; omega)
theorem within_end {I : St} {W wc w2 W2 : World} {S S1 : Nat → Prop} {By B5 B6 q D : Nat} {o' : Obj} (k1 : Kept No W wc) (k2 : Kept No wc w2) (hk : Kept (And3 S By B5 B6) w2 W2) (hm : More (And3 S By B5 B6) w2 (And3 S1 By B5 B6)) (hI : Hangs I) (hi : I q W2 S1) (h1 : W.heap.size ≤ By) (h2 : W.heap.size ≤ B5) (h3 : W.heap.size ≤ B6) (hD : ¬ And3 S1 By B5 B6 D) (hD2 : wc.heap.size ≤ D) :
    Kept S W (W2.putObj D o') ∧ More S W S1 ∧ I q (W2.putObj D o') S1 := by
  obtain ⟨k3, m3⟩ := within_mid k1 k2 hk hm h1 h2 h3
  exact ⟨k3.trans (kept_put (S := fun k => k = D) o' rfl) (fun k h => .inr (by have := k1.size; omega)), m3, hI.put hi _ (fun h => hD (.inl h))⟩

theorem er_cv {o : Oper} {ac : Act} {w : World} (x y : Operand) (ts : Array TypeId) (ho : o.op = .call { callee := .value x, args := #[y], argTypes := ts }) (f : Nat) (lb : Array Value) (v : Value) (hx : ac.eval x = .func (.func f) #[] lb) (hy : ac.eval y = v) (eg : ∀ args w, (callFunc f args).run Tryz.prog w = .ok (.enter f args) w) : (execOp ac.eval o).run Tryz.prog w = .ok (.enter f (#[v] ++ lb)) w := by
  generalize ac.eval = ev at hx hy ⊢
  simp [execOp, ho, go_sem, resolve, hx, hy, eg]
theorem turn_of {xs : List Srv} (hv : Vd xs) {H now k : Nat} (hH : hyp xs = H) (hk : now = k * H) (h2 : 2 ≤ k) : Turn (Rule.occ (sys xs)) H now (Rule.runsOf (Rule.occ (sys xs)) H H) := by
  have hd : ∀ i, i < (sys xs).n → (sys xs).P i ∣ H := fun i hi => by rw [← hH]; exact hv.dvd i hi
  have h1 : 1 ≤ H := by rw [← hH]; exact hv.hyp1
  have key : ∀ u, Rule.occ (sys xs) (now + u) = Rule.occ (sys xs) (H + u) := fun u => by
    have := Rule.again_mul hv.bd.ok hd (H + u) (by omega) (k - 1)
    rw [← this]
    congr 1
    rw [hk, Nat.sub_mul]
    have : H ≤ k * H := Nat.le_mul_of_pos_left H (by omega)
    omega
  refine ⟨⟨(Rule.runsOf_tile _ H H).sum, (Rule.runsOf_tile _ H H).pos, fun i x hx u a b => ?_⟩, fun u => ?_, h1⟩
  · show Rule.occ (sys xs) (now + (0 + u)) = x.2
    rw [Nat.zero_add, key]
    exact (Rule.runsOf_tile _ H H).at' i x hx u a b
  · rw [key, key]
    have h3 := Nat.div_add_mod u H
    have := Rule.again_mul hv.bd.ok hd (H + u % H) (by omega) (u / H)
    rw [← this]
    congr 1
    rw [Nat.mul_comm]
    omega

end Go.Proofs.YtibmgpinfdcaoaaGreatDoor

namespace Go.Proofs.YtibmgpinfdcaoaaGreatDoor
open Go.RowKit Go.Shelf Plain
set_option linter.unusedVariables false
set_option maxRecDepth 100000

/-- the world behind within's call -/
def wW (w : World) (a : Option Addr) (n c : Nat) (t u v : Int) : World := ((w.alloc (.cells #[.slice a n c] 22)).alloc (.cells #[.int .i64 t] 3)).alloc (.cells #[.int .i64 u, .int .i64 v] 60)
def wlb (w : World) : Array Value := #[.pointer (some ⟨w.heap.size + 2, 0, none⟩), .pointer (some ⟨w.heap.size + 1, 0, none⟩), .pointer (some ⟨w.heap.size, 0, none⟩)]
theorem wW_kept (w : World) (a : Option Addr) (n c : Nat) (t u v : Int) : Kept No w (wW w a n c t u v) := (((Kept.refl No w).alloc _).alloc _).alloc _
theorem wW_size (w : World) (a : Option Addr) (n c : Nat) (t u v : Int) : (wW w a n c t u v).heap.size = w.heap.size + 3 := by simp [wW]
theorem wW_at (w : World) (a : Option Addr) (n c : Nat) (t u v : Int) : (wW w a n c t u v).heap[w.heap.size]? = some (.cells #[.slice a n c] 22) ∧ (wW w a n c t u v).heap[w.heap.size + 1]? = some (.cells #[.int .i64 t] 3) ∧ (wW w a n c t u v).heap[w.heap.size + 2]? = some (.cells #[.int .i64 u, .int .i64 v] 60) := by
  obtain ⟨e1, e2⟩ := heap_alloc2 (w := w) (o1 := .cells #[.slice a n c] 22) (o2 := .cells #[.int .i64 t] 3)
  refine ⟨(Below.heap_alloc _ _ _ (by simp <;> omega)).trans e1, (Below.heap_alloc _ _ _ (by simp <;> omega)).trans e2, ?_⟩
  have := World.alloc_heap_new ((w.alloc (.cells #[.slice a n c] 22)).alloc (.cells #[.int .i64 t] 3)) (.cells #[.int .i64 u, .int .i64 v] 60)
  simp only [World.size_alloc] at this
  exact this

theorem ow_same {w W : World} {base : Nat} {v : Value} {L : List (Nat × Nat)} (h : Ow w base v L) (hk : ∀ g, v.ownBlock = some g → W.heap[g]? = w.heap[g]?) : Ow W base v L := by
  obtain ⟨hl, h1 | ⟨g, cap, cur, hv, hb, hg, r⟩⟩ := h
  · exact ⟨hl, .inl h1⟩
  · exact ⟨hl, .inr ⟨g, cap, cur, hv, hb, (hk g (by rw [hv]; rfl)).trans hg, r⟩⟩
theorem runs_bound (f : Nat → Nat) (a0 m x : Nat) (hm : m ≤ 1099511627776) (hx : x ≤ 1099511627776) : ∀ y ∈ Rule.runsOf f a0 m, y.1 + x ≤ 4611686018427387904 := fun y hy => by
  have := (Rule.runsOf_tile f a0 m).elt hy
  omega

theorem ow_slice {w : World} {base : Nat} {v : Value} {L : List (Nat × Nat)} (h : Ow w base v L) : ∃ a n c, v = .slice a n c := by
  obtain ⟨_, ⟨h, _⟩ | ⟨g, cap, cur, h, _⟩⟩ := h
  · exact ⟨_, _, _, h⟩
  · exact ⟨_, _, _, h⟩
theorem joined_kept {w w0 w1 : World} {F : Nat → Prop} (h : Kept No w w0) (k : Kept F w0 w1) : Kept F w w1 := (h.mono (fun _ h => h.elim)).trans k (fun _ h => .inl h)

theorem or_false3 {p : Prop} (h : p ∨ ∃ q : Nat, False) : p := by
  rcases h with h | ⟨q, h⟩
  · exact h
  · exact h.elim
theorem hangs_false : Hangs (fun _ _ _ => False) := ⟨fun _ _ _ h => h.elim, fun _ _ _ _ h => h.elim⟩
end Go.Proofs.YtibmgpinfdcaoaaGreatDoor
