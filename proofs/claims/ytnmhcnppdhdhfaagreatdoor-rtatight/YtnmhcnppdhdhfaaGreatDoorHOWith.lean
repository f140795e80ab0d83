/-
  One text: OWith.
-/
import Derived.Test.YtnmhcnppdhdhfaaGreatDoorG27
import Derived.Test.YtnmhcnppdhdhfaaGreatDoorG30
namespace Go.Proofs.YtnmhcnppdhdhfaaGreatDoor
open Go.RowKit Go.Shelf Plain
attribute [local go_sem] Oper.semAt_some
set_option linter.unusedVariables false
set_option maxRecDepth 100000

/-- the ticks by which a span lies behind what is played -/
def mv (H fr : Nat) : Nat := fr - Rule.fold H fr
theorem mv_add (H fr : Nat) (h : 1 ≤ H) : mv H fr + Rule.fold H fr = fr ∧ Rule.fold H fr < 2 * H ∧ (0 < mv H fr → H ≤ Rule.fold H fr) ∧ ∃ k, mv H fr = k * H := by
  unfold mv Rule.fold
  by_cases hlt : fr < H
  · rw [if_pos hlt]
    exact ⟨by omega, by omega, by omega, 0, by omega⟩
  · rw [if_neg hlt]
    have h1 := Nat.mod_lt fr (show H > 0 by omega)
    have h2 := Nat.div_add_mod fr H
    have h3 : 1 ≤ fr / H := (Nat.le_div_iff_mul_le (by omega)).2 (by omega)
    have h4 : H ≤ H * (fr / H) := Nat.le_mul_of_pos_right H (by omega)
    refine ⟨by omega, by omega, by omega, fr / H - 1, ?_⟩
    rw [Nat.sub_mul, Nat.mul_comm (fr / H) H]
    omega

/-- the same, and no panic -/
def calm (Q : Exit → Act → World → Prop) : Exit → Act → World → Prop
  | .panic _, _, _ => False
  | .normal, a, w => Q .normal a w
  | .ret, a, w => Q .ret a w
  | .exit i, a, w => Q (.exit i) a w
  | .goto i, a, w => Q (.goto i) a w
  | .outgrown, a, w => Q .outgrown a w
theorem calm_imp (Q : Exit → Act → World → Prop) : ∀ e a w, calm Q e a w → Q e a w := by
  intro e a w h
  cases e with
  | panic c => exact h.elim
  | normal => exact h
  | ret => exact h
  | exit i => exact h
  | goto i => exact h
  | outgrown => exact h

/-- what stands in the boxes of within -/
structure Wb (W : World) (a : Option Addr) (n c H fr below b0 b1 b2 : Nat) : Prop where
  s0 : W.cell? ⟨b0, 0, none⟩ = some (.slice a n c)
  s1 : W.cell? ⟨b1, 0, none⟩ = some (.int .i64 H)
  s2 : W.cell? ⟨b2, 0, none⟩ = some (.int .i64 fr)
  s3 : W.cell? ⟨b2, 1, none⟩ = some (.int .i64 below)
theorem Wb.kept {W W' : World} {a : Option Addr} {n c H fr below b0 b1 b2 : Nat} {S : Nat → Prop} (h : Wb W a n c H fr below b0 b1 b2) (hk : Kept S W W') (n0 : ¬ S b0) (n1 : ¬ S b1) (n2 : ¬ S b2) : Wb W' a n c H fr below b0 b1 b2 :=
  ⟨hk.cell h.s0 n0, hk.cell h.s1 n1, hk.cell h.s2 n2, hk.cell h.s3 n2⟩

theorem wbox1 {W w1 : World} {y v u : Value} {ty : TypeId} (hk : Kept No W w1) (hy : w1.heap[W.heap.size]? = some (.cells #[y] ty)) (hs : w1.heap.size = W.heap.size + 1) :
    ∃ B5 B6, Value.pointer (some ⟨w1.heap.size, 0, none⟩) = .pointer (some ⟨B5, 0, none⟩) ∧ Value.pointer (some ⟨w1.heap.size + 1, 0, none⟩) = .pointer (some ⟨B6, 0, none⟩) ∧ (((w1.alloc (.cells #[v] 3)).alloc (.cells #[u] 3)).drew).heap[W.heap.size]? = some (.cells #[y] ty) ∧ (((w1.alloc (.cells #[v] 3)).alloc (.cells #[u] 3)).drew).heap[B5]? = some (.cells #[v] 3) ∧ (((w1.alloc (.cells #[v] 3)).alloc (.cells #[u] 3)).drew).heap[B6]? = some (.cells #[u] 3) ∧ W.heap.size < B5 ∧ W.heap.size < B6 ∧ B5 ≠ B6 ∧ Kept No W (((w1.alloc (.cells #[v] 3)).alloc (.cells #[u] 3)).drew) := by
  obtain ⟨e1, e2⟩ := heap_alloc2 (w := w1) (o1 := .cells #[v] 3) (o2 := .cells #[u] 3)
  refine ⟨_, _, rfl, rfl, ?_, e1, e2, by omega, by omega, by omega, ((hk.alloc _).alloc _).drew⟩
  exact (Below.heap_alloc _ _ _ (by simp; omega)).trans ((Below.heap_alloc _ _ _ (by omega)).trans hy)
theorem wbox2 {W w1 : World} {y v u : Value} {ty : TypeId} (hk : Kept No W w1) (hy : w1.heap[W.heap.size]? = some (.cells #[y] ty)) (hs : w1.heap.size = W.heap.size + 1) :
    ∃ B5 B6, Value.pointer (some ⟨w1.heap.size + 1, 0, none⟩) = .pointer (some ⟨B5, 0, none⟩) ∧ Value.pointer (some ⟨w1.heap.size, 0, none⟩) = .pointer (some ⟨B6, 0, none⟩) ∧ (((w1.alloc (.cells #[u] 3)).alloc (.cells #[v] 3)).drew).heap[W.heap.size]? = some (.cells #[y] ty) ∧ (((w1.alloc (.cells #[u] 3)).alloc (.cells #[v] 3)).drew).heap[B5]? = some (.cells #[v] 3) ∧ (((w1.alloc (.cells #[u] 3)).alloc (.cells #[v] 3)).drew).heap[B6]? = some (.cells #[u] 3) ∧ W.heap.size < B5 ∧ W.heap.size < B6 ∧ B5 ≠ B6 ∧ Kept No W (((w1.alloc (.cells #[u] 3)).alloc (.cells #[v] 3)).drew) := by
  obtain ⟨e1, e2⟩ := heap_alloc2 (w := w1) (o1 := .cells #[u] 3) (o2 := .cells #[v] 3)
  refine ⟨_, _, rfl, rfl, ?_, e2, e1, by omega, by omega, by omega, ((hk.alloc _).alloc _).drew⟩
  exact (Below.heap_alloc _ _ _ (by simp; omega)).trans ((Below.heap_alloc _ _ _ (by omega)).trans hy)
theorem if_mn3 (H b n : Nat) (h : n ≤ b) : ∃ z : Nat, min (2 * (H : Int)) ((b : Int) - (n : Int)) = (z : Int) ∧ z ≤ 2 * H ∧ n + z ≤ b ∧ (z = 2 * H ∨ n + z = b) := by
  by_cases h : 2 * (H : Int) ≤ (b : Int) - (n : Int)
  · exact ⟨2 * H, by rw [Int.min_def, if_pos h]; omega, by omega, by omega, .inl rfl⟩
  · exact ⟨b - n, by rw [Int.min_def, if_neg h]; omega, by omega, by omega, .inr (by omega)⟩

/-- the loop of within: how far it has come of what is played, the boxes of yield, of now and of moved -/
def And3 (S : Nat → Prop) (b c d : Nat) : Nat → Prop := fun k => S k ∨ k = b ∨ k = c ∨ k = d
def WI (J : St) (fr M By B5 B6 : Nat) (y : Value) (ty : TypeId) : St := fun q W S => ∃ (S1 : Nat → Prop) (now : Nat), S = And3 S1 By B5 B6 ∧ (now = fr ∧ M + q ≤ fr ∨ now = M + q ∧ fr ≤ M + q) ∧ J now W S1 ∧ ¬ S1 By ∧ ¬ S1 B5 ∧ ¬ S1 B6 ∧ W.heap[By]? = some (.cells #[y] ty) ∧ W.heap[B5]? = some (.cells #[.int .i64 now] 3) ∧ W.heap[B6]? = some (.cells #[.int .i64 M] 3)
def WX (J : St) (By B5 B6 : Nat) : Code → St := fun c q W S => c = .ret ∧ ∃ S1 q', S = And3 S1 By B5 B6 ∧ J q' W S1 ∧ By < W.heap.size ∧ B5 < W.heap.size ∧ B6 < W.heap.size
theorem WI.hangs {J : St} (hJ : Hangs J) (fr M By B5 B6 : Nat) (y : Value) (ty : TypeId) : Hangs (WI J fr M By B5 B6 y ty) := by
  refine ⟨?_, ?_⟩
  · rintro q W S ⟨S1, now, rfl, hn, hj, n1, n2, n3, e1, e2, e3⟩ k (hk | hk | hk | hk)
    · exact hJ.old _ _ _ hj k hk
    · subst hk; exact heap_lt e1
    · subst hk; exact heap_lt e2
    · subst hk; exact heap_lt e3
  · rintro q W W' S ⟨S1, now, rfl, hn, hj, n1, n2, n3, e1, e2, e3⟩ hs hk
    exact ⟨S1, now, rfl, hn, hJ.kept _ W W' S1 hj hs (fun k h => hk k (.inl h)), n1, n2, n3, (hk _ (.inr (.inl rfl))).trans e1, (hk _ (.inr (.inr (.inl rfl)))).trans e2, (hk _ (.inr (.inr (.inr rfl)))).trans e3⟩
theorem WX.hangs {J : St} (hJ : Hangs J) (By B5 B6 : Nat) (c : Code) : Hangs (WX J By B5 B6 c) := by
  refine ⟨?_, ?_⟩
  · rintro q W S ⟨rfl, S1, q', rfl, hj, e1, e2, e3⟩ k (hk | hk | hk | hk)
    · exact hJ.old _ _ _ hj k hk
    · omega
    · omega
    · omega
  · rintro q W W' S ⟨rfl, S1, q', rfl, hj, e1, e2, e3⟩ hs hk
    exact ⟨rfl, S1, q', rfl, hJ.kept _ W W' S1 hj hs (fun k h => hk k (.inl h)), by omega, by omega, by omega⟩

theorem and3_more {S1 S3 : Nat → Prop} {W : World} {b c d : Nat} (h : More S1 W S3) : More (And3 S1 b c d) W (And3 S3 b c d) := by
  rintro k (hk | hk | hk | hk)
  · rcases h k hk with h' | h'
    · exact .inl (.inl h')
    · exact .inr h'
  · exact .inl (.inr (.inl hk))
  · exact .inl (.inr (.inr (.inl hk)))
  · exact .inl (.inr (.inr (.inr hk)))
theorem wi_next {J : St} {fr M By B5 B6 q len : Nat} {y : Value} {ty : TypeId} {W w3 : World} {S1 S3 : Nat → Prop} {u : Value} (hJ : Hangs J) (hk : Kept S1 W w3) (hm : More S1 W S3) (hj : J (M + q + len) w3 S3)
    (e1 : W.heap[By]? = some (.cells #[y] ty)) (e2 : W.heap[B5]? = some (.cells #[u] 3)) (e3 : W.heap[B6]? = some (.cells #[.int .i64 M] 3)) (n1 : ¬ S1 By) (n2 : ¬ S1 B5) (n3 : ¬ S1 B6) (h56 : B5 ≠ B6) (h5 : By ≠ B5) (h6 : By ≠ B6) (hle : fr ≤ M + (q + len)) :
    ∃ S', Kept (And3 S1 By B5 B6) W (w3.setCell ⟨B5, 0, none⟩ (.int .i64 ((M : Int) + q + len))) ∧ More (And3 S1 By B5 B6) W S' ∧ WI J fr M By B5 B6 y ty (q + len) (w3.setCell ⟨B5, 0, none⟩ (.int .i64 ((M : Int) + q + len))) S' := by
  have nn : ∀ b, ¬ S1 b → b < W.heap.size → ¬ S3 b := fun b hn hl h => by
    rcases hm b h with h' | h'
    · exact hn h'
    · omega
  have m1 := nn By n1 (heap_lt e1)
  have m2 := nn B5 n2 (heap_lt e2)
  have m3 := nn B6 n3 (heap_lt e3)
  have hb5 := hk.at' e2 n2
  refine ⟨And3 S3 By B5 B6, ?_, and3_more hm, S3, M + (q + len), rfl, .inr ⟨rfl, hle⟩, ?_, m1, m2, m3, ?_, ?_, ?_⟩
  · exact (hk.mono (G := And3 S1 By B5 B6) (fun k h => .inl h)).setCell (p := ⟨B5, 0, none⟩) (.inl (.inr (.inr (.inl rfl)))) _
  · rw [← Nat.add_assoc]
    exact hJ.kept _ w3 _ _ hj (by simp [World.setCell]) (fun k hs => Below.heap_setCell _ _ _ _ (fun e => m2 (by rw [← show k = B5 from e]; exact hs)))
  · exact (Below.heap_setCell _ _ _ _ h5).trans (hk.at' e1 n1)
  · have : (w3.setCell ⟨B5, 0, none⟩ (.int .i64 ((M : Int) + q + len))).heap[B5]? = some (.cells #[.int .i64 ((M : Int) + q + len)] 3) := Boxed.set (t := 3) (v := u) _ hb5
    have e : ((M + (q + len) : Nat) : Int) = (M : Int) + q + len := by omega
    rw [this, e]
  · exact (Below.heap_setCell _ _ _ _ (Ne.symm h56)).trans (hk.at' e3 n3)

theorem within_mid {W wc w2 W2 : World} {S S1 : Nat → Prop} {By B5 B6 : Nat} (k1 : Kept No W wc) (k2 : Kept No wc w2) (hk : Kept (And3 S By B5 B6) w2 W2) (hm : More (And3 S By B5 B6) w2 (And3 S1 By B5 B6)) (h1 : W.heap.size ≤ By) (h2 : W.heap.size ≤ B5) (h3 : W.heap.size ≤ B6) :
    Kept S W W2 ∧ More S W S1 := by
  have k3 : Kept S W w2 := (k1.trans k2 (fun _ h => h.elim)).mono (fun _ h => h.elim)
  refine ⟨k3.trans hk (fun k h => ?_), fun k h => ?_⟩
  · rcases h with h | h | h | h
    · exact .inl h
    · exact .inr (by omega)
    · exact .inr (by omega)
    · exact .inr (by omega)
  · rcases hm k (.inl h) with h' | h'
    · rcases h' with h' | h' | h' | h'
      · exact .inl h'
      · exact .inr (by omega)
      · exact .inr (by omega)
      · exact .inr (by omega)
    · exact .inr (by have := k3.size; omega)
theorem within_end {I : St} {W wc w2 W2 : World} {S S1 : Nat → Prop} {By B5 B6 q D : Nat} {o' : Obj} (k1 : Kept No W wc) (k2 : Kept No wc w2) (hk : Kept (And3 S By B5 B6) w2 W2) (hm : More (And3 S By B5 B6) w2 (And3 S1 By B5 B6)) (hI : Hangs I) (hi : I q W2 S1) (h1 : W.heap.size ≤ By) (h2 : W.heap.size ≤ B5) (h3 : W.heap.size ≤ B6) (hD : ¬ And3 S1 By B5 B6 D) (hD2 : wc.heap.size ≤ D) :
    Kept S W (W2.putObj D o') ∧ More S W S1 ∧ I q (W2.putObj D o') S1 := by
  obtain ⟨k3, m3⟩ := within_mid k1 k2 hk hm h1 h2 h3
  exact ⟨k3.trans (kept_put (S := fun k => k = D) o' rfl) (fun k h => .inr (by have := k1.size; omega)), m3, hI.put hi _ (fun h => hD (.inl h))⟩

theorem er_cv {o : Oper} {ac : Act} {w : World} (x y : Operand) (ts : Array TypeId) (ho : o.op = .call { callee := .value x, args := #[y], argTypes := ts }) (f : Nat) (lb : Array Value) (v : Value) (hx : ac.eval x = .func (.func f) #[] lb) (hy : ac.eval y = v) (eg : ∀ args w, (callFunc f args).run Tryz.prog w = .ok (.enter f args) w) : (execOp ac.eval o).run Tryz.prog w = .ok (.enter f (#[v] ++ lb)) w := by
  generalize ac.eval = ev at hx hy ⊢
  simp [execOp, ho, go_sem, resolve, hx, hy, eg]
theorem turn_of {xs : List Srv} (hv : Vd xs) {H now k : Nat} (hH : hyp xs = H) (hk : now = k * H) (h2 : 2 ≤ k) : Turn (Rule.occ (sys xs)) H now (Rule.runsOf (Rule.occ (sys xs)) H H) := by
  have hd : ∀ i, i < (sys xs).n → (sys xs).P i ∣ H := fun i hi => by rw [← hH]; exact hv.dvd i hi
  have h1 : 1 ≤ H := by rw [← hH]; exact hv.hyp1
  have key : ∀ u, Rule.occ (sys xs) (now + u) = Rule.occ (sys xs) (H + u) := fun u => by
    have := Rule.again_mul hv.bd.ok hd (H + u) (by omega) (k - 1)
    rw [← this]
    congr 1
    rw [hk, Nat.sub_mul]
    have : H ≤ k * H := Nat.le_mul_of_pos_left H (by omega)
    omega
  refine ⟨⟨(Rule.runsOf_tile _ H H).sum, (Rule.runsOf_tile _ H H).pos, fun i x hx u a b => ?_⟩, fun u => ?_, h1⟩
  · show Rule.occ (sys xs) (now + (0 + u)) = x.2
    rw [Nat.zero_add, key]
    exact (Rule.runsOf_tile _ H H).at' i x hx u a b
  · rw [key, key]
    have h3 := Nat.div_add_mod u H
    have := Rule.again_mul hv.bd.ok hd (H + u % H) (by omega) (u / H)
    rw [← this]
    congr 1
    rw [Nat.mul_comm]
    omega

set_option maxHeartbeats 4000000 in
theorem within_in {F : Nat → Prop} {a : Option Addr} {c : Nat} {xs : List Srv} (hv : Vd xs) (b0 b1 b2 fr below : Nat) (hfb : fr ≤ below) (hb : below ≤ 1099511627776) (l : Nat) (J Jx : St) (W : World) (S : Nat → Prop)
    (h : Sv W F a xs.length c xs) (hF : ∀ k, F k → k < W.heap.size) (hFS : ∀ k, F k → ¬ S k) (hw : Wb W a xs.length c (hyp xs) fr below b0 b1 b2) (hn0 : ¬ S b0) (hn1 : ¬ S b1) (hn2 : ¬ S b2)
    (hJ : Hangs J) (hJx : Hangs Jx) (hT : Takes Tryz.prog l (Rule.occ (sys xs)) below J Jx) (h0 : J fr W S)
    (hcy : Hid (2 * hyp xs < below - mv (hyp xs) fr → ∀ w', Sv w' F a xs.length c xs → (∀ k, F k → k < w'.heap.size) → Calls Tryz.prog 41 #[.slice a xs.length c, .int .i64 (hyp xs)] w' fun e w'' => ∃ g cap, e = .returned (.slice (some ⟨g, 0, none⟩) (Rule.runsOf (Rule.occ (sys xs)) (hyp xs) (hyp xs)).length cap) ∧ Ow w'' w'.heap.size (.slice (some ⟨g, 0, none⟩) (Rule.runsOf (Rule.occ (sys xs)) (hyp xs) (hyp xs)).length cap) (Rule.runsOf (Rule.occ (sys xs)) (hyp xs) (hyp xs)) ∧ Kept No w' w'')) :
    Calls Tryz.prog 37 #[.func (.yield l) #[] #[], .pointer (some ⟨b2, 0, none⟩), .pointer (some ⟨b1, 0, none⟩), .pointer (some ⟨b0, 0, none⟩)] W fun e W' => (∃ v, e = .returned v) ∧ ∃ S', Kept S W W' ∧ More S W S' ∧ (J below W' S' ∨ ∃ q, Jx q W' S') := by
  refine callsIn_wide (n := 9).1 ?_
  refine callsIn_of_wp_marks Tryz.func37 rfl trivial ?_ rfl
  refine wpIn_wide.2 ?_
  refine wp_mono ?_ (calm_imp _)
  simp only [Tryz.ntmps37, List.size_toArray, List.length_cons, List.length_nil, Nat.reduceAdd, Nat.reduceSub, Array.replicate_succ, Array.replicate_zero, List.push_toArray, List.append_toArray, List.nil_append, List.cons_append]
  have hH1 := hv.hyp1
  have hH2 := hv.hyp2
  generalize hHe : hyp xs = H at *
  obtain ⟨m1, m2, m3, m4⟩ := mv_add H fr hH1
  have hp := fun W => played_any H fr W hH1 hH2 (by omega)
  have HH : Hid (Sv W F a xs.length c xs ∧ (∀ k, F k → k < W.heap.size) ∧ (∀ k, F k → ¬ S k) ∧ Wb W a xs.length c H fr below b0 b1 b2 ∧ ¬ S b0 ∧ ¬ S b1 ∧ ¬ S b2) := ⟨h, hF, hFS, hw, hn0, hn1, hn2⟩
  have HJ : Hid (Hangs J ∧ Hangs Jx ∧ Takes Tryz.prog l (Rule.occ (sys xs)) below J Jx ∧ J fr W S) := ⟨hJ, hJx, hT, h0⟩
  have HV : Hid (Vd xs) := hv
  have HM : Hid (mv H fr + Rule.fold H fr = fr ∧ Rule.fold H fr < 2 * H ∧ (0 < mv H fr → H ≤ Rule.fold H fr) ∧ ∃ k, mv H fr = k * H) := ⟨m1, m2, m3, m4⟩
  have HHE : Hid (hyp xs = H) := hHe
  have hwf : wrap64 ((fr : Int) - (Rule.fold H fr : Int)) = (mv H fr : Int) := by unfold wrap64; omega
  have HWF : Hid (IntKind.i64.wrap ((fr : Int) - (Rule.fold H fr : Int)) = (mv H fr : Int)) := by show _ = _; rw [w64i]; exact hwf
  clear h hF hFS hw hn0 hn1 hn2 hJ hJx hT h0 hv m1 m2 m3 m4 hwf hHe
  generalize mv H fr = M at *
  generalize Rule.fold H fr = Fo at *
  go_upto_region 1 with fail
  -- the boxes of yield, now and moved
  go_cut [5, 6] from 5 to 18 (fun p5 p6 wx => ∃ B5 B6, p5 = .pointer (some ⟨B5, 0, none⟩) ∧ p6 = .pointer (some ⟨B6, 0, none⟩) ∧ wx.heap[W.heap.size]? = some (.cells #[.func (.yield l) #[] #[]] 77) ∧ wx.heap[B5]? = some (.cells #[.int .i64 fr] 3) ∧ wx.heap[B6]? = some (.cells #[.int .i64 M] 3) ∧ W.heap.size < B5 ∧ W.heap.size < B6 ∧ B5 ≠ B6 ∧ Kept No W wx)
  case first =>
    obtain ⟨g1, g2, g3, g4, g5, g6, g7⟩ := HH.out
    have k1 : Kept No W (W.alloc (.cells #[.func (.yield l) #[] #[]] 77)) := (Kept.refl No W).alloc _
    have y1 : (W.alloc (.cells #[.func (.yield l) #[] #[]] 77)).heap[W.heap.size]? = some (.cells #[.func (.yield l) #[] #[]] 77) := World.alloc_heap_new _ _
    have sz1 : (W.alloc (.cells #[.func (.yield l) #[] #[]] 77)).heap.size = W.heap.size + 1 := by simp
    obtain ⟨t0, t1, t2, t3⟩ := g4.kept k1 (fun h => h) (fun h => h) (fun h => h)
    have HK : Hid (Kept No W (W.alloc (.cells #[.func (.yield l) #[] #[]] 77)) ∧ (W.alloc (.cells #[.func (.yield l) #[] #[]] 77)).heap[W.heap.size]? = some (.cells #[.func (.yield l) #[] #[]] 77) ∧ (W.alloc (.cells #[.func (.yield l) #[] #[]] 77)).heap.size = W.heap.size + 1) := ⟨k1, y1, sz1⟩
    clear g1 g2 g3 g4 g5 g6 g7 k1 y1 sz1
    generalize W.alloc (.cells #[.func (.yield l) #[] #[]] 77) = w1 at *
    clear t0 t3
    go_region_held (fun w' => w'.cell? ⟨b1, 0, none⟩ = some (.int .i64 H) ∧ w'.cell? ⟨b2, 0, none⟩ = some (.int .i64 fr)) (go_keep) (first | (go_at_call 38; refine (hp _).mono ?_; rintro e w' ⟨rfl, rfl⟩))
    all_goals (rw [HWF.out]; go_wp2; go_meet; first | exact wbox1 HK.out.1 HK.out.2.1 HK.out.2.2 | exact wbox2 HK.out.1 HK.out.2.1 HK.out.2.2)
  case rest =>
    obtain ⟨B5, B6, rfl, rfl, hy, h5, h6, l5, l6, hne, hk⟩ := hcut
    obtain ⟨g1, g2, g3, g4, g5, g6, g7⟩ := HH.out
    obtain ⟨t0, t1, t2, t3⟩ := g4.kept hk (fun h => h) (fun h => h) (fun h => h)
    have t6 := cell_box h6
    have HB : Hid (wc.heap[W.heap.size]? = some (.cells #[.func (.yield l) #[] #[]] 77) ∧ wc.heap[B5]? = some (.cells #[.int .i64 fr] 3) ∧ wc.heap[B6]? = some (.cells #[.int .i64 M] 3) ∧ Kept No W wc) := ⟨hy, h5, h6, hk⟩
    clear g1 g2 g3 g4 g5 g6 g7 hy h5 h6 hk
    obtain ⟨m, em, q1, q2, q3⟩ := if_mn3 H below M (by have := HM.out.1; omega)
    go_wp2_with (go_at_call 39; refine (play_any _ _ _ _ _).mono ?_; rintro e w2 ⟨rfl, rfl⟩)
    clear t0 t1 t2 t3 t6 em
    refine (wpIn_wide (n := 9)).1 ?_
    obtain ⟨g1, g2, g3, g4, g5, g6, g7⟩ := HH.out
    obtain ⟨j1, j2, j3, j4⟩ := HJ.out
    obtain ⟨z1, z2, z3, z4⟩ := HB.out
    have hszc := z4.size
    have hold := j1.old _ _ _ j4
    have ksv : Sv wc F a xs.length c xs := g1.keep z4
    have hfc : ∀ k, F k → k < wc.heap.size := fun k hk => by have := g2 k hk; omega
    have hgv := play_gives HV.out ksv hfc m (by omega)
    have kal : Kept No wc ((wc.alloc (.cells #[.slice a xs.length c] 36)).alloc (.cells #[.int .i64 m] 3)) := ((Kept.refl No wc).alloc _).alloc _
    have hI0 : WI J fr M W.heap.size B5 B6 (.func (.yield l) #[] #[]) 77 0 ((wc.alloc (.cells #[.slice a xs.length c] 36)).alloc (.cells #[.int .i64 m] 3)) (And3 S W.heap.size B5 B6) := by
      refine ⟨S, fr, rfl, .inl ⟨rfl, by have := HM.out.1; omega⟩, j1.kept _ W _ S j4 (by have := kal.size; omega) (fun k hs => (kal.block k (by have := hold k hs; omega) (fun h => h)).trans (z4.block k (hold k hs) (fun h => h))), fun h => by have := hold _ h; omega, fun h => by have := hold _ h; omega, fun h => by have := hold _ h; omega, kal.at' z1 (fun h => h), kal.at' z2 (fun h => h), kal.at' z3 (fun h => h)⟩
    refine range_gives (n := 9) (gf := 58) (lb := #[.pointer (some ⟨wc.heap.size, 0, none⟩), .pointer (some ⟨wc.heap.size + 1, 0, none⟩)]) rfl (enters_of Tryz.func58 (by kernel_rfl) rfl) rfl hgv (Nat.le_refl _) ?gk
      (WI J fr M W.heap.size B5 B6 (.func (.yield l) #[] #[]) 77) (WX Jx W.heap.size B5 B6) (WI.hangs j1 _ _ _ _ _ _ _) (fun c => WX.hangs j2 _ _ _ c) hI0 ?gs
      (fun q len => .cells #[.int .i64 len, .int .i64 (Rule.occ (sys xs) q)] 75)
      (fun q len B => { tmps := #[.func (.yield l) #[] #[], .pointer (some ⟨b2, 0, none⟩), .pointer (some ⟨b1, 0, none⟩), .pointer (some ⟨b0, 0, none⟩), .pointer (some ⟨W.heap.size, 0, none⟩), .pointer (some ⟨B5, 0, none⟩), .pointer (some ⟨B6, 0, none⟩), .int .i64 q, .pointer (some ⟨B, 0, none⟩), u9, u10, u11, u12, u13, u14, u15, u16, u17, u18, .slice a xs.length c, .int .i64 H, .int .i64 (2 * H), .pointer (some ⟨b2, 1, none⟩), .int .i64 below, .int .i64 M, .int .i64 (below - M), .int .i64 m, .func (.func 58) #[] #[.pointer (some ⟨wc.heap.size, 0, none⟩), .pointer (some ⟨wc.heap.size + 1, 0, none⟩)], .int .i64 q, sv len (Rule.occ (sys xs) q), undef, undef, undef, undef, undef, undef, undef, undef, undef, undef, undef, undef, undef, undef, undef, undef, undef, undef, undef, undef, undef, undef, undef, undef, undef, undef, undef, undef, undef, undef, undef, undef, undef, undef], defers := [] }) ?assign ?body ?done ?stop
    case gk =>
      rintro k (hk | hk | hk)
      · exact ⟨by have := hfc k hk; simp; omega, rfl⟩
      · subst hk; exact ⟨by simp <;> omega, rfl⟩
      · subst hk; exact ⟨by simp <;> omega, rfl⟩
    case gs =>
      rintro k hk (h | h | h | h)
      · rcases hk with hk | hk | hk
        · exact g3 k hk h
        · have := hold k h; omega
        · have := hold k h; omega
      all_goals (rcases hk with hk | hk | hk)
      all_goals (first | (have := g2 k hk; omega) | (have := heap_lt z1; have := heap_lt z2; have := heap_lt z3; omega))
    case assign =>
      intro l q len W K hK
      simp only [sv] at hK ⊢
      gi_wp2
      exact hK
    case body =>
      rintro l' q len B W' S' ⟨S1, now, rfl, hn, hj, n1, n2, n3, e1, e2, e3⟩ hB hob h1 h2 h3
      have c1 := cell_box e1
      have c2 := cell_box e2
      have c3 := cell_box e3
      obtain ⟨d0, d1⟩ := cells2' hob
      have HE : Hid (W'.heap[W.heap.size]? = some (.cells #[.func (.yield l) #[] #[]] 77) ∧ W'.heap[B5]? = some (.cells #[.int .i64 now] 3) ∧ W'.heap[B6]? = some (.cells #[.int .i64 M] 3) ∧ ¬ S1 W.heap.size ∧ ¬ S1 B5 ∧ ¬ S1 B6) := ⟨e1, e2, e3, n1, n2, n3⟩
      have HN : Hid (now = fr ∧ M + q ≤ fr ∨ now = M + q ∧ fr ≤ M + q) := hn
      have hnb : now ≤ M + q + len ∨ now ≤ fr := by omega
      have hnow : now ≤ 2199023255552 := by omega
      have hend : M + q + len ≤ 2199023255552 := by omega
      have HJN : Hid (J now W' S1) := hj
      simp only [sv] at *
      clear e1 e2 e3 n1 n2 n3 hn hB hob hnb hj
      by_cases hc : M + q + len ≤ now
      · have hc' : (M : Int) + q + len ≤ now := by omega
        have HF : Hid (WI J fr M W.heap.size B5 B6 (.func (.yield l) #[] #[]) 77 (q + len) W' (And3 S1 W.heap.size B5 B6)) := by
          obtain ⟨e1, e2, e3, n1, n2, n3⟩ := HE.out
          exact ⟨S1, now, rfl, .inl (by have := HN.out; omega), HJN.out, n1, n2, n3, e1, e2, e3⟩
        clear hc
        gi_wp2
        exact ⟨_, Kept.refl _ _, More.refl _ _, HF.out⟩
      · have hcst : ∀ u, now ≤ u → u < M + q + len → Rule.occ (sys xs) u = Rule.occ (sys xs) q := fun u a1 a2 => by
          obtain ⟨y1, y2, y3, k, hk⟩ := HM.out
          have hv := HN.out
          have e : u = (u - M) + k * H := by rw [← hk]; omega
          have h4 : Rule.occ (sys xs) (u - M) = Rule.occ (sys xs) q := h3 (u - M) (by omega) (by omega)
          by_cases hM : M = 0
          · rw [← h4, hM]; rfl
          · have h5 := Rule.again_mul HV.out.bd.ok (H := H) (fun i hi => by rw [← HHE.out]; exact HV.out.dvd i hi) (u - M) (by have := y3 (by omega); omega) k
            rw [← e] at h5
            rw [h5, h4]
        have hy := (HJ.out.2.2.1) 8 now (M + q + len - now) W' S1 HJN.out (by omega) (by omega) (fun u a1 a2 => by rw [hcst u a1 (by omega), hcst now (Nat.le_refl _) (by omega)])
        rw [hcst now (Nat.le_refl _) (by omega), show now + (M + q + len - now) = M + q + len by omega] at hy
        unfold sv at hy
        have e4 : ((M + q + len - now : Nat) : Int) = (M : Int) + q + len - now := by omega
        rw [e4] at hy
        obtain ⟨fn, tmps, assign, body, hyr, hR⟩ := hy
        have hc' : ¬ ((M : Int) + q + len ≤ now) := by omega
        have HR : Hid (RoundIn (Fence.wide.inRound l') 8 Tryz.prog l fn tmps assign body W' (Took J Jx (M + q + len) W' S1)) := hR
        have HC : Hid (¬ (M + q + len ≤ now)) := hc
        clear hcst e4 hc h3 hR
        gi_wp2
        refine HR.out.mono ?_
        clear hyr
        rintro e w3 ⟨S3, hk3, hm3, (⟨rfl, hj3⟩ | ⟨rfl, hj3⟩)⟩
        · obtain ⟨e1, e2, e3, n1, n2, n3⟩ := HE.out
          have f2 := hk3.at' e2 n2
          have g2' := cell_box f2
          have gz : w3.frozen? ⟨B5, 0, none⟩ = false := by simp [World.frozen?, f2]
          have HF : Hid (∃ S', Kept (And3 S1 W.heap.size B5 B6) W' (w3.setCell ⟨B5, 0, none⟩ (.int .i64 ((M : Int) + q + len))) ∧ More (And3 S1 W.heap.size B5 B6) W' S' ∧ WI J fr M W.heap.size B5 B6 (.func (.yield l) #[] #[]) 77 (q + len) (w3.setCell ⟨B5, 0, none⟩ (.int .i64 ((M : Int) + q + len))) S') := by
            refine wi_next HJ.out.1 hk3 hm3 hj3 e1 e2 e3 n1 n2 n3 hne (by omega) (by omega) ?_
            have := HN.out
            have := HC.out
            omega
          clear e1 e2 e3 n1 n2 n3 f2 hk3 hm3 hj3
          gi_wp2
          exact HF.out
        · have HF : Hid (∃ S', Kept (And3 S1 W.heap.size B5 B6) W' w3 ∧ More (And3 S1 W.heap.size B5 B6) W' S' ∧ WX Jx W.heap.size B5 B6 .ret (q + len) w3 S') := by
            obtain ⟨e1, e2, e3, n1, n2, n3⟩ := HE.out
            have hs3 := hk3.size
            refine ⟨And3 S3 W.heap.size B5 B6, hk3.mono (fun k h => .inl h), and3_more hm3, rfl, S3, _, rfl, hj3, by have := heap_lt e1; omega, by have := heap_lt e2; omega, by have := heap_lt e3; omega⟩
          clear hk3 hm3 hj3
          gi_wp2
          exact HF.out
    case done =>
      rintro D W2 S' hk hm ⟨S1, now, rfl, hn, hj, n1, n2, n3, e1, e2, e3⟩ hD1 hD2 hD3
      obtain ⟨kw, mw⟩ := within_mid HB.out.2.2.2 kal hk hm (by omega) (by omega) (by omega)
      have wb := g4.kept kw g5 g6 g7
      have c2 := cell_box e2
      have c3 := wb.s3
      have HMQ : Hid ((m = 2 * H ∨ M + m = below) ∧ (now = fr ∧ M + m ≤ fr ∨ now = M + m ∧ fr ≤ M + m)) := ⟨q3, hn⟩
      by_cases hlt : now < below
      · obtain ⟨y1, y2, y3, k, hkH⟩ := HM.out
        have hm2 : now = M + 2 * H ∧ 2 * H < below - M := by omega
        obtain ⟨hm3, hm4⟩ := hm2
        obtain ⟨b0', b1', b2', b3'⟩ := wb
        have HCY := hcy.out hm4
        have HTN : Hid (Turn (Rule.occ (sys xs)) H now (Rule.runsOf (Rule.occ (sys xs)) H H)) := turn_of HV.out HHE.out (k := k + 2) (by rw [hm3, hkH, Nat.add_mul]) (by omega)
        have hlt' : (now : Int) < below := by omega
        have HNB : Hid (now < below ∧ now = M + 2 * H) := ⟨hlt, hm3⟩
        have hTl : (Rule.runsOf (Rule.occ (sys xs)) H H).length ≤ 4000000 := by have := (Rule.runsOf_tile (Rule.occ (sys xs)) H H).len; omega
        generalize hTT : Rule.runsOf (Rule.occ (sys xs)) H H = T at *
        clear hTT hlt
        go_upto_region 10 with fail
        have cN := cell_box e2
        have cY := cell_box e1
        try simp only [Act.put, List.setIfInBounds_toArray, List.set_cons_zero, List.set_cons_succ]
        refine wp_region_held_drew (S := fun w' => Wb w' a xs.length c H fr below b0 b1 b2 ∧ w'.cell? ⟨W.heap.size, 0, none⟩ = some (.func (.yield l) #[] #[]) ∧ w'.cell? ⟨B5, 0, none⟩ = some (.int .i64 now) ∧ w'.heap[D]? = some (.deferred (some []))) (by kernel_rfl) ⟨⟨b0', b1', b2', b3'⟩, cY, cN, hD3⟩ (fun hS => ?_)
        refine d_take 0 54 rfl rfl (by kernel_rfl) (by kernel_rfl) (by kernel_rfl) (fun _ _ _ h => h) rfl (fun w' hw' => er_ldsv _ rfl b0 0 (.slice a xs.length c) rfl hw'.1.s0) hS ?_
        simp only [Act.put, List.setIfInBounds_toArray, List.set_cons_zero, List.set_cons_succ]
        refine d_take 1 55 rfl rfl (by kernel_rfl) (by kernel_rfl) (by kernel_rfl) (fun _ _ _ h => h) rfl (fun w' hw' => er_ld3 _ rfl b1 0 (.int .i64 H) rfl hw'.1.s1) hS ?_
        simp only [Act.put, List.setIfInBounds_toArray, List.set_cons_zero, List.set_cons_succ]
        refine d_take 3 57 rfl rfl (by kernel_rfl) (by kernel_rfl) (by kernel_rfl) (fun _ _ _ h => h) rfl (fun w' hw' => er_ld3 _ rfl B5 0 (.int .i64 now) rfl hw'.2.2.1) hS ?_
        simp only [Act.put, List.setIfInBounds_toArray, List.set_cons_zero, List.set_cons_succ]
        refine d_take 4 58 rfl rfl (by kernel_rfl) (by kernel_rfl) (by kernel_rfl) (fun _ _ _ h => h) rfl (fun w' hw' => er_sp1z _ rfl b2 rfl) hS ?_
        simp only [Act.put, List.setIfInBounds_toArray, List.set_cons_zero, List.set_cons_succ]
        refine d_take 5 59 rfl rfl (by kernel_rfl) (by kernel_rfl) (by kernel_rfl) (fun _ _ _ h => h) rfl (fun w' hw' => er_ld3 _ rfl b2 1 (.int .i64 below) rfl hw'.1.s3) hS ?_
        simp only [Act.put, List.setIfInBounds_toArray, List.set_cons_zero, List.set_cons_succ]
        refine d_take 6 60 rfl rfl (by kernel_rfl) (by kernel_rfl) (by kernel_rfl) (fun _ _ _ h => h) rfl (fun w' hw' => er_bsp _ _ rfl now below rfl rfl) hS ?_
        simp only [Act.put, List.setIfInBounds_toArray, List.set_cons_zero, List.set_cons_succ]
        refine d_take 8 62 rfl rfl (by kernel_rfl) (by kernel_rfl) (by kernel_rfl) (fun _ _ _ h => h) rfl (fun w' hw' => er_ldy _ rfl W.heap.size 0 (.func (.yield l) #[] #[]) rfl hw'.2.1) hS ?_
        simp only [Act.put, List.setIfInBounds_toArray, List.set_cons_zero, List.set_cons_succ]
        have kd : Kept No W2 W2.drew := (Kept.refl No W2).drew
        have sv2 : Sv W2.drew F a xs.length c xs := (g1.kept (kw.trans kd (fun _ h => h.elim)) g3)
        refine d_callN (fun v w' => Kept No W2 w' ∧ ∃ g cap, v = .slice (some ⟨g, 0, none⟩) T.length cap ∧ Ow w' W2.heap.size v T) 2 56 (by kernel_rfl) rfl rfl rfl (er_c_cycle _ _ _ rfl (.slice a xs.length c) (.int .i64 H) rfl rfl) ((HCY W2.drew sv2 (fun k hk => by have := g2 k hk; have := kw.size; show k < W2.heap.size; omega)).mono (by
          rintro e w' ⟨g, cap, rfl, hO, hK⟩
          refine ⟨_, rfl, ⟨hS.1.kept hK (fun h => h) (fun h => h) (fun h => h), hK.cell hS.2.1 (fun h => h), hK.cell hS.2.2.1 (fun h => h), hK.at' hS.2.2.2 (fun h => h)⟩, kd.trans hK (fun _ h => h.elim), g, cap, rfl, hO⟩)) (fun v w3 hS ⟨k3, g, cap, hv3, ho3⟩ => ?_)
        subst hv3
        simp only [Act.put, List.setIfInBounds_toArray, List.set_cons_zero, List.set_cons_succ]
        refine d_callN (fun v w' => Kept No W2 w' ∧ ∃ bT, v = .func (.func 61) #[] #[.pointer (some ⟨bT, 0, none⟩), .pointer (some ⟨bT + 1, 0, none⟩)] ∧ W2.heap.size ≤ bT ∧ Ow w' W2.heap.size (.slice (some ⟨g, 0, none⟩) T.length cap) T ∧ w'.cell? ⟨bT, 0, none⟩ = some (.slice (some ⟨g, 0, none⟩) T.length cap) ∧ w'.heap[bT + 1]? = some (.cells #[.int .i64 now, .int .i64 below] 73)) 7 61 (by kernel_rfl) rfl rfl rfl (er_c_again _ _ _ rfl (.slice (some ⟨g, 0, none⟩) T.length cap) (.agg #[.int .i64 now, .int .i64 below]) rfl rfl) ((again_new _ _ _ _ _ w3).mono (by
          rintro e w' ⟨rfl, rfl⟩
          have hK : Kept No w3 ((w3.alloc (.cells #[.slice (some ⟨g, 0, none⟩) T.length cap] 33)).alloc (.cells #[.int .i64 now, .int .i64 below] 73)) := ((Kept.refl No w3).alloc _).alloc _
          obtain ⟨a1, a2⟩ := heap_alloc2 (w := w3) (o1 := .cells #[.slice (some ⟨g, 0, none⟩) T.length cap] 33) (o2 := .cells #[.int .i64 now, .int .i64 below] 73)
          refine ⟨_, rfl, ⟨hS.1.kept hK (fun h => h) (fun h => h) (fun h => h), hK.cell hS.2.1 (fun h => h), hK.cell hS.2.2.1 (fun h => h), hK.at' hS.2.2.2 (fun h => h)⟩, k3.trans hK (fun _ h => h.elim), w3.heap.size, rfl, k3.size, hK.owns ho3 (fun _ _ h => h), cell_box a1, a2⟩)) (fun v w4 hS ⟨k4, bT, hv4, hbT, ho4, c4, d4⟩ => ?_)
        subst hv4
        simp only [Act.put, List.setIfInBounds_toArray, List.set_cons_zero, List.set_cons_succ]
        have hold2 := j1.old _ _ _ hj
        have hjn : J now w4 S1 := j1.kept _ W2 _ _ hj k4.size (fun k hs => k4.block k (hold2 k hs) (fun h => h))
        have hD0 : ¬ S1 D := fun h => hD1 (.inl h)
        have nlt : ∀ b, W2.heap.size ≤ b → ¬ S1 b := fun b hb h => by have := hold2 b h; omega
        have nb : ∀ b, ¬ S b → b < W.heap.size → ¬ S1 b := fun b hn hl h => by
          rcases mw b h with h' | h'
          · exact hn h'
          · omega
        have hc9 := again_any HTN.out bT (bT + 1) W2.heap.size (.slice (some ⟨g, 0, none⟩) T.length cap) HNB.out.1 hb hTl l J Jx w4 S1 ho4 (fun k hk => nlt k (ho4.lt k hk).1) c4 d4 (nlt _ hbT) (nlt _ (by omega)) j1 j2 j3 hjn
        refine d_callN (fun v w' => ∃ S', Kept S W w' ∧ More S W S' ∧ ¬ S' D ∧ (J below w' S' ∨ ∃ q, Jx q w' S')) 9 63 (by kernel_rfl) rfl rfl rfl (er_cv _ _ _ rfl 61 #[.pointer (some ⟨bT, 0, none⟩), .pointer (some ⟨bT + 1, 0, none⟩)] (.func (.yield l) #[] #[]) rfl rfl (enters_of Tryz.func61 (by kernel_rfl) rfl)) (hc9.mono (by
          rintro e w' ⟨⟨v, rfl⟩, S', hK, hM, hor⟩
          refine ⟨v, rfl, ⟨hS.1.kept hK (nb _ g5 (cell_lt g4.s0)) (nb _ g6 (cell_lt g4.s1)) (nb _ g7 (cell_lt g4.s2)), hK.cell hS.2.1 n1, hK.cell hS.2.2.1 n2, hK.at' hS.2.2.2 hD0⟩, S', ?_, ?_, ?_, hor⟩
          · exact (kw.trans k4 (fun _ h => h.elim)).more mw hK
          · exact mw.trans hM (by have := k4.size; have := kw.size; omega)
          · intro h
            rcases hM D h with h' | h'
            · exact hD0 h'
            · have := heap_lt hS.2.2.2; omega)) (fun v w5 hS ⟨S', z1', z2', z3', z4'⟩ => ?_)
        simp only [Act.put, List.setIfInBounds_toArray, List.set_cons_zero, List.set_cons_succ]
        refine wpAnyH_done (by kernel_rfl) ?_ _
        have HF : Hid (Kept S W w5 ∧ More S W S' ∧ ¬ S' D ∧ (J below w5 S' ∨ ∃ q, Jx q w5 S') ∧ w5.heap[D]? = some (.deferred (some []))) := ⟨z1', z2', z3', z4', hS.2.2.2⟩
        clear hS z1' z2' z3' z4' hc9 hjn ho4 c4 d4 k4 k3 ho3
        go_wp2
        obtain ⟨z1', z2', z3', z4', z5'⟩ := HF.out
        refine ⟨by simp, .inl ⟨_, _, rfl, run_takeDeferred z5', ?_⟩⟩
        refine ⟨_, results_none rfl _ _ _, ⟨_, rfl⟩, S', z1'.trans (kept_put (S := fun k => k = D) _ rfl) (fun k h => .inr (by have := kal.size; omega)), z2', ?_⟩
        rcases z4' with h | ⟨q, h⟩
        · exact .inl (j1.put h _ z3')
        · exact .inr ⟨q, j2.put h _ z3'⟩
      · have hnb : ¬ ((now : Int) < below) := by omega
        have hne2 : now = below := by omega
        have HF := within_end (o' := .deferred none) HB.out.2.2.2 kal hk hm j1 hj (by omega) (by omega) (by omega) hD1 (by have := kal.size; omega)
        rw [hne2] at HF
        have HF : Hid (Kept S W (W2.putObj D (.deferred none)) ∧ More S W S1 ∧ J below (W2.putObj D (.deferred none)) S1) := HF
        clear hk hm hj hlt hn hne2 kw mw wb
        go_wp2
        refine ⟨by simp, .inl ⟨_, _, rfl, run_takeDeferred hD3, ?_⟩⟩
        exact ⟨_, results_none rfl _ _ _, ⟨_, rfl⟩, HF.out.1, S1, HF.out.2.1, .inl HF.out.2.2⟩
    case stop =>
      rintro D cc q W2 S' hk hm ⟨rfl, S1, q', rfl, hj, l1, l2, l3⟩ hD1 hD2 hD3
      have HF := within_end (o' := .deferred none) HB.out.2.2.2 kal hk hm j2 hj (by omega) (by omega) (by omega) hD1 (by have := kal.size; omega)
      clear hk hm hj
      gi_wp2
      refine ⟨by simp, .inl ⟨_, _, rfl, run_takeDeferred hD3, ?_⟩⟩
      exact ⟨_, results_none rfl _ _ _, ⟨_, rfl⟩, S1, HF.1, HF.2.1, .inr ⟨q', HF.2.2⟩⟩
end Go.Proofs.YtnmhcnppdhdhfaaGreatDoor
