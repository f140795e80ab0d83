/-
  'ReadyExact'.
-/
import Derived.Test.YteiakmjdjaodlaaRStep
import Derived.Test.YteiakmjdjaodlaaRFair
namespace Go.Proofs.Yteiakmjdjaodlaa
open Go.Shelf Go.RowKit Go.Lib Go.Sort
set_option linter.unusedVariables false
set_option maxRecDepth 100000

theorem exact_no (n : Int) (hn : n < 0 ∨ n > 65535) (p : Option Addr) (sn sc : Nat) (W : World) : Calls Try.prog 4 #[.int .i64 n, .slice p sn sc] W fun ex w' => ex = .returned (.bool true) ∧ Below W.heap.size W w' := by
  have cN := new_no n hn W
  have cR := rnew_no n hn W
  unfold rv at cR
  clear hn
  go_enter Try.func4, Try.ntmps4
  go_wp2_with (first
    | (go_at_call 5; refine cN.mono ?_; rintro ex w1 ⟨rfl, hw1⟩; obtain rfl := hw1.symm)
    | (go_at_call 16; refine cR.mono ?_; rintro ex w2 ⟨rfl, hb2⟩))
  go_ret
  exact ⟨rfl, hb2.trans (((Below.refl _ w2).alloc (Nat.le_refl _) _).mono hb2.size)⟩

/-- the line and the document's line in the variable x (block q) -/
structure Xs (W : World) (q b mo nx : Nat) (S T : List En) (v : Value) (w : World) : Prop where
  bel : Below W.heap.size W w
  box : w.heap[q]? = some (.cells #[.int .i64 mo, v, .int .i64 nx] 42)
  ln : ∃ F, Ln w F b mo nx S ∧ (∀ k, F k → W.heap.size ≤ k ∧ k < w.heap.size) ∧ ¬ F q ∧ ∀ g, v.ownBlock = some g → ¬ F g
  row : w.ownsRow 0 77 3 v T.length (rcL T)
  perm : T.Perm S
  nv : v.ownBlock ≠ some q
  hq : W.heap.size ≤ q
namespace Xs
variable {W w w' : World} {q b mo nx : Nat} {S T : List En} {v : Value}
theorem below (h : Xs W q b mo nx S T v w) (k : Below w.heap.size w w') : Xs W q b mo nx S T v w' := by
  obtain ⟨F, h1, h2, h3, h4⟩ := h.ln
  have kk := Kept.of_below (F := No) k
  exact ⟨h.bel.trans (k.mono h.bel.size), kk.at' h.box (fun h => h), ⟨F, h1.below k, fun j hj => ⟨(h2 j hj).1, Nat.lt_of_lt_of_le (h2 j hj).2 k.size⟩, h3, h4⟩, kk.owns h.row (fun _ _ h => h), h.perm, h.nv, h.hq⟩
end Xs
/-- behind a step: x is still the elder one, the new one lies in block g -/
structure Ys (W : World) (q b mo nx nx' g : Nat) (S' T' : List En) (v v' : Value) (w : World) : Prop where
  bel : Below W.heap.size W w
  box : w.heap[q]? = some (.cells #[.int .i64 mo, v, .int .i64 nx] 42)
  new : w.heap[g]? = some (.cells #[.int .i64 mo, v', .int .i64 nx'] 42)
  ln : ∃ F, Ln w F b mo nx' S' ∧ (∀ k, F k → W.heap.size ≤ k ∧ k < w.heap.size) ∧ ¬ F q ∧ ∀ g, v'.ownBlock = some g → ¬ F g
  row : w.ownsRow 0 77 3 v' T'.length (rcL T')
  perm : T'.Perm S'
  nv : v'.ownBlock ≠ some q
  hq : W.heap.size ≤ q
theorem Ys.set {W w : World} {q b mo nx nx' g : Nat} {S' T' : List En} {v v' : Value} (h : Ys W q b mo nx nx' g S' T' v v' w) : Xs W q b mo nx' S' T' v' (((w.setCell ⟨q, 0, none⟩ (.int .i64 mo)).setCell ⟨q, 1, none⟩ v').setCell ⟨q, 2, none⟩ (.int .i64 nx')) := by
  obtain ⟨F, h1, h2, h3, h4⟩ := h.ln
  have kq := set3_keptF (q := q) w (.int .i64 mo) v' (.int .i64 nx')
  exact ⟨h.bel.trans (kq.below (fun k e => by rw [e]; exact h.hq) h.bel.size), set3' h.box _ _ _, ⟨F, h1.kept kq (fun j hj e => h3 (e ▸ hj)), fun j hj => ⟨(h2 j hj).1, Nat.lt_of_lt_of_le (h2 j hj).2 kq.size⟩, h3, h4⟩, kq.owns h.row (fun g hg e => h.nv (e ▸ hg)), h.perm, h.nv, h.hq⟩

section
variable {W w w' : World} {F : Nat → Prop} {q b mo nx nx' : Nat} {S S' T' : List En} {v v' : Value}
theorem fold3 (w : World) (x0 x1 x2 x y z : Value) : (((w.alloc (.cells #[x0, x1, x2] 42)).setCell ⟨w.heap.size, 0, none⟩ x).setCell ⟨w.heap.size, 1, none⟩ y).setCell ⟨w.heap.size, 2, none⟩ z = w.alloc (.cells #[x, y, z] 42) := by
  rw [World.setCell_alloc_at _ _ _ _ _ rfl, World.setCell_alloc_at _ _ _ _ _ rfl, World.setCell_alloc_at _ _ _ _ _ rfl]
  rfl
/-- a step, then the new line in a new block -/
theorem ys_of1 (hb : Below W.heap.size W w) (hbox : w.heap[q]? = some (.cells #[.int .i64 mo, v, .int .i64 nx] 42)) (hF : ∀ k, F k → W.heap.size ≤ k ∧ k < w.heap.size) (hFq : ¬ F q) (nv : v.ownBlock ≠ some q) (hq : W.heap.size ≤ q) (hx : Sx w F v b mo nx' S' T' v' w') (hp : T'.Perm S') : Ys W q b mo nx nx' w'.heap.size S' T' v v' ((((w'.alloc (.cells #[.int .i64 0, .slice none 0 0, .int .i64 0] 42)).setCell ⟨w'.heap.size, 0, none⟩ (.int .i64 mo)).setCell ⟨w'.heap.size, 1, none⟩ v').setCell ⟨w'.heap.size, 2, none⟩ (.int .i64 nx')) := by
  obtain ⟨F', h1, h2, h3⟩ := hx.ln
  have hq2 := heap_lt hbox
  have hb1 : Below w'.heap.size w' (w'.alloc (.cells #[.int .i64 0, .slice none 0 0, .int .i64 0] 42)) := (Below.refl _ w').alloc (Nat.le_refl _) _
  have hb2 : Below W.heap.size W w' := hb.trans (hx.kept.below (fun k hk => (hF k hk).1) hb.size)
  have kq := set3_keptF (q := w'.heap.size) (w'.alloc (.cells #[.int .i64 0, .slice none 0 0, .int .i64 0] 42)) (.int .i64 mo) v' (.int .i64 nx')
  have kk : Kept (fun k => k = w'.heap.size) w' (((((w'.alloc (.cells #[.int .i64 0, .slice none 0 0, .int .i64 0] 42)).setCell ⟨w'.heap.size, 0, none⟩ (.int .i64 mo)).setCell ⟨w'.heap.size, 1, none⟩ v').setCell ⟨w'.heap.size, 2, none⟩ (.int .i64 nx'))) := (Kept.of_below hb1).trans kq (fun k e => .inl e)
  have hqw : q < w'.heap.size := Nat.lt_of_lt_of_le hq2 hx.kept.size
  refine ⟨hb2.trans (kk.below (fun k e => by have := hb2.size; omega) hb2.size), kk.at' (hx.kept.at' hbox hFq) (by omega), set3' (heap_last _ _) _ _ _, ⟨F', h1.kept kk (fun k hk e => by have := (h2 k hk).2; omega), fun k hk => ⟨?_, Nat.lt_of_lt_of_le (h2 k hk).2 kk.size⟩, fun hk => ?_, h3⟩, kk.owns hx.row (fun g hg e => by have := (hx.row.lt g hg).2; omega), hp, fun e => ?_, hq⟩
  · rcases (h2 k hk).1 with e | e
    · exact (hF k e).1
    · have := hb.size; omega
  · rcases (h2 q hk).1 with e | e
    · exact hFq e
    · omega
  · rcases hx.vf _ e with e2 | e2
    · exact nv e2
    · omega
/-- the new block first -/
theorem ys_of2 {Z : Array Value} (hb : Below W.heap.size W w) (hbox : w.heap[q]? = some (.cells #[.int .i64 mo, v, .int .i64 nx] 42)) (hF : ∀ k, F k → W.heap.size ≤ k ∧ k < w.heap.size) (hFq : ¬ F q) (nv : v.ownBlock ≠ some q) (hq : W.heap.size ≤ q) (hvl : ∀ g, v.ownBlock = some g → g < w.heap.size) (hx : Sx (w.alloc (.cells #[.int .i64 0, .slice none 0 0, .int .i64 0] 42)) F v b mo nx' S' T' v' w') (hp : T'.Perm S') : Ys W q b mo nx nx' w.heap.size S' T' v v' (((w'.setCell ⟨w.heap.size, 0, none⟩ (.int .i64 mo)).setCell ⟨w.heap.size, 1, none⟩ v').setCell ⟨w.heap.size, 2, none⟩ (.int .i64 nx')) := by
  obtain ⟨F', h1, h2, h3⟩ := hx.ln
  have hq2 := heap_lt hbox
  have hz := heap_last w (.cells #[.int .i64 0, .slice none 0 0, .int .i64 0] 42)
  have hsz : (w.alloc (.cells #[.int .i64 0, .slice none 0 0, .int .i64 0] 42)).heap.size = w.heap.size + 1 := World.size_alloc _ _
  have hb0 : Below w.heap.size w (w.alloc (.cells #[.int .i64 0, .slice none 0 0, .int .i64 0] 42)) := (Below.refl _ w).alloc (Nat.le_refl _) _
  have hbw : Below W.heap.size W (w.alloc (.cells #[.int .i64 0, .slice none 0 0, .int .i64 0] 42)) := hb.trans (hb0.mono hb.size)
  have hb2 : Below W.heap.size W w' := hbw.trans (hx.kept.below (fun k hk => (hF k hk).1) hbw.size)
  have kq := set3_keptF (q := w.heap.size) w' (.int .i64 mo) v' (.int .i64 nx')
  have hFg : ¬ F w.heap.size := fun e => by have := (hF _ e).2; omega
  have hF'g : ¬ F' w.heap.size := fun e => by
    rcases (h2 _ e).1 with e2 | e2
    · exact hFg e2
    · omega
  have hvg : v'.ownBlock ≠ some w.heap.size := fun e => by
    rcases hx.vf _ e with e2 | e2
    · have := hvl _ e2; omega
    · omega
  refine ⟨hb2.trans (kq.below (fun k e => by have := hb.size; omega) hb2.size), kq.at' (hx.kept.at' ((Kept.of_below (F := No) hb0).at' hbox (fun h => h)) hFq) (by omega), set3' (hx.kept.at' hz hFg) _ _ _, ⟨F', h1.kept kq (fun j hj e => hF'g (e ▸ hj)), fun k hk => ⟨?_, Nat.lt_of_lt_of_le (h2 k hk).2 kq.size⟩, fun hk => ?_, h3⟩, kq.owns hx.row (fun g hg e => hvg (e ▸ hg)), hp, fun e => ?_, hq⟩
  · rcases (h2 k hk).1 with e | e
    · exact (hF k e).1
    · have := hb.size; omega
  · rcases (h2 q hk).1 with e | e
    · exact hFq e
    · omega
  · rcases hx.vf _ e with e2 | e2
    · exact nv e2
    · omega
end
section
variable {o : Oper} {a : Act} {w : World}
theorem er_as (x : Operand) (ho : o.op = .assign x) (v : Value) (hx : a.eval x = v) : (execOp a.eval o).run Try.prog w = .ok (.value v) w := by simp only [execOp, ho, hx]; rfl
theorem er_load42 (x : Operand) (ho : o.op = .load 42 x) (g off : Nat) (u v z : Value) (hx : a.eval x = .pointer (some ⟨g, off, none⟩)) (hr : w.cell? ⟨g, off, none⟩ = some u) (hs : w.cell? ⟨g, off + 1, none⟩ = some v) (ht : w.cell? ⟨g, off + 2, none⟩ = some z) : (execOp a.eval o).run Try.prog w = .ok (.value (.agg #[u, v, z])) w := by
  simp only [execOp, ho, hx]; simp [go_sem, hr, hs, ht]
theorem er_load28 (x : Operand) (ho : o.op = .load 28 x) (g off : Nat) (u v z : Value) (hx : a.eval x = .pointer (some ⟨g, off, none⟩)) (hr : w.cell? ⟨g, off, none⟩ = some u) (hs : w.cell? ⟨g, off + 1, none⟩ = some v) (ht : w.cell? ⟨g, off + 2, none⟩ = some z) : (execOp a.eval o).run Try.prog w = .ok (.value (.agg #[u, v, z])) w := by
  simp only [execOp, ho, hx]; simp [go_sem, hr, hs, ht]
theorem er_idx22 (x y : Operand) (ho : o.op = .indexAddr 22 x y) (g of' n c d : Nat) (hd : d < n) (hn : n ≤ 9223372036854775807) (hx : a.eval x = .slice (some ⟨g, of', none⟩) n c) (hy : a.eval y = .int .i64 d) : (execOp a.eval o).run Try.prog w = .ok (.value (.pointer (some ⟨g, of' + d * 3, none⟩))) w := by
  simp only [execOp, ho, hx, hy]
  simp [go_sem, add_none]
  omega
theorem er_ext0 (x : Operand) (ho : o.op = .extract x 0) (u v : Value) (hx : a.eval x = .tuple #[u, v]) : (execOp a.eval o).run Try.prog w = .ok (.value u) w := by
  simp only [execOp, ho, hx]; simp [go_sem]
theorem er_ext1 (x : Operand) (ho : o.op = .extract x 1) (u v : Value) (hx : a.eval x = .tuple #[u, v]) : (execOp a.eval o).run Try.prog w = .ok (.value v) w := by
  simp only [execOp, ho, hx]; simp [go_sem]
theorem er_call_step (x0 x1 x2 : Operand) (ts : Array TypeId) (ho : o.op = .call { callee := .value (.func 17), args := #[x0, x1, x2], argTypes := ts }) : (execOp a.eval o).run Try.prog w = .ok (.enter 17 #[a.eval x0, a.eval x1, a.eval x2]) w := by
  simp [execOp, ho, go_sem, Act.eval]
theorem er_alloc42 (ho : o.op = .alloc 42) : (execOp a.eval o).run Try.prog w = .ok (.value (.pointer (some ⟨w.heap.size, 0, none⟩))) (w.alloc (.cells #[.int .i64 0, .slice none 0 0, .int .i64 0] 42)) := by
  simp only [execOp, ho]; simp [go_sem]
theorem er_store42 (x y : Operand) (ho : o.op = .store 42 x y) (g : Nat) (u0 u1 u2 : Value) (s t : Int) (pa : Option Addr) (pn pc : Nat) (hx : a.eval x = .pointer (some ⟨g, 0, none⟩)) (hy : a.eval y = .agg #[.int .i64 s, .slice pa pn pc, .int .i64 t]) (h0 : w.cell? ⟨g, 0, none⟩ = some u0) (h1 : w.cell? ⟨g, 1, none⟩ = some u1) (h2 : w.cell? ⟨g, 2, none⟩ = some u2) (hf : ∀ k, w.frozen? ⟨g, k, none⟩ = false) : (execOp a.eval o).run Try.prog w = .ok .skip (((w.setCell ⟨g, 0, none⟩ (.int .i64 s)).setCell ⟨g, 1, none⟩ (.slice pa pn pc)).setCell ⟨g, 2, none⟩ (.int .i64 t)) := by
  simp only [execOp, ho, hx, hy]
  simp [go_sem, h0, h1, h2, hf]
end
section
variable {P : Program} {md : Region.Mode} {ops : Array Oper} {Q : Exit → Act → World → Prop} {S : World → Prop} {fuel : Nat} {listed : Array Bool} {a : Act} {w : World}
/-- a call whose answer is new and a cell may come up: both orders -/
theorem d_twoN (T : Value → World → Prop) (i k j l : Nat) {oi oj : Oper} {f : FuncId} {args : Array Value} {u : Value} {w' : World} (hr : Region.ready md ops listed = [i, j]) (hi : ops[i]? = some oi) (hj : ops[j]? = some oj) (hd : oi.dst = some k) (hdj : oj.dst = some l) (hw : Region.wanted oi (yielded ops a.tmps) = true) (hwj : Region.wanted oj (yielded ops a.tmps) = true) (hrun : (execOp a.eval oi).run P w = .ok (.enter f args) w) (hrunj : (execOp a.eval oj).run P w = .ok (.value u) w')
    (hc : Calls P f args w fun e w'' => ∃ v, e = .returned v ∧ S w'' ∧ T v w'') (hS : S w') (h : ∀ v w'', S w'' → T v w'' → wpAnyH P md ops Q S fuel (listed.setIfInBounds i true) (a.put (some k) v) w'') (h' : wpAnyH P md ops Q S fuel (listed.setIfInBounds j true) (a.put (some l) u) w') : wpAnyH P md ops Q S (fuel + 1) listed a w := by
  refine wpAnyH_ready hr (by simp) (AllReadyH.cons hi (fun K hK => ?_) (AllReadyH.cons hj (fun K hK => ?_) AllReadyH.nil))
  · rw [if_pos hw]
    unfold Oper.wp
    rw [hrun]
    refine hc.mono ?_
    rintro e w'' ⟨v, rfl, hS, hT⟩
    exact hK.out _ _ hS (fun _ => by rw [hd]; exact h v w'' hS hT)
  · rw [if_pos hwj]
    unfold Oper.wp
    rw [hrunj]
    exact hK.out _ _ hS (fun _ => by rw [hdj]; exact h')
end
set_option maxHeartbeats 8000000 in
theorem exact_yes (n : Nat) (hn : n ≤ 65535) (G : Nat → Prop) (p : Option Addr) (sn sc : Nat) (os : List Op3) (W : World) (hx : Os3 W G p sn sc os) :
    Calls Try.prog 4 #[.int .i64 n, .slice p sn sc] W fun ex w' => ex = .returned (.bool true) ∧ Below W.heap.size W w' := by
  have HX : Hid (Os3 W G p sn sc os) := hx
  have hcap := hx.cap
  have hmax := hx.max
  have cN := lw_new n hn W
  clear hx
  go_enter Try.func4, Try.ntmps4
  go_upto_region 2 with (go_at_call 5; refine cN.mono ?_; rintro ex w1 ⟨b, rfl, hL1⟩)
  have cR := rnew_yes n hn w1
  unfold rv at cR
  have HL1 : Hid (Lw W w1 b n 0 []) := hL1
  clear cN hL1
  go_upto_region 3 with (go_at_call 16; refine cR.mono ?_; rintro ex w2 ⟨rfl, hb2⟩)
  have HX0 : Hid (Xs W w2.heap.size b n 0 [] [] (.slice none 0 0) (w2.alloc (.cells #[.int .i64 n, .slice none 0 0, .int .i64 0] 42))) := (by
    have h2 := HL1.out.below hb2
    have hb3 : Below w2.heap.size w2 (w2.alloc (.cells #[.int .i64 n, .slice none 0 0, .int .i64 0] 42)) := (Below.refl _ w2).alloc (Nat.le_refl _) _
    have h3 := h2.below hb3
    obtain ⟨F, g1, g2, g3⟩ := h2
    exact ⟨h3.bel, heap_last _ _, ⟨F, g1.below hb3, fun k hk => ⟨(g2 k hk).1, Nat.lt_of_lt_of_le (g2 k hk).2 hb3.size⟩, (fun e => by have := (g2 _ e).2; omega), (fun g hg => by cases hg)⟩, World.ownsRow_nil _ _ _ _, List.Perm.refl _, (fun e => by cases e), g3.size⟩)
  obtain ⟨q, hq⟩ : ∃ q, w2.heap.size = q := ⟨_, rfl⟩
  rw [hq] at HX0
  generalize w2.alloc (.cells #[.int .i64 n, .slice none 0 0, .int .i64 0] 42) = w3 at *
  rw [hq]
  clear hb2 cR hq HL1
  go_wp2
  go_loopw [9] (fun d wr => ∃ (j nx : Nat) (S T : List En) (v : Value), j ≤ sn ∧ d = .int .i64 j ∧ nx ≤ j ∧ Xs W q b n nx S T v wr) (fun d _ => sn - (intOf d).toNat)
  case atStart => exact ⟨0, 0, [], [], _, Nat.zero_le _, rfl, Nat.le_refl _, HX0.out⟩
  case round =>
    clear HX0
    obtain ⟨j, nx, S, T, v, hj, rfl, hnx, hX⟩ := hrel
    obtain ⟨m, hm⟩ : ∃ m, T.length = m := ⟨_, rfl⟩
    have hrow := hX.row
    rw [hm] at hrow
    obtain ⟨-, a, c, hv, -⟩ := owns_ref hrow
    subst hv
    have HXS : Hid (Xs W q b n nx S T (.slice a m c) wr) := hX
    have HM : Hid (T.length = m) := hm
    have q0 := cell_of_row (k := 0) (v := .int .i64 n) hX.box rfl
    have q1 := cell_of_row (k := 1) (v := .slice a m c) hX.box rfl
    have q2 := cell_of_row (k := 2) (v := .int .i64 nx) hX.box rfl
    by_cases hlt : j < sn
    · obtain ⟨x, hx⟩ : ∃ x, os[j]? = some x := ⟨_, List.getElem?_eq_getElem (by rw [HX.out.len]; exact hlt)⟩
      have hx6 := HX.out.i6 x (List.mem_of_getElem? hx)
      obtain ⟨g, o, rfl, _, r0, r1, r2⟩ := (HX.out.below hX.bel).at' j x hx
      obtain ⟨g', o', eg, _, r0W, _⟩ := HX.out.at' j x hx
      injection eg with eg
      injection eg with eg1 eg2 _
      subst eg1 eg2
      obtain ⟨xk, xi, xp⟩ := x
      dsimp only at r0 r1 r2 hx6 r0W
      have HX6 : Hid (I6 xk ∧ I6 xi ∧ I6 xp) := hx6
      clear hX hrow hx hx6 hm
      go_upto_region 10 with fail
      go_cut [10, 11] (fun s10 s11 wx => ∃ g v' nx' S' T', s10 = .pointer (some ⟨g, 0, none⟩) ∧ s11 = .bool true ∧ nx' ≤ nx + 1 ∧ Ys W q b n nx nx' g S' T' (.slice a m c) v' wx)
      case first =>
        have hXd : Xs W q b n nx S T (.slice a m c) wr.drew := HXS.out.below ⟨rfl, rfl, rfl, Nat.le_refl _, fun _ _ => rfl⟩
        obtain ⟨F, hL, hF, hFq, hvF⟩ := hXd.ln
        have hrd := hXd.row
        rw [HM.out] at hrd
        have hba : Below wr.drew.heap.size wr.drew (wr.drew.alloc (.cells #[.int .i64 0, .slice none 0 0, .int .i64 0] 42)) := (Below.refl _ wr.drew).alloc (Nat.le_refl _) _
        have cA := step_any hL (fun k hk => (hF k hk).2) hrd hXd.perm hvF (by omega) xk xi xp HX6.out
        have cB := step_any (hL.below hba) (fun k hk => Nat.lt_of_lt_of_le (hF k hk).2 hba.size) (hrd.alloc _) hXd.perm hvF (by omega) xk xi xp HX6.out
        have HY1 : Hid (∀ v' nx' S' T' w', Sx wr.drew F (.slice a m c) b n nx' S' T' v' w' → T'.Perm S' → Ys W q b n nx nx' w'.heap.size S' T' (.slice a m c) v' ((((w'.alloc (.cells #[.int .i64 0, .slice none 0 0, .int .i64 0] 42)).setCell ⟨w'.heap.size, 0, none⟩ (.int .i64 n)).setCell ⟨w'.heap.size, 1, none⟩ v').setCell ⟨w'.heap.size, 2, none⟩ (.int .i64 nx'))) := (fun v' nx' S' T' w' h1 h2 => ys_of1 hXd.bel hXd.box hF hFq hXd.nv hXd.hq h1 h2)
        have HY2 : Hid (∀ v' nx' S' T' w', Sx (wr.drew.alloc (.cells #[.int .i64 0, .slice none 0 0, .int .i64 0] 42)) F (.slice a m c) b n nx' S' T' v' w' → T'.Perm S' → Ys W q b n nx nx' wr.drew.heap.size S' T' (.slice a m c) v' (((w'.setCell ⟨wr.drew.heap.size, 0, none⟩ (.int .i64 n)).setCell ⟨wr.drew.heap.size, 1, none⟩ v').setCell ⟨wr.drew.heap.size, 2, none⟩ (.int .i64 nx'))) := (fun v' nx' S' T' w' h1 h2 => ys_of2 (Z := #[]) hXd.bel hXd.box hF hFq hXd.nv hXd.hq (fun g hg => (hrd.lt g hg).2) h1 h2)
        unfold rv at cA cB
        have HFG : Hid (¬ F wr.drew.heap.size) := (fun e => by have := (hF _ e).2; omega)
        have HZ : Hid ((wr.drew.alloc (.cells #[.int .i64 0, .slice none 0 0, .int .i64 0] 42)).heap[wr.drew.heap.size]? = some (.cells #[.int .i64 0, .slice none 0 0, .int .i64 0] 42)) := heap_last _ _
        have hgF : ¬ F g := fun e => by have h1 := (hF g e).1; have h2 : g < W.heap.size := cell_lt r0W; omega
        have HSK : Hid (∀ (w0 w'' : World), (fun w' : World => w'.cell? ⟨q, 0, none⟩ = some (.int .i64 n) ∧ w'.cell? ⟨q, 0 + 1, none⟩ = some (.slice a m c) ∧ w'.cell? ⟨q, 0 + 2, none⟩ = some (.int .i64 nx) ∧ w'.cell? ⟨g, o + j * 3, none⟩ = some (.int .i64 xk) ∧ w'.cell? ⟨g, o + j * 3 + 1, none⟩ = some (.int .i64 xi) ∧ w'.cell? ⟨g, o + j * 3 + 2, none⟩ = some (.int .i64 xp)) w0 → Kept F w0 w'' → (fun w' : World => w'.cell? ⟨q, 0, none⟩ = some (.int .i64 n) ∧ w'.cell? ⟨q, 0 + 1, none⟩ = some (.slice a m c) ∧ w'.cell? ⟨q, 0 + 2, none⟩ = some (.int .i64 nx) ∧ w'.cell? ⟨g, o + j * 3, none⟩ = some (.int .i64 xk) ∧ w'.cell? ⟨g, o + j * 3 + 1, none⟩ = some (.int .i64 xi) ∧ w'.cell? ⟨g, o + j * 3 + 2, none⟩ = some (.int .i64 xp)) w'') := (fun w0 w'' h k => ⟨k.cell h.1 hFq, k.cell h.2.1 hFq, k.cell h.2.2.1 hFq, k.cell h.2.2.2.1 hgF, k.cell h.2.2.2.2.1 hgF, k.cell h.2.2.2.2.2 hgF⟩)
        have HSK2 : Hid (∀ (G : Nat) (w0 w'' : World), q ≠ G → g ≠ G → (fun w' : World => w'.cell? ⟨q, 0, none⟩ = some (.int .i64 n) ∧ w'.cell? ⟨q, 0 + 1, none⟩ = some (.slice a m c) ∧ w'.cell? ⟨q, 0 + 2, none⟩ = some (.int .i64 nx) ∧ w'.cell? ⟨g, o + j * 3, none⟩ = some (.int .i64 xk) ∧ w'.cell? ⟨g, o + j * 3 + 1, none⟩ = some (.int .i64 xi) ∧ w'.cell? ⟨g, o + j * 3 + 2, none⟩ = some (.int .i64 xp)) w0 → Kept (fun k => k = G) w0 w'' → (fun w' : World => w'.cell? ⟨q, 0, none⟩ = some (.int .i64 n) ∧ w'.cell? ⟨q, 0 + 1, none⟩ = some (.slice a m c) ∧ w'.cell? ⟨q, 0 + 2, none⟩ = some (.int .i64 nx) ∧ w'.cell? ⟨g, o + j * 3, none⟩ = some (.int .i64 xk) ∧ w'.cell? ⟨g, o + j * 3 + 1, none⟩ = some (.int .i64 xi) ∧ w'.cell? ⟨g, o + j * 3 + 2, none⟩ = some (.int .i64 xp)) w'') := (fun G w0 w'' e1 e2 h k => ⟨k.cell h.1 e1, k.cell h.2.1 e1, k.cell h.2.2.1 e1, k.cell h.2.2.2.1 e2, k.cell h.2.2.2.2.1 e2, k.cell h.2.2.2.2.2 e2⟩)
        have hS0 : (fun w' : World => w'.cell? ⟨q, 0, none⟩ = some (.int .i64 n) ∧ w'.cell? ⟨q, 0 + 1, none⟩ = some (.slice a m c) ∧ w'.cell? ⟨q, 0 + 2, none⟩ = some (.int .i64 nx) ∧ w'.cell? ⟨g, o + j * 3, none⟩ = some (.int .i64 xk) ∧ w'.cell? ⟨g, o + j * 3 + 1, none⟩ = some (.int .i64 xi) ∧ w'.cell? ⟨g, o + j * 3 + 2, none⟩ = some (.int .i64 xp)) wr.drew := ⟨q0, q1, q2, r0, r1, r2⟩
        have hSz : (fun w' : World => w'.cell? ⟨q, 0, none⟩ = some (.int .i64 n) ∧ w'.cell? ⟨q, 0 + 1, none⟩ = some (.slice a m c) ∧ w'.cell? ⟨q, 0 + 2, none⟩ = some (.int .i64 nx) ∧ w'.cell? ⟨g, o + j * 3, none⟩ = some (.int .i64 xk) ∧ w'.cell? ⟨g, o + j * 3 + 1, none⟩ = some (.int .i64 xi) ∧ w'.cell? ⟨g, o + j * 3 + 2, none⟩ = some (.int .i64 xp)) (wr.drew.alloc (.cells #[.int .i64 0, .slice none 0 0, .int .i64 0] 42)) := HSK.out _ _ hS0 ((Kept.refl F wr.drew).alloc _)
        have CA : Calls Try.prog 17 #[.pointer (some ⟨b, 0, none⟩), .agg #[.int .i64 n, .slice a m c, .int .i64 nx], .agg #[.int .i64 xk, .int .i64 xi, .int .i64 xp]] wr.drew fun e w'' => ∃ v, e = .returned v ∧ (fun w' : World => w'.cell? ⟨q, 0, none⟩ = some (.int .i64 n) ∧ w'.cell? ⟨q, 0 + 1, none⟩ = some (.slice a m c) ∧ w'.cell? ⟨q, 0 + 2, none⟩ = some (.int .i64 nx) ∧ w'.cell? ⟨g, o + j * 3, none⟩ = some (.int .i64 xk) ∧ w'.cell? ⟨g, o + j * 3 + 1, none⟩ = some (.int .i64 xi) ∧ w'.cell? ⟨g, o + j * 3 + 2, none⟩ = some (.int .i64 xp)) w'' ∧ (fun (v : Value) (w'' : World) => ∃ (a5 : Option Addr) (n5 c5 nx' : Nat) (S' T' : List En), v = .tuple #[.agg #[.int .i64 n, .slice a5 n5 c5, .int .i64 nx'], .bool true] ∧ nx' ≤ nx + 1 ∧ Ys W q b n nx nx' w''.heap.size S' T' (.slice a m c) (.slice a5 n5 c5) ((((w''.alloc (.cells #[.int .i64 0, .slice none 0 0, .int .i64 0] 42)).setCell ⟨w''.heap.size, 0, none⟩ (.int .i64 n)).setCell ⟨w''.heap.size, 1, none⟩ (.slice a5 n5 c5)).setCell ⟨w''.heap.size, 2, none⟩ (.int .i64 nx'))) v w'' := cA.mono (fun e w'' ⟨v', nx', S', T', he, hn5, hp5, hs5⟩ => by
          obtain ⟨a5, n5, c5, hv5⟩ : ∃ a n c, v' = .slice a n c := (by
            obtain ⟨_, a, c, e, _⟩ := owns_ref hs5.row
            exact ⟨a, _, c, e⟩)
          subst hv5
          exact ⟨_, he, HSK.out _ _ hS0 hs5.kept, a5, n5, c5, nx', S', T', rfl, hn5, HY1.out _ _ _ _ _ hs5 hp5⟩)
        have CB : Calls Try.prog 17 #[.pointer (some ⟨b, 0, none⟩), .agg #[.int .i64 n, .slice a m c, .int .i64 nx], .agg #[.int .i64 xk, .int .i64 xi, .int .i64 xp]] (wr.drew.alloc (.cells #[.int .i64 0, .slice none 0 0, .int .i64 0] 42)) fun e w'' => ∃ v, e = .returned v ∧ (fun w' : World => w'.cell? ⟨q, 0, none⟩ = some (.int .i64 n) ∧ w'.cell? ⟨q, 0 + 1, none⟩ = some (.slice a m c) ∧ w'.cell? ⟨q, 0 + 2, none⟩ = some (.int .i64 nx) ∧ w'.cell? ⟨g, o + j * 3, none⟩ = some (.int .i64 xk) ∧ w'.cell? ⟨g, o + j * 3 + 1, none⟩ = some (.int .i64 xi) ∧ w'.cell? ⟨g, o + j * 3 + 2, none⟩ = some (.int .i64 xp)) w'' ∧ (fun (v : Value) (w'' : World) => ∃ (a5 : Option Addr) (n5 c5 nx' : Nat) (S' T' : List En), v = .tuple #[.agg #[.int .i64 n, .slice a5 n5 c5, .int .i64 nx'], .bool true] ∧ nx' ≤ nx + 1 ∧ w''.heap[wr.drew.heap.size]? = some (.cells #[.int .i64 0, .slice none 0 0, .int .i64 0] 42) ∧ Ys W q b n nx nx' wr.drew.heap.size S' T' (.slice a m c) (.slice a5 n5 c5) (((w''.setCell ⟨wr.drew.heap.size, 0, none⟩ (.int .i64 n)).setCell ⟨wr.drew.heap.size, 1, none⟩ (.slice a5 n5 c5)).setCell ⟨wr.drew.heap.size, 2, none⟩ (.int .i64 nx'))) v w'' := cB.mono (fun e w'' ⟨v', nx', S', T', he, hn5, hp5, hs5⟩ => by
          obtain ⟨a5, n5, c5, hv5⟩ : ∃ a n c, v' = .slice a n c := (by
            obtain ⟨_, a, c, e, _⟩ := owns_ref hs5.row
            exact ⟨a, _, c, e⟩)
          subst hv5
          exact ⟨_, he, HSK.out _ _ hSz hs5.kept, a5, n5, c5, nx', S', T', rfl, hn5, hs5.kept.at' HZ.out HFG.out, HY2.out _ _ _ _ _ hs5 hp5⟩)
        clear hXd hL hF hFq hvF hrd hba cA cB
        refine wp_region_held_drew (S := (fun w' : World => w'.cell? ⟨q, 0, none⟩ = some (.int .i64 n) ∧ w'.cell? ⟨q, 0 + 1, none⟩ = some (.slice a m c) ∧ w'.cell? ⟨q, 0 + 2, none⟩ = some (.int .i64 nx) ∧ w'.cell? ⟨g, o + j * 3, none⟩ = some (.int .i64 xk) ∧ w'.cell? ⟨g, o + j * 3 + 1, none⟩ = some (.int .i64 xi) ∧ w'.cell? ⟨g, o + j * 3 + 2, none⟩ = some (.int .i64 xp))) (by kernel_rfl) hS0 (fun hS => ?_)
        refine d_take 0 40 rfl rfl (by kernel_rfl) (by kernel_rfl) (by kernel_rfl) (fun _ _ _ h => h) rfl (fun w' hw' => er_mv _ rfl (.pointer (some ⟨b, 0, none⟩)) rfl) hS ?_
        simp only [Act.put, List.setIfInBounds_toArray, List.set_cons_zero, List.set_cons_succ]
        refine d_take 1 41 rfl rfl (by kernel_rfl) (by kernel_rfl) (by kernel_rfl) (fun _ _ _ h => h) rfl (fun w' hw' => er_load42 _ rfl q 0 _ _ _ rfl hw'.1 hw'.2.1 hw'.2.2.1) hS ?_
        simp only [Act.put, List.setIfInBounds_toArray, List.set_cons_zero, List.set_cons_succ]
        refine d_take 2 42 rfl rfl (by kernel_rfl) (by kernel_rfl) (by kernel_rfl) (fun _ _ _ h => h) rfl (fun w' hw' => er_mv _ rfl (.slice (some ⟨g, o, none⟩) sn sc) rfl) hS ?_
        simp only [Act.put, List.setIfInBounds_toArray, List.set_cons_zero, List.set_cons_succ]
        refine d_take 3 43 rfl rfl (by kernel_rfl) (by kernel_rfl) (by kernel_rfl) (fun _ _ _ h => h) rfl (fun w' hw' => er_mv _ rfl (.int .i64 j) rfl) hS ?_
        simp only [Act.put, List.setIfInBounds_toArray, List.set_cons_zero, List.set_cons_succ]
        refine d_take 4 44 rfl rfl (by kernel_rfl) (by kernel_rfl) (by kernel_rfl) (fun _ _ _ h => h) rfl (fun w' hw' => er_idx22 _ _ rfl g o sn sc j hlt (by omega) rfl rfl) hS ?_
        simp only [Act.put, List.setIfInBounds_toArray, List.set_cons_zero, List.set_cons_succ]
        refine d_take 5 45 rfl rfl (by kernel_rfl) (by kernel_rfl) (by kernel_rfl) (fun _ _ _ h => h) rfl (fun w' hw' => er_load28 _ rfl g (o + j * 3) _ _ _ rfl hw'.2.2.2.1 hw'.2.2.2.2.1 hw'.2.2.2.2.2) hS ?_
        simp only [Act.put, List.setIfInBounds_toArray, List.set_cons_zero, List.set_cons_succ]
        refine d_twoN (fun (v : Value) (w'' : World) => ∃ (a5 : Option Addr) (n5 c5 nx' : Nat) (S' T' : List En), v = .tuple #[.agg #[.int .i64 n, .slice a5 n5 c5, .int .i64 nx'], .bool true] ∧ nx' ≤ nx + 1 ∧ Ys W q b n nx nx' w''.heap.size S' T' (.slice a m c) (.slice a5 n5 c5) ((((w''.alloc (.cells #[.int .i64 0, .slice none 0 0, .int .i64 0] 42)).setCell ⟨w''.heap.size, 0, none⟩ (.int .i64 n)).setCell ⟨w''.heap.size, 1, none⟩ (.slice a5 n5 c5)).setCell ⟨w''.heap.size, 2, none⟩ (.int .i64 nx'))) 6 46 10 10 (by kernel_rfl) rfl rfl rfl rfl rfl rfl (er_call_step _ _ _ _ rfl) (er_alloc42 rfl) CA hSz ?_ ?_
        · intro v w5 hS hT
          obtain ⟨a5, n5, c5, nx', S', T', rfl, hn5, hY5⟩ := hT
          simp only [Act.put, List.setIfInBounds_toArray, List.set_cons_zero, List.set_cons_succ]
          refine d_take 7 39 rfl rfl (by kernel_rfl) (by kernel_rfl) (by kernel_rfl) (fun _ _ _ h => h) rfl (fun w' hw' => er_mv _ rfl _ rfl) hS ?_
          simp only [Act.put, List.setIfInBounds_toArray, List.set_cons_zero, List.set_cons_succ]
          refine d_take 8 47 rfl rfl (by kernel_rfl) (by kernel_rfl) (by kernel_rfl) (fun _ _ _ h => h) rfl (fun w' hw' => er_ext0 _ rfl _ _ rfl) hS ?_
          simp only [Act.put, List.setIfInBounds_toArray, List.set_cons_zero, List.set_cons_succ]
          refine d_take 9 48 rfl rfl (by kernel_rfl) (by kernel_rfl) (by kernel_rfl) (fun _ _ _ h => h) rfl (fun w' hw' => er_ext1 _ rfl _ _ rfl) hS ?_
          simp only [Act.put, List.setIfInBounds_toArray, List.set_cons_zero, List.set_cons_succ]
          have hSa := HSK.out _ _ hS ((Kept.refl F w5).alloc (.cells #[.int .i64 0, .slice none 0 0, .int .i64 0] 42))
          refine d_make 10 10 (by kernel_rfl) rfl rfl rfl (er_alloc42 rfl) hSa ?_
          simp only [Act.put, List.setIfInBounds_toArray, List.set_cons_zero, List.set_cons_succ]
          have hz5 := heap_last w5 (.cells #[.int .i64 0, .slice none 0 0, .int .i64 0] 42)
          have hql : q < w5.heap.size := cell_lt hS.1
          have hgl : g < w5.heap.size := cell_lt hS.2.2.2.1
          have hSb := HSK2.out w5.heap.size _ _ (by omega) (by omega) hSa (set3_keptF (q := w5.heap.size) _ (.int .i64 n) (.slice a5 n5 c5) (.int .i64 nx'))
          refine d_turn 11 (by kernel_rfl) rfl rfl rfl (er_store42 _ _ rfl w5.heap.size _ _ _ n nx' a5 n5 c5 rfl rfl (cell_of_row (k := 0) hz5 rfl) (cell_of_row (k := 1) hz5 rfl) (cell_of_row (k := 2) hz5 rfl) (fz_row hz5)) hSb ?_
          refine d_read 12 11 (by kernel_rfl) rfl rfl rfl (er_as _ rfl (.bool true) rfl) hSb ?_
          simp only [Act.put, List.setIfInBounds_toArray, List.set_cons_zero, List.set_cons_succ]
          refine wpAnyH_done (by kernel_rfl) ?_ _
          go_wp2
          go_meet
          exact ⟨w5.heap.size, .slice a5 n5 c5, nx', S', T', rfl, rfl, hn5, by rw [fold3] at hY5; exact hY5⟩
        · simp only [Act.put, List.setIfInBounds_toArray, List.set_cons_zero, List.set_cons_succ]
          refine d_callN (fun (v : Value) (w'' : World) => ∃ (a5 : Option Addr) (n5 c5 nx' : Nat) (S' T' : List En), v = .tuple #[.agg #[.int .i64 n, .slice a5 n5 c5, .int .i64 nx'], .bool true] ∧ nx' ≤ nx + 1 ∧ w''.heap[wr.drew.heap.size]? = some (.cells #[.int .i64 0, .slice none 0 0, .int .i64 0] 42) ∧ Ys W q b n nx nx' wr.drew.heap.size S' T' (.slice a m c) (.slice a5 n5 c5) (((w''.setCell ⟨wr.drew.heap.size, 0, none⟩ (.int .i64 n)).setCell ⟨wr.drew.heap.size, 1, none⟩ (.slice a5 n5 c5)).setCell ⟨wr.drew.heap.size, 2, none⟩ (.int .i64 nx'))) 6 46 (by kernel_rfl) rfl rfl rfl (er_call_step _ _ _ _ rfl) CB ?_
          intro v w5 hS hT
          obtain ⟨a5, n5, c5, nx', S', T', rfl, hn5, hz5, hY5⟩ := hT
          simp only [Act.put, List.setIfInBounds_toArray, List.set_cons_zero, List.set_cons_succ]
          refine d_take 7 39 rfl rfl (by kernel_rfl) (by kernel_rfl) (by kernel_rfl) (fun _ _ _ h => h) rfl (fun w' hw' => er_mv _ rfl _ rfl) hS ?_
          simp only [Act.put, List.setIfInBounds_toArray, List.set_cons_zero, List.set_cons_succ]
          refine d_take 8 47 rfl rfl (by kernel_rfl) (by kernel_rfl) (by kernel_rfl) (fun _ _ _ h => h) rfl (fun w' hw' => er_ext0 _ rfl _ _ rfl) hS ?_
          simp only [Act.put, List.setIfInBounds_toArray, List.set_cons_zero, List.set_cons_succ]
          refine d_take 9 48 rfl rfl (by kernel_rfl) (by kernel_rfl) (by kernel_rfl) (fun _ _ _ h => h) rfl (fun w' hw' => er_ext1 _ rfl _ _ rfl) hS ?_
          simp only [Act.put, List.setIfInBounds_toArray, List.set_cons_zero, List.set_cons_succ]
          have hql : q < wr.drew.heap.size := cell_lt hS0.1
          have hgl : g < wr.drew.heap.size := cell_lt hS0.2.2.2.1
          have hSb := HSK2.out wr.drew.heap.size _ _ (by omega) (by omega) hS (set3_keptF (q := wr.drew.heap.size) _ (.int .i64 n) (.slice a5 n5 c5) (.int .i64 nx'))
          refine d_turn 11 (by kernel_rfl) rfl rfl rfl (er_store42 _ _ rfl wr.drew.heap.size _ _ _ n nx' a5 n5 c5 rfl rfl (cell_of_row (k := 0) hz5 rfl) (cell_of_row (k := 1) hz5 rfl) (cell_of_row (k := 2) hz5 rfl) (fz_row hz5)) hSb ?_
          refine d_read 12 11 (by kernel_rfl) rfl rfl rfl (er_as _ rfl (.bool true) rfl) hSb ?_
          simp only [Act.put, List.setIfInBounds_toArray, List.set_cons_zero, List.set_cons_succ]
          refine wpAnyH_done (by kernel_rfl) ?_ _
          go_wp2
          go_meet
          exact ⟨wr.drew.heap.size, .slice a5 n5 c5, nx', S', T', rfl, rfl, hn5, hY5⟩
      case rest =>
        obtain ⟨g2, v', nx', S', T', rfl, rfl, hn', hY⟩ := hcut
        obtain ⟨m', hm'⟩ : ∃ m', T'.length = m' := ⟨_, rfl⟩
        have hrow := hY.row
        rw [hm'] at hrow
        obtain ⟨-, a', c', hv', -⟩ := owns_ref hrow
        subst hv'
        have x0 := cell_of_row (k := 0) (v := .int .i64 n) hY.box rfl
        have x1 := cell_of_row (k := 1) (v := .slice a m c) hY.box rfl
        have x2 := cell_of_row (k := 2) (v := .int .i64 nx) hY.box rfl
        have xf := fz_row hY.box
        have y0 := cell_of_row (k := 0) (v := .int .i64 n) hY.new rfl
        have y1 := cell_of_row (k := 1) (v := .slice a' m' c') hY.new rfl
        have y2 := cell_of_row (k := 2) (v := .int .i64 nx') hY.new rfl
        have HX6' : Hid (Xs W q b n nx' S' T' (.slice a' m' c') (((wc.setCell ⟨q, 0, none⟩ (.int .i64 n)).setCell ⟨q, 1, none⟩ (.slice a' m' c')).setCell ⟨q, 2, none⟩ (.int .i64 nx'))) := hY.set
        have HM' : Hid (T'.length = m') := hm'
        clear hY hrow hm'
        go_upto_region 12 with fail
        generalize ((wc.setCell ⟨q, 0, none⟩ (.int .i64 n)).setCell ⟨q, 1, none⟩ (.slice a' m' c')).setCell ⟨q, 2, none⟩ (.int .i64 nx') = w6 at *
        clear x0 x1 x2 xf y0 y1 y2
        have z0 := cell_of_row (k := 0) (v := .int .i64 n) HX6'.out.box rfl
        have z1 := cell_of_row (k := 1) (v := .slice a' m' c') HX6'.out.box rfl
        have z2 := cell_of_row (k := 2) (v := .int .i64 nx') HX6'.out.box rfl
        have cL : Calls Try.prog 18 #[.pointer (some ⟨b, 0, none⟩), .agg #[.int .i64 n, .slice a' m' c', .int .i64 nx']] w6 fun ex w' => ex = .returned (.bool true) ∧ Below w6.heap.size w6 w' := (by
          obtain ⟨F, h1, h2, h3, h4⟩ := HX6'.out.ln
          have hr := HX6'.out.row
          rw [HM'.out] at hr
          exact listed_any (N := n) (t := nx') h1 (fun k hk => (h2 k hk).2) hr HX6'.out.perm)
        go_wp2_with (go_at_call 18; refine cL.mono ?_; rintro ex w7 ⟨rfl, hb7⟩)
        go_roundw
        case rel => exact ⟨j + 1, nx', S', T', _, by omega, by go_num, by omega, HX6'.out.below hb7⟩
        case measure => simp [intOf]; omega
    · have cL : Calls Try.prog 18 #[.pointer (some ⟨b, 0, none⟩), .agg #[.int .i64 n, .slice a m c, .int .i64 nx]] wr fun ex w' => ex = .returned (.bool true) ∧ Below wr.heap.size wr w' := (by
        obtain ⟨F, h1, h2, h3, h4⟩ := hX.ln
        exact listed_any (N := n) (t := nx) h1 (fun k hk => (h2 k hk).2) hrow hX.perm)
      clear hX hrow
      go_wp2_with (go_at_call 18; refine cL.mono ?_; rintro ex w7 ⟨rfl, hb7⟩)
      go_ret
      exact ⟨rfl, HXS.out.bel.trans (hb7.mono HXS.out.bel.size)⟩
theorem exact_walk (n : Int) (p : Option Addr) (sn sc : Nat) (os : List Op3) (W : World) (hx : Os3 W (fun k => k < W.heap.size) p sn sc os) : Calls Try.prog 4 #[.int .i64 n, .slice p sn sc] W fun ex w' => ex = .returned (.bool true) ∧ Below W.heap.size W w' := by
  by_cases h : n < 0 ∨ n > 65535
  · exact exact_no n h p sn sc W
  · obtain ⟨k, rfl⟩ : ∃ k : Nat, n = k := ⟨n.toNat, by omega⟩
    exact exact_yes k (by omega) _ p sn sc os W hx
end Go.Proofs.Yteiakmjdjaodlaa
