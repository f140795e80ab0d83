/-
  One text: OTaken.
-/
import Derived.Test.YtibmgpinfdcaoaaGreatDoorHOTake
namespace Go.Proofs.YtibmgpinfdcaoaaGreatDoor
open Go.RowKit Go.Shelf Plain
set_option linter.unusedVariables false
set_option maxRecDepth 100000

/-- the boxes and rows of taken -/
structure TkB (W : World) (n H bS gS cS bC gC cC bH : Nat) (sf sb : Nat → Nat) (cv : Nat → Int) : Prop where
  b1 : W.heap[bS]? = some (.cells #[.slice (some ⟨gS, 0, none⟩) n cS] 58)
  b2 : W.heap[bC]? = some (.cells #[.slice (some ⟨gC, 0, none⟩) n cC] 25)
  b3 : W.heap[bH]? = some (.cells #[.int .i64 H] 3)
  s : ∀ i, i < n → W.cell? ⟨gS, i * 2, none⟩ = some (.int .i64 (sf i)) ∧ W.cell? ⟨gS, i * 2 + 1, none⟩ = some (.int .i64 (sb i))
  c : ∀ i, i < n → W.cell? ⟨gC, i, none⟩ = some (.int .i64 (cv i))
  f : ∀ i, W.frozen? ⟨gC, i, none⟩ = false
  l1 : gS < W.heap.size
  l2 : gC < W.heap.size
def Five (bS gS bC gC bH : Nat) : Nat → Prop := fun k => k = bS ∨ k = gS ∨ k = bC ∨ k = gC ∨ k = bH
theorem TkB.same {W W' : World} {n H bS gS cS bC gC cC bH : Nat} {sf sb : Nat → Nat} {cv : Nat → Int} (h : TkB W n H bS gS cS bC gC cC bH sf sb cv) (hs : W.heap.size ≤ W'.heap.size) (hk : ∀ k, Five bS gS bC gC bH k → W'.heap[k]? = W.heap[k]?) : TkB W' n H bS gS cS bC gC cC bH sf sb cv := by
  have e1 : ∀ i, W'.cell? ⟨gS, i, none⟩ = W.cell? ⟨gS, i, none⟩ := fun i => World.cell?_of_block (hk gS (.inr (.inl rfl)))
  have e2 : ∀ i, W'.cell? ⟨gC, i, none⟩ = W.cell? ⟨gC, i, none⟩ := fun i => World.cell?_of_block (hk gC (.inr (.inr (.inr (.inl rfl)))))
  refine ⟨(hk _ (.inl rfl)).trans h.b1, (hk _ (.inr (.inr (.inl rfl)))).trans h.b2, (hk _ (.inr (.inr (.inr (.inr rfl))))).trans h.b3, fun i hi => by rw [e1, e1]; exact h.s i hi, fun i hi => by rw [e2]; exact h.c i hi, fun i => ?_, by have := h.l1; omega, by have := h.l2; omega⟩
  have := h.f i
  simp only [World.frozen?] at this ⊢
  rw [hk gC (.inr (.inr (.inr (.inl rfl))))]
  exact this
theorem TkB.keep {W W' : World} {n H bS gS cS bC gC cC bH : Nat} {sf sb : Nat → Nat} {cv : Nat → Int} (h : TkB W n H bS gS cS bC gC cC bH sf sb cv) (hk : Kept No W W') : TkB W' n H bS gS cS bC gC cC bH sf sb cv :=
  h.same hk.size (fun k h5 => hk.block k (by
    rcases h5 with e | e | e | e | e <;> subst e
    · exact heap_lt h.b1
    · exact h.l1
    · exact heap_lt h.b2
    · exact h.l2
    · exact heap_lt h.b3) (fun h => h))
def cvF (f : Nat → Nat) (H : Nat) (sf sb : Nat → Nat) (q : Nat) (i : Nat) : Int := (Rule.acc f (i + 1) H (sb i) q : Int) - (Rule.acc f (i + 1) H (sf i) q : Int)
def Tk (f : Nat → Nat) (n H bS gS cS bC gC cC bH : Nat) (sf sb : Nat → Nat) : St := fun q W S => S = Five bS gS bC gC bH ∧ TkB W n H bS gS cS bC gC cC bH sf sb (cvF f H sf sb q)
theorem Tk.hangs (f : Nat → Nat) (n H bS gS cS bC gC cC bH : Nat) (sf sb : Nat → Nat) : Hangs (Tk f n H bS gS cS bC gC cC bH sf sb) := by
  refine ⟨?_, ?_⟩
  · rintro q W S ⟨rfl, h⟩ k (e | e | e | e | e) <;> subst e
    · exact heap_lt h.b1
    · exact h.l1
    · exact heap_lt h.b2
    · exact h.l2
    · exact heap_lt h.b3
  · rintro q W W' S ⟨rfl, h⟩ hs hk
    exact ⟨rfl, h.same hs hk⟩
theorem TkB.set {W : World} {n H bS gS cS bC gC cC bH : Nat} {sf sb : Nat → Nat} {cv cv' : Nat → Int} (h : TkB W n H bS gS cS bC gC cC bH sf sb cv) {i : Nat} (hi : i < n) (h1 : gC ≠ bS) (h2 : gC ≠ gS) (h3 : gC ≠ bC) (h4 : gC ≠ bH) (hc : ∀ j, j < n → cv' j = if j = i then cv' i else cv j) :
    TkB (W.setCell ⟨gC, i, none⟩ (.int .i64 (cv' i))) n H bS gS cS bC gC cC bH sf sb cv' := by
  have e1 : ∀ k, k ≠ gC → (W.setCell ⟨gC, i, none⟩ (.int .i64 (cv' i))).heap[k]? = W.heap[k]? := fun k hk => Below.heap_setCell _ _ _ _ hk
  have e2 : ∀ j, (W.setCell ⟨gC, i, none⟩ (.int .i64 (cv' i))).cell? ⟨gS, j, none⟩ = W.cell? ⟨gS, j, none⟩ := fun j => World.cell?_of_block (e1 gS (Ne.symm h2))
  refine ⟨(e1 _ (Ne.symm h1)).trans h.b1, (e1 _ (Ne.symm h3)).trans h.b2, (e1 _ (Ne.symm h4)).trans h.b3, fun j hj => by rw [e2, e2]; exact h.s j hj, fun j hj => ?_, fun j => by rw [World.frozen?_setCell]; exact h.f j, by simpa [World.setCell] using h.l1, by simpa [World.setCell] using h.l2⟩
  rw [cell_set (h.c j hj), hc j hj]
  by_cases e : j = i
  · subst e; rw [if_pos rfl, if_pos rfl]
  · rw [if_neg e, if_neg e]

theorem tbox1 {w1 : World} {o1 o2 : Obj} : ∃ B8 B9, Value.pointer (some ⟨w1.heap.size, 0, none⟩) = .pointer (some ⟨B8, 0, none⟩) ∧ Value.pointer (some ⟨w1.heap.size + 1, 0, none⟩) = .pointer (some ⟨B9, 0, none⟩) ∧ (((w1.alloc o1).alloc o2).drew).heap[B8]? = some o1 ∧ (((w1.alloc o1).alloc o2).drew).heap[B9]? = some o2 ∧ Kept No w1 (((w1.alloc o1).alloc o2).drew) ∧ w1.heap.size ≤ B8 ∧ w1.heap.size ≤ B9 := by
  obtain ⟨e1, e2⟩ := heap_alloc2 (w := w1) (o1 := o1) (o2 := o2)
  exact ⟨_, _, rfl, rfl, e1, e2, (((Kept.refl No w1).alloc _).alloc _).drew, by omega, by omega⟩
theorem tbox2 {w1 : World} {o1 o2 : Obj} : ∃ B8 B9, Value.pointer (some ⟨w1.heap.size + 1, 0, none⟩) = .pointer (some ⟨B8, 0, none⟩) ∧ Value.pointer (some ⟨w1.heap.size, 0, none⟩) = .pointer (some ⟨B9, 0, none⟩) ∧ (((w1.alloc o2).alloc o1).drew).heap[B8]? = some o1 ∧ (((w1.alloc o2).alloc o1).drew).heap[B9]? = some o2 ∧ Kept No w1 (((w1.alloc o2).alloc o1).drew) ∧ w1.heap.size ≤ B8 ∧ w1.heap.size ≤ B9 := by
  obtain ⟨e1, e2⟩ := heap_alloc2 (w := w1) (o1 := o2) (o2 := o1)
  exact ⟨_, _, rfl, rfl, e2, e1, (((Kept.refl No w1).alloc _).alloc _).drew, by omega, by omega⟩
theorem frozen_keep {w w' : World} {g i : Nat} {v : Value} (h : Kept No w w') (hc : w.cell? ⟨g, i, none⟩ = some v) (hf : w.frozen? ⟨g, i, none⟩ = false) : w'.frozen? ⟨g, i, none⟩ = false := by
  have e := h.block g (cell_lt hc) (fun h => h)
  simp only [World.frozen?] at hf ⊢
  rw [e]; exact hf

section
variable {P : Program} {md : Region.Mode} {ops : Array Oper} {Q : Exit → Act → World → Prop} {S : World → Prop} {fuel : Nat} {listed : Array Bool} {a : Act} {w : World} {i : Nat}
theorem st_read (k : Nat) {oi : Oper} {v : Value} (hd : oi.dst = some k) (hw : Region.wanted oi (yielded ops a.tmps) = true) (hrun : (execOp a.eval oi).run P w = .ok (.value v) w) (hS : S w) (h : wpAnyH P md ops Q S fuel (listed.setIfInBounds i true) (a.put (some k) v) w) :
    ∀ K' : Act → World → Prop, Shut (∀ a w, S w → (S w → wpAnyH P md ops Q S fuel (listed.setIfInBounds i true) a w) → K' a w) → if Region.wanted oi (yielded ops a.tmps) = true then Oper.wp P oi a w K' Q else K' (a.put oi.dst undef) w := fun K hK => by
  rw [if_pos hw]
  unfold Oper.wp
  rw [hrun]
  exact hK.out _ _ hS (fun _ => by rw [hd]; exact h)
theorem st_call (T : World → Prop) (k : Nat) {oi : Oper} {f : FuncId} {args : Array Value} {v : Value} (hd : oi.dst = some k) (hw : Region.wanted oi (yielded ops a.tmps) = true) (hrun : (execOp a.eval oi).run P w = .ok (.enter f args) w) (hc : Calls P f args w fun e w'' => e = .returned v ∧ S w'' ∧ T w'') (h : ∀ w'', S w'' → T w'' → wpAnyH P md ops Q S fuel (listed.setIfInBounds i true) (a.put (some k) v) w'') :
    ∀ K' : Act → World → Prop, Shut (∀ a w, S w → (S w → wpAnyH P md ops Q S fuel (listed.setIfInBounds i true) a w) → K' a w) → if Region.wanted oi (yielded ops a.tmps) = true then Oper.wp P oi a w K' Q else K' (a.put oi.dst undef) w := fun K hK => by
  rw [if_pos hw]
  unfold Oper.wp
  rw [hrun]
  refine hc.mono ?_
  rintro e w'' ⟨rfl, hS, hT⟩
  exact hK.out _ _ hS (fun _ => by rw [hd]; exact h w'' hS hT)
end
section
variable {o : Oper} {ac : Act} {w : World}
theorem er_ldis (x : Operand) (ho : o.op = .load 25 x) (g off : Nat) (v : Value) (hx : ac.eval x = .pointer (some ⟨g, off, none⟩)) (hr : w.cell? ⟨g, off, none⟩ = some v) : (execOp ac.eval o).run Tryz.prog w = .ok (.value v) w := by
  simp only [execOp, ho, hx]; simp [go_sem, hr]
theorem er_idxi (x y : Operand) (ho : o.op = .indexAddr 25 x y) (b off n c d : Nat) (hd : d < n) (hn : n ≤ 9223372036854775807) (hx : ac.eval x = .slice (some ⟨b, off, none⟩) n c) (hy : ac.eval y = .int .i64 d) : (execOp ac.eval o).run Tryz.prog w = .ok (.value (.pointer (some ⟨b, off + d, none⟩))) w := by
  simp only [execOp, ho, hx, hy]
  simp [go_sem, add_none]
  omega
theorem er_c_comesBelow (x0 x1 x2 : Operand) (ts : Array TypeId) (ho : o.op = .call { callee := .value (.func 46), args := #[x0, x1, x2], argTypes := ts }) (v0 v1 v2 : Value) (h0 : ac.eval x0 = v0) (h1 : ac.eval x1 = v1) (h2 : ac.eval x2 = v2) : (execOp ac.eval o).run Tryz.prog w = .ok (.enter 46 #[v0, v1, v2]) w := by
  subst h0; subst h1; subst h2
  simp [execOp, ho, go_sem, Act.eval]
end
theorem skeep {w w' : World} {b0 b1 b2 b3 b4 b5 b6 o0 o1 o2 o3 o4 o5 o6 : Nat} {v0 v1 v2 v3 v4 v5 v6 : Value} (h : w.cell? ⟨b0, o0, none⟩ = some v0 ∧ w.cell? ⟨b1, o1, none⟩ = some v1 ∧ w.cell? ⟨b2, o2, none⟩ = some v2 ∧ w.cell? ⟨b3, o3, none⟩ = some v3 ∧ w.cell? ⟨b4, o4, none⟩ = some v4 ∧ w.cell? ⟨b5, o5, none⟩ = some v5 ∧ w.cell? ⟨b6, o6, none⟩ = some v6) (hk : Kept No w w') :
    w'.cell? ⟨b0, o0, none⟩ = some v0 ∧ w'.cell? ⟨b1, o1, none⟩ = some v1 ∧ w'.cell? ⟨b2, o2, none⟩ = some v2 ∧ w'.cell? ⟨b3, o3, none⟩ = some v3 ∧ w'.cell? ⟨b4, o4, none⟩ = some v4 ∧ w'.cell? ⟨b5, o5, none⟩ = some v5 ∧ w'.cell? ⟨b6, o6, none⟩ = some v6 :=
  ⟨hk.cell h.1 (fun h => h), hk.cell h.2.1 (fun h => h), hk.cell h.2.2.1 (fun h => h), hk.cell h.2.2.2.1 (fun h => h), hk.cell h.2.2.2.2.1 (fun h => h), hk.cell h.2.2.2.2.2.1 (fun h => h), hk.cell h.2.2.2.2.2.2 (fun h => h)⟩
theorem sset {w : World} {g j b0 b1 b2 b4 b6 o0 o1 o2 o3 o4 o5 o6 : Nat} {v v0 v1 v2 v3 v4 v5 v6 : Value} (h : w.cell? ⟨b0, o0, none⟩ = some v0 ∧ w.cell? ⟨b1, o1, none⟩ = some v1 ∧ w.cell? ⟨b2, o2, none⟩ = some v2 ∧ w.cell? ⟨b2, o3, none⟩ = some v3 ∧ w.cell? ⟨b4, o4, none⟩ = some v4 ∧ w.cell? ⟨b4, o5, none⟩ = some v5 ∧ w.cell? ⟨b6, o6, none⟩ = some v6) (n1 : g ≠ b1) (n2 : g ≠ b2) (n4 : g ≠ b4) (n0 : g ≠ b0) (n6 : g ≠ b6) :
    (w.setCell ⟨g, j, none⟩ v).cell? ⟨b0, o0, none⟩ = some v0 ∧ (w.setCell ⟨g, j, none⟩ v).cell? ⟨b1, o1, none⟩ = some v1 ∧ (w.setCell ⟨g, j, none⟩ v).cell? ⟨b2, o2, none⟩ = some v2 ∧ (w.setCell ⟨g, j, none⟩ v).cell? ⟨b2, o3, none⟩ = some v3 ∧ (w.setCell ⟨g, j, none⟩ v).cell? ⟨b4, o4, none⟩ = some v4 ∧ (w.setCell ⟨g, j, none⟩ v).cell? ⟨b4, o5, none⟩ = some v5 ∧ (w.setCell ⟨g, j, none⟩ v).cell? ⟨b6, o6, none⟩ = some v6 := by
  refine ⟨?_, ?_, ?_, ?_, ?_, ?_, ?_⟩
  · rw [World.cell?_setCell_far _ _ _ _ n0]; exact h.1
  · rw [World.cell?_setCell_far _ _ _ _ n1]; exact h.2.1
  · rw [World.cell?_setCell_far _ _ _ _ n2]; exact h.2.2.1
  · rw [World.cell?_setCell_far _ _ _ _ n2]; exact h.2.2.2.1
  · rw [World.cell?_setCell_far _ _ _ _ n4]; exact h.2.2.2.2.1
  · rw [World.cell?_setCell_far _ _ _ _ n4]; exact h.2.2.2.2.2.1
  · rw [World.cell?_setCell_far _ _ _ _ n6]; exact h.2.2.2.2.2.2

set_option maxHeartbeats 8000000 in
theorem taken1_does {f : Nat → Nat} {n H bS gS cS bC gC cC bH b : Nat} {sf sb : Nat → Nat} (hfn : ∀ u, f u ≤ n) (hn : n ≤ 32) (hH1 : 1 ≤ H) (hH2 : H ≤ 1048576) (hb : b ≤ 2 * H) (hs : ∀ i, i < n → sf i ≤ 1099511627776 ∧ sb i ≤ 1099511627776) (h1 : gC ≠ bS) (h2 : gC ≠ gS) (h3 : gC ≠ bC) (h4 : gC ≠ bH) :
    Does Tryz.prog 45 #[.pointer (some ⟨bS, 0, none⟩), .pointer (some ⟨bC, 0, none⟩), .pointer (some ⟨bH, 0, none⟩)] f b (Tk f n H bS gS cS bC gC cC bH sf sb) (fun _ _ _ => False) := by
  intro q len W S hI hl1 hl2 hl3
  obtain ⟨rfl, hI⟩ := hI
  by_cases hp : f q = 0
  · have HF : Hid (Took (Tk f n H bS gS cS bC gC cC bH sf sb) (fun _ _ _ => False) (q + len) W (Five bS gS bC gC bH) (.returned (.bool true)) (W.alloc (.cells #[.int .i64 len, .int .i64 0] 79))) := by
      have hk : Kept No W (W.alloc (.cells #[.int .i64 len, .int .i64 0] 79)) := (Kept.refl No W).alloc _
      refine ⟨Five bS gS bC gC bH, hk.mono (fun _ h => h.elim), More.refl _ _, .inl ⟨rfl, rfl, ?_⟩⟩
      have e : cvF f H sf sb (q + len) = cvF f H sf sb q := by
        funext i
        unfold cvF
        rw [Rule.acc_step f (i + 1) (f q) H (sb i) q len hl3, Rule.acc_step f (i + 1) (f q) H (sf i) q len hl3, if_neg (by omega), if_neg (by omega)]
        rfl
      rw [e]
      exact hI.keep hk
    rw [hp]
    unfold sv
    clear hI hl3 hp
    go_enter Tryz.func45, Tryz.ntmps45
    go_wp2
    go_ret
    exact HF.out
  · obtain ⟨i, hi⟩ : ∃ i, f q = i + 1 := ⟨f q - 1, by omega⟩
    have hin : i < n := by have := hfn q; omega
    have hc1 := fun W => comesB_any H (sb i) q (q + len) W hH1 hH2 (hs i hin).2 (by omega) (by omega)
    have hc2 := fun W => comesB_any H (sf i) q (q + len) W hH1 hH2 (hs i hin).1 (by omega) (by omega)
    have m1 := Rule.comes_le H (sb i) q (q + len) hH1 (by omega)
    have m2 := Rule.comes_le H (sf i) q (q + len) hH1 (by omega)
    have hsi := hs i hin
    have HI : Hid (TkB W n H bS gS cS bC gC cC bH sf sb (cvF f H sf sb q)) := hI
    have HCV : Hid (∀ j, j < n → cvF f H sf sb (q + len) j = if j = i then cvF f H sf sb (q + len) i else cvF f H sf sb q j) := fun j hj => by
      by_cases e : j = i
      · subst e; rw [if_pos rfl]
      · rw [if_neg e]
        unfold cvF
        rw [Rule.acc_step f (j + 1) (f q) H (sb j) q len hl3, Rule.acc_step f (j + 1) (f q) H (sf j) q len hl3, if_neg (by omega), if_neg (by omega)]
        rfl
    have HCI : Hid (cvF f H sf sb (q + len) i = cvF f H sf sb q i + ((Rule.comes H (sb i) q (q + len) : Int) - (Rule.comes H (sf i) q (q + len) : Int))) := by
      show cvF f H sf sb (q + len) i = _
      unfold cvF
      rw [Rule.acc_step f (i + 1) (f q) H (sb i) q len hl3, Rule.acc_step f (i + 1) (f q) H (sf i) q len hl3, if_pos hi, if_pos hi]
      omega
    have hcv : -8796093022208 ≤ cvF f H sf sb q i ∧ cvF f H sf sb q i ≤ 8796093022208 := by
      have a1 := Rule.acc_le f (i + 1) H (sb i) q hH1
      have a2 := Rule.acc_le f (i + 1) H (sf i) q hH1
      unfold cvF
      omega
    obtain ⟨cv1, cv2⟩ := hcv
    generalize hz0 : cvF f H sf sb q i = z0 at *
    generalize Rule.comes H (sb i) q (q + len) = k1 at *
    generalize Rule.comes H (sf i) q (q + len) = k2 at *
    have HZ0 : Hid (cvF f H sf sb q i = z0) := hz0
    have ei : ((i + 1 : Nat) : Int) = (i : Int) + 1 := by omega
    have eq' : ((q + len : Nat) : Int) = (q : Int) + len := by omega
    rw [hi, ei]
    rw [eq'] at hc1 hc2
    clear ei eq'
    unfold sv
    have HK1 : Hid (Kept No W (W.alloc (.cells #[.int .i64 len, .int .i64 ((i : Int) + 1)] 79))) := (Kept.refl No W).alloc _
    have hb6 := World.alloc_heap_new W (.cells #[.int .i64 len, .int .i64 ((i : Int) + 1)] 79)
    have HB6 : Hid ((W.alloc (.cells #[.int .i64 len, .int .i64 ((i : Int) + 1)] 79)).heap[W.heap.size]? = some (.cells #[.int .i64 len, .int .i64 ((i : Int) + 1)] 79)) := hb6
    clear hb6 hI hl3 hp hi hs hfn hz0
    go_enter Tryz.func45, Tryz.ntmps45
    go_upto_region 2 with fail
    have hI1 := HI.out.keep HK1.out
    have HI1 : Hid (TkB (W.alloc (.cells #[.int .i64 len, .int .i64 ((i : Int) + 1)] 79)) n H bS gS cS bC gC cC bH sf sb (cvF f H sf sb q)) := hI1
    obtain ⟨d0, d1⟩ := cells2' HB6.out
    have c1 := cell_box hI1.b1
    obtain ⟨s0, s1⟩ := hI1.s i hin
    clear hI1
    generalize W.alloc (.cells #[.int .i64 len, .int .i64 ((i : Int) + 1)] 79) = w1 at *
    have hwi : IntKind.i64.wrap (((i : Int) + 1) - 1) = (i : Int) := by rw [w64i]; unfold wrap64; omega
    have hwi2 : IntKind.i64.wrap (i : Int) = (i : Int) := by rw [w64i]; unfold wrap64; omega
    have hin2 : (i : Int) < n := by omega
    have hin3 : (0 : Int) ≤ (i : Int) := by omega
    have hwe : IntKind.i64.wrap ((q : Int) + (len : Int)) = ((q : Int) + len) := by rw [w64i]; unfold wrap64; omega
    go_cut [8, 9] (fun p8 p9 wx => ∃ B8 B9, p8 = .pointer (some ⟨B8, 0, none⟩) ∧ p9 = .pointer (some ⟨B9, 0, none⟩) ∧ wx.heap[B8]? = some (.cells #[.int .i64 (sf i), .int .i64 (sb i)] 60) ∧ wx.heap[B9]? = some (.cells #[.int .i64 q, .int .i64 ((q : Int) + len)] 60) ∧ Kept No w1 wx ∧ w1.heap.size ≤ B8 ∧ w1.heap.size ≤ B9)
    case first =>
      go_region_held (fun w' => w'.cell? ⟨bS, 0, none⟩ = some (.slice (some ⟨gS, 0, none⟩) n cS) ∧ w'.cell? ⟨W.heap.size, 0, none⟩ = some (.int .i64 len) ∧ w'.cell? ⟨W.heap.size, 1, none⟩ = some (.int .i64 ((i : Int) + 1)) ∧ w'.cell? ⟨gS, i * 2, none⟩ = some (.int .i64 (sf i)) ∧ w'.cell? ⟨gS, i * 2 + 1, none⟩ = some (.int .i64 (sb i))) (go_keep) (fail)
      all_goals (go_wp2; go_meet; first | exact tbox1 | exact tbox2)
    case rest =>
      obtain ⟨B8, B9, rfl, rfl, h8, h9, hkc, l8, l9⟩ := hcut
      have hIc := HI1.out.keep hkc
      obtain ⟨f0, f1⟩ := cells2' (hkc.at' HB6.out (fun h => h))
      obtain ⟨a0, a1⟩ := cells2' h8
      obtain ⟨b0, b1'⟩ := cells2' h9
      have xC := cell_box hIc.b2
      have xH := cell_box hIc.b3
      have cz := hIc.c i hin
      rw [HZ0.out] at cz
      have fz := hIc.f i
      have HKC : Hid (Kept No W wc) := HK1.out.trans hkc (fun _ h => h.elim)
      have HIC : Hid (TkB wc n H bS gS cS bC gC cC bH sf sb (cvF f H sf sb q)) := hIc
      clear hkc hIc h8 h9 d0 d1 c1 s0 s1
      have cz' : wc.drew.cell? ⟨gC, i, none⟩ = some (.int .i64 z0) := cz
      have fz' : wc.drew.frozen? ⟨gC, i, none⟩ = false := fz
      have n8 : gC ≠ B8 := by have := HI1.out.l2; omega
      have n9 : gC ≠ B9 := by have := HI1.out.l2; omega
      have n6 : gC ≠ W.heap.size := by have := HI.out.l2; omega
      clear l8 l9
      have hk0 : Kept No wc wc.drew := (Kept.refl No wc).drew
      generalize hsb : sb i = tb at *
      generalize hsf : sf i = tf at *
      clear hsb hsf
      go_upto_region 3 with fail
      have MI : Hid (wrap64 (((i : Int) + 1) - 1) = (i : Int)) := by show wrap64 _ = _; unfold wrap64; omega
      have MS : Hid (wrap64 ((k1 : Int) - k2) = (k1 : Int) - k2) := by show wrap64 _ = _; unfold wrap64; omega
      obtain ⟨z1, hz1⟩ : ∃ z1 : Int, z1 = z0 + ((k1 : Int) - k2) := ⟨_, rfl⟩
      have MA : Hid (wrap64 (z0 + ((k1 : Int) - k2)) = z1) := by show wrap64 _ = _; rw [hz1]; unfold wrap64; omega
      have e0 : 0 + i = i := Nat.zero_add i
      have cz0 : wc.cell? ⟨gC, 0 + i, none⟩ = some (.int .i64 z0) := by rw [e0]; exact cz
      have fz0 : wc.frozen? ⟨gC, 0 + i, none⟩ = false := by rw [e0]; exact fz
      clear cz fz cz' fz'
      have HFIN : Hid (∀ w6, Kept No wc w6 → Took (Tk f n H bS gS cS bC gC cC bH sf sb) (fun _ _ _ => False) (q + len) W (Five bS gS bC gC bH) (.returned (.bool true)) (w6.setCell ⟨gC, 0 + i, none⟩ (.int .i64 z1))) := fun w6 hk6 => by
        have hkw : Kept No W w6 := HKC.out.trans hk6 (fun _ h => h.elim)
        refine ⟨Five bS gS bC gC bH, (hkw.mono (fun _ h => h.elim)).setCell (p := ⟨gC, 0 + i, none⟩) (.inl (.inr (.inr (.inr (.inl rfl))))) _, More.refl _ _, .inl ⟨rfl, rfl, ?_⟩⟩
        have e1 : z1 = cvF f H sf sb (q + len) i := by rw [HCI.out, hz1]
        rw [e0, e1]
        exact (HIC.out.keep hk6).set hin h1 h2 h3 h4 HCV.out
      clear hz1
      try simp only [Act.put, List.setIfInBounds_toArray, List.set_cons_zero, List.set_cons_succ]
      refine wp_region_held_drew (S := fun w' => w'.cell? ⟨bC, 0, none⟩ = some (.slice (some ⟨gC, 0, none⟩) n cC) ∧ w'.cell? ⟨W.heap.size, 1, none⟩ = some (.int .i64 ((i : Int) + 1)) ∧ w'.cell? ⟨B8, 0, none⟩ = some (.int .i64 tf) ∧ w'.cell? ⟨B8, 1, none⟩ = some (.int .i64 tb) ∧ w'.cell? ⟨B9, 0, none⟩ = some (.int .i64 q) ∧ w'.cell? ⟨B9, 1, none⟩ = some (.int .i64 ((q : Int) + len)) ∧ w'.cell? ⟨bH, 0, none⟩ = some (.int .i64 H)) (by kernel_rfl) ⟨xC, f1, a0, a1, b0, b1', xH⟩ (fun hS => ?_)
      refine d_take 0 25 rfl rfl (by kernel_rfl) (by kernel_rfl) (by kernel_rfl) (fun _ _ _ h => h) rfl (fun w' hw' => er_ldis _ rfl bC 0 (.slice (some ⟨gC, 0, none⟩) n cC) rfl hw'.1) hS ?_
      simp only [Act.put, List.setIfInBounds_toArray, List.set_cons_zero, List.set_cons_succ]
      refine d_take 1 26 rfl rfl (by kernel_rfl) (by kernel_rfl) (by kernel_rfl) (fun _ _ _ h => h) rfl (fun w' hw' => er_so1z _ rfl W.heap.size rfl) hS ?_
      simp only [Act.put, List.setIfInBounds_toArray, List.set_cons_zero, List.set_cons_succ]
      refine d_take 2 27 rfl rfl (by kernel_rfl) (by kernel_rfl) (by kernel_rfl) (fun _ _ _ h => h) rfl (fun w' hw' => er_ld3 _ rfl W.heap.size 1 (.int .i64 ((i : Int) + 1)) rfl hw'.2.1) hS ?_
      simp only [Act.put, List.setIfInBounds_toArray, List.set_cons_zero, List.set_cons_succ]
      refine d_take 3 28 rfl rfl (by kernel_rfl) (by kernel_rfl) (by kernel_rfl) (fun _ _ _ h => h) rfl (fun w' hw' => er_sub _ _ rfl ((i : Int) + 1) 1 i rfl rfl MI.out) hS ?_
      simp only [Act.put, List.setIfInBounds_toArray, List.set_cons_zero, List.set_cons_succ]
      refine d_take 4 29 rfl rfl (by kernel_rfl) (by kernel_rfl) (by kernel_rfl) (fun _ _ _ h => h) rfl (fun w' hw' => er_idxi _ _ rfl gC 0 n cC i hin (by omega) rfl rfl) hS ?_
      simp only [Act.put, List.setIfInBounds_toArray, List.set_cons_zero, List.set_cons_succ]
      refine d_take 6 31 rfl rfl (by kernel_rfl) (by kernel_rfl) (by kernel_rfl) (fun _ _ _ h => h) rfl (fun w' hw' => er_ldsp _ rfl B9 0 (.int .i64 q) (.int .i64 ((q : Int) + len)) rfl hw'.2.2.2.2.1 hw'.2.2.2.2.2.1) hS ?_
      simp only [Act.put, List.setIfInBounds_toArray, List.set_cons_zero, List.set_cons_succ]
      refine d_take 7 32 rfl rfl (by kernel_rfl) (by kernel_rfl) (by kernel_rfl) (fun _ _ _ h => h) rfl (fun w' hw' => er_ld3 _ rfl bH 0 (.int .i64 H) rfl hw'.2.2.2.2.2.2) hS ?_
      simp only [Act.put, List.setIfInBounds_toArray, List.set_cons_zero, List.set_cons_succ]
      refine d_take 8 33 rfl rfl (by kernel_rfl) (by kernel_rfl) (by kernel_rfl) (fun _ _ _ h => h) rfl (fun w' hw' => er_sp1z _ rfl B8 rfl) hS ?_
      simp only [Act.put, List.setIfInBounds_toArray, List.set_cons_zero, List.set_cons_succ]
      refine d_take 9 34 rfl rfl (by kernel_rfl) (by kernel_rfl) (by kernel_rfl) (fun _ _ _ h => h) rfl (fun w' hw' => er_ld3 _ rfl B8 1 (.int .i64 tb) rfl hw'.2.2.2.1) hS ?_
      simp only [Act.put, List.setIfInBounds_toArray, List.set_cons_zero, List.set_cons_succ]
      refine d_take 11 36 rfl rfl (by kernel_rfl) (by kernel_rfl) (by kernel_rfl) (fun _ _ _ h => h) rfl (fun w' hw' => er_ldsp _ rfl B9 0 (.int .i64 q) (.int .i64 ((q : Int) + len)) rfl hw'.2.2.2.2.1 hw'.2.2.2.2.2.1) hS ?_
      simp only [Act.put, List.setIfInBounds_toArray, List.set_cons_zero, List.set_cons_succ]
      refine d_take 12 37 rfl rfl (by kernel_rfl) (by kernel_rfl) (by kernel_rfl) (fun _ _ _ h => h) rfl (fun w' hw' => er_ld3 _ rfl bH 0 (.int .i64 H) rfl hw'.2.2.2.2.2.2) hS ?_
      simp only [Act.put, List.setIfInBounds_toArray, List.set_cons_zero, List.set_cons_succ]
      refine d_take 13 38 rfl rfl (by kernel_rfl) (by kernel_rfl) (by kernel_rfl) (fun _ _ _ h => h) rfl (fun w' hw' => er_sp0 _ rfl B8 (0) rfl) hS ?_
      simp only [Act.put, List.setIfInBounds_toArray, List.set_cons_zero, List.set_cons_succ]
      refine d_take 14 39 rfl rfl (by kernel_rfl) (by kernel_rfl) (by kernel_rfl) (fun _ _ _ h => h) rfl (fun w' hw' => er_ld3 _ rfl B8 0 (.int .i64 tf) rfl hw'.2.2.1) hS ?_
      simp only [Act.put, List.setIfInBounds_toArray, List.set_cons_zero, List.set_cons_succ]
      refine wpAnyH_ready (rs := [5, 10]) (by kernel_rfl) (by simp) (AllReadyH.cons rfl (st_read 30 rfl rfl (er_ld3 _ rfl gC (0 + i) (.int .i64 z0) rfl (hk0.cell cz0 (fun h => h))) hS ?_) (AllReadyH.cons rfl (st_call (fun w' => Kept No wc w') 35 rfl rfl (er_c_comesBelow _ _ _ _ rfl (.agg #[.int .i64 q, .int .i64 ((q : Int) + len)]) (.int .i64 H) (.int .i64 tb) rfl rfl rfl) ((hc1 wc.drew).mono (fun e w6 he => ⟨he.1, skeep hS he.2, hk0.trans he.2 (fun _ h => h.elim)⟩)) ?_) AllReadyH.nil))
      · simp only [Act.put, List.setIfInBounds_toArray, List.set_cons_zero, List.set_cons_succ]
        refine wpAnyH_ready (rs := [10]) (by kernel_rfl) (by simp) (AllReadyH.cons rfl (st_call (fun w' => Kept No wc w') 35 rfl rfl (er_c_comesBelow _ _ _ _ rfl (.agg #[.int .i64 q, .int .i64 ((q : Int) + len)]) (.int .i64 H) (.int .i64 tb) rfl rfl rfl) ((hc1 wc.drew).mono (fun e w6 he => ⟨he.1, skeep hS he.2, hk0.trans he.2 (fun _ h => h.elim)⟩)) ?_) AllReadyH.nil)
        · intro v1 hS kv1
          simp only [Act.put, List.setIfInBounds_toArray, List.set_cons_zero, List.set_cons_succ]
          refine wpAnyH_ready (rs := [15]) (by kernel_rfl) (by simp) (AllReadyH.cons rfl (st_call (fun w' => Kept No wc w') 40 rfl rfl (er_c_comesBelow _ _ _ _ rfl (.agg #[.int .i64 q, .int .i64 ((q : Int) + len)]) (.int .i64 H) (.int .i64 tf) rfl rfl rfl) ((hc2 v1).mono (fun e w6 he => ⟨he.1, skeep hS he.2, kv1.trans he.2 (fun _ h => h.elim)⟩)) ?_) AllReadyH.nil)
          · intro v2 hS kv2
            simp only [Act.put, List.setIfInBounds_toArray, List.set_cons_zero, List.set_cons_succ]
            refine d_take 16 41 rfl rfl (by kernel_rfl) (by kernel_rfl) (by kernel_rfl) (fun _ _ _ h => h) rfl (fun w' hw' => er_sub _ _ rfl k1 k2 ((k1 : Int) - k2) rfl rfl MS.out) hS ?_
            simp only [Act.put, List.setIfInBounds_toArray, List.set_cons_zero, List.set_cons_succ]
            refine d_take 17 42 rfl rfl (by kernel_rfl) (by kernel_rfl) (by kernel_rfl) (fun _ _ _ h => h) rfl (fun w' hw' => er_add _ _ rfl z0 ((k1 : Int) - k2) z1 rfl rfl MA.out) hS ?_
            simp only [Act.put, List.setIfInBounds_toArray, List.set_cons_zero, List.set_cons_succ]
            refine d_take 18 43 rfl rfl (by kernel_rfl) (by kernel_rfl) (by kernel_rfl) (fun _ _ _ h => h) rfl (fun w' hw' => er_idxi _ _ rfl gC 0 n cC i hin (by omega) rfl rfl) hS ?_
            simp only [Act.put, List.setIfInBounds_toArray, List.set_cons_zero, List.set_cons_succ]
            refine d_turn 19 (by kernel_rfl) rfl rfl rfl (er_st3 _ _ rfl gC (0 + i) (.int .i64 z0) z1 rfl rfl (kv2.cell cz0 (fun h => h)) (frozen_keep kv2 cz0 fz0)) (sset hS n6 n8 n9 h3 h4) ?_
            refine wpAnyH_done (by kernel_rfl) ?_ _
            have HQ : Hid (Took (Tk f n H bS gS cS bC gC cC bH sf sb) (fun _ _ _ => False) (q + len) W (Five bS gS bC gC bH) (.returned (.bool true)) (v2.setCell ⟨gC, 0 + i, none⟩ (.int .i64 z1))) := HFIN.out _ kv2
            clear hS
            generalize v2.setCell ⟨gC, 0 + i, none⟩ (.int .i64 z1) = wz at *
            go_wp2
            go_ret
            exact HQ.out
      · intro v3 hS kv3
        simp only [Act.put, List.setIfInBounds_toArray, List.set_cons_zero, List.set_cons_succ]
        refine wpAnyH_ready (rs := [5, 15]) (by kernel_rfl) (by simp) (AllReadyH.cons rfl (st_read 30 rfl rfl (er_ld3 _ rfl gC (0 + i) (.int .i64 z0) rfl (kv3.cell cz0 (fun h => h))) hS ?_) (AllReadyH.cons rfl (st_call (fun w' => Kept No wc w') 40 rfl rfl (er_c_comesBelow _ _ _ _ rfl (.agg #[.int .i64 q, .int .i64 ((q : Int) + len)]) (.int .i64 H) (.int .i64 tf) rfl rfl rfl) ((hc2 v3).mono (fun e w6 he => ⟨he.1, skeep hS he.2, kv3.trans he.2 (fun _ h => h.elim)⟩)) ?_) AllReadyH.nil))
        · simp only [Act.put, List.setIfInBounds_toArray, List.set_cons_zero, List.set_cons_succ]
          refine wpAnyH_ready (rs := [15]) (by kernel_rfl) (by simp) (AllReadyH.cons rfl (st_call (fun w' => Kept No wc w') 40 rfl rfl (er_c_comesBelow _ _ _ _ rfl (.agg #[.int .i64 q, .int .i64 ((q : Int) + len)]) (.int .i64 H) (.int .i64 tf) rfl rfl rfl) ((hc2 v3).mono (fun e w6 he => ⟨he.1, skeep hS he.2, kv3.trans he.2 (fun _ h => h.elim)⟩)) ?_) AllReadyH.nil)
          · intro v4 hS kv4
            simp only [Act.put, List.setIfInBounds_toArray, List.set_cons_zero, List.set_cons_succ]
            refine d_take 16 41 rfl rfl (by kernel_rfl) (by kernel_rfl) (by kernel_rfl) (fun _ _ _ h => h) rfl (fun w' hw' => er_sub _ _ rfl k1 k2 ((k1 : Int) - k2) rfl rfl MS.out) hS ?_
            simp only [Act.put, List.setIfInBounds_toArray, List.set_cons_zero, List.set_cons_succ]
            refine d_take 17 42 rfl rfl (by kernel_rfl) (by kernel_rfl) (by kernel_rfl) (fun _ _ _ h => h) rfl (fun w' hw' => er_add _ _ rfl z0 ((k1 : Int) - k2) z1 rfl rfl MA.out) hS ?_
            simp only [Act.put, List.setIfInBounds_toArray, List.set_cons_zero, List.set_cons_succ]
            refine d_take 18 43 rfl rfl (by kernel_rfl) (by kernel_rfl) (by kernel_rfl) (fun _ _ _ h => h) rfl (fun w' hw' => er_idxi _ _ rfl gC 0 n cC i hin (by omega) rfl rfl) hS ?_
            simp only [Act.put, List.setIfInBounds_toArray, List.set_cons_zero, List.set_cons_succ]
            refine d_turn 19 (by kernel_rfl) rfl rfl rfl (er_st3 _ _ rfl gC (0 + i) (.int .i64 z0) z1 rfl rfl (kv4.cell cz0 (fun h => h)) (frozen_keep kv4 cz0 fz0)) (sset hS n6 n8 n9 h3 h4) ?_
            refine wpAnyH_done (by kernel_rfl) ?_ _
            have HQ : Hid (Took (Tk f n H bS gS cS bC gC cC bH sf sb) (fun _ _ _ => False) (q + len) W (Five bS gS bC gC bH) (.returned (.bool true)) (v4.setCell ⟨gC, 0 + i, none⟩ (.int .i64 z1))) := HFIN.out _ kv4
            clear hS
            generalize v4.setCell ⟨gC, 0 + i, none⟩ (.int .i64 z1) = wz at *
            go_wp2
            go_ret
            exact HQ.out
        · intro v5 hS kv5
          simp only [Act.put, List.setIfInBounds_toArray, List.set_cons_zero, List.set_cons_succ]
          refine d_take 16 41 rfl rfl (by kernel_rfl) (by kernel_rfl) (by kernel_rfl) (fun _ _ _ h => h) rfl (fun w' hw' => er_sub _ _ rfl k1 k2 ((k1 : Int) - k2) rfl rfl MS.out) hS ?_
          simp only [Act.put, List.setIfInBounds_toArray, List.set_cons_zero, List.set_cons_succ]
          refine wpAnyH_ready (rs := [5]) (by kernel_rfl) (by simp) (AllReadyH.cons rfl (st_read 30 rfl rfl (er_ld3 _ rfl gC (0 + i) (.int .i64 z0) rfl (kv5.cell cz0 (fun h => h))) hS ?_) AllReadyH.nil)
          · simp only [Act.put, List.setIfInBounds_toArray, List.set_cons_zero, List.set_cons_succ]
            refine d_take 17 42 rfl rfl (by kernel_rfl) (by kernel_rfl) (by kernel_rfl) (fun _ _ _ h => h) rfl (fun w' hw' => er_add _ _ rfl z0 ((k1 : Int) - k2) z1 rfl rfl MA.out) hS ?_
            simp only [Act.put, List.setIfInBounds_toArray, List.set_cons_zero, List.set_cons_succ]
            refine d_take 18 43 rfl rfl (by kernel_rfl) (by kernel_rfl) (by kernel_rfl) (fun _ _ _ h => h) rfl (fun w' hw' => er_idxi _ _ rfl gC 0 n cC i hin (by omega) rfl rfl) hS ?_
            simp only [Act.put, List.setIfInBounds_toArray, List.set_cons_zero, List.set_cons_succ]
            refine d_turn 19 (by kernel_rfl) rfl rfl rfl (er_st3 _ _ rfl gC (0 + i) (.int .i64 z0) z1 rfl rfl (kv5.cell cz0 (fun h => h)) (frozen_keep kv5 cz0 fz0)) (sset hS n6 n8 n9 h3 h4) ?_
            refine wpAnyH_done (by kernel_rfl) ?_ _
            have HQ : Hid (Took (Tk f n H bS gS cS bC gC cC bH sf sb) (fun _ _ _ => False) (q + len) W (Five bS gS bC gC bH) (.returned (.bool true)) (v5.setCell ⟨gC, 0 + i, none⟩ (.int .i64 z1))) := HFIN.out _ kv5
            clear hS
            generalize v5.setCell ⟨gC, 0 + i, none⟩ (.int .i64 z1) = wz at *
            go_wp2
            go_ret
            exact HQ.out
end Go.Proofs.YtibmgpinfdcaoaaGreatDoor
