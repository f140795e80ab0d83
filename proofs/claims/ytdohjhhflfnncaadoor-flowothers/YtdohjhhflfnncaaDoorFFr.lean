/-
  sameFrame, sameParts.
-/
import Derived.Test.YtdohjhhflfnncaaDoorFEf
import Derived.Test.YtdohjhhflfnncaaDoorFCh
import Derived.Test.YtdohjhhflfnncaaDoorFSrc
namespace Go.Proofs.YtdohjhhflfnncaaDoor
open Go.RowKit
set_option linter.unusedVariables false
set_option maxRecDepth 100000

/-- two lists of partitions, held against one another -/
structure Pp (w : World) (F G : Nat → Prop) (a : Option Addr) (c : Nat) (b : Option Addr) (d : Nat) (n : Nat) (AS BS : List (Array Value)) : Prop where
  la : Ls 21 elA w F a n c AS
  lb : Ls 21 elA w G b n d BS
  sv : ∀ (i : Nat) (A B : Array Value), AS[i]? = some A → BS[i]? = some B → ∀ W, Kept No w W → Calls Tryd.prog 24 #[.agg A, .agg B] W fun e W' => e = .returned (.bool true) ∧ Kept No W W'
theorem Pp.kept {w w' : World} {F G : Nat → Prop} {a : Option Addr} {c : Nat} {b : Option Addr} {d n : Nat} {AS BS : List (Array Value)} (h : Pp w F G a c b d n AS BS) (k : Kept No w w') : Pp w' F G a c b d n AS BS :=
  ⟨h.la.kept k (fun _ _ h => h) (elA_kept k (fun _ _ h => h)), h.lb.kept k (fun _ _ h => h) (elA_kept k (fun _ _ h => h)), fun i A B hA hB W K => h.sv i A B hA hB W (k.trans K (fun _ h => .inl h))⟩

set_option maxHeartbeats 8000000 in
theorem frame_yes {F G H : Nat → Prop} {a b a1 a2 : Option Addr} {c d n n1 c1 n2 c2 : Nat} {AS BS : List (Array Value)} {ps : List Po} {L : List Ch} (w : World) (h : Pp w F G a c b d n AS BS) (hn : n ≤ 1000000) (hq : Ls 6 elPo w H a1 n1 c1 ps) (hc : Ls 5 elCh w H a2 n2 c2 L) :
    Calls Tryd.prog 14 #[.agg #[.slice a n c, .slice a1 n1 c1, .slice a2 n2 c2], .agg #[.slice b n d, .slice a1 n1 c1, .slice a2 n2 c2]] w fun e w' => e = .returned (.bool true) ∧ Kept No w w' := by
  have k1 : Kept No w ((w.alloc (.cells #[.slice a n c, .slice a1 n1 c1, .slice a2 n2 c2] 26)).alloc (.cells #[.slice b n d, .slice a1 n1 c1, .slice a2 n2 c2] 26)) := ((Kept.refl No w).alloc _).alloc _
  have b0 : ((w.alloc (.cells #[.slice a n c, .slice a1 n1 c1, .slice a2 n2 c2] 26)).alloc (.cells #[.slice b n d, .slice a1 n1 c1, .slice a2 n2 c2] 26)).heap[w.heap.size]? = some (.cells #[.slice a n c, .slice a1 n1 c1, .slice a2 n2 c2] 26) := ((Kept.refl No _).alloc _).at' (alloc_new w _) (fun h => h)
  have b1 : ((w.alloc (.cells #[.slice a n c, .slice a1 n1 c1, .slice a2 n2 c2] 26)).alloc (.cells #[.slice b n d, .slice a1 n1 c1, .slice a2 n2 c2] 26)).heap[w.heap.size + 1]? = some (.cells #[.slice b n d, .slice a1 n1 c1, .slice a2 n2 c2] 26) := by
    have := alloc_new (w.alloc (.cells #[.slice a n c, .slice a1 n1 c1, .slice a2 n2 c2] 26)) (.cells #[.slice b n d, .slice a1 n1 c1, .slice a2 n2 c2] 26)
    rw [World.size_alloc] at this
    exact this
  have hP := h.kept k1
  have cA := eqParts_yes _ hP.la hP.lb hn hP.sv
  have HQ : Hid (Ls 6 elPo w H a1 n1 c1 ps ∧ Ls 5 elCh w H a2 n2 c2 L) := ⟨hq, hc⟩
  have hcap := h.la.cap
  clear h hP hq hc
  go_enter Tryd.func14, Tryd.ntmps14
  go_upto_region 1 with fail
  generalize (w.alloc (.cells #[.slice a n c, .slice a1 n1 c1, .slice a2 n2 c2] 26)).alloc (.cells #[.slice b n d, .slice a1 n1 c1, .slice a2 n2 c2] 26) = w0 at *
  have HB : Hid (w0.heap[w.heap.size]? = some (.cells #[.slice a n c, .slice a1 n1 c1, .slice a2 n2 c2] 26) ∧ w0.heap[w.heap.size + 1]? = some (.cells #[.slice b n d, .slice a1 n1 c1, .slice a2 n2 c2] 26) ∧ Kept No w w0) := ⟨b0, b1, k1⟩
  clear b0 b1 k1
  obtain ⟨x0, x1, x2⟩ := three HB.out.1
  obtain ⟨y0, y1, y2⟩ := three HB.out.2.1
  go_wp2_with (first
    | (go_at_call 23; refine cA.mono ?_; rintro e w1 ⟨rfl, k2⟩; have kw1 := HB.out.2.2.trans k2 (fun _ h => .inl h); have cB := eq_Po w1 (HQ.out.1.kept kw1 (fun _ _ h => h) (elPo_kept kw1 (fun _ _ h => h))); replace x1 := k2.cell x1 (fun h => h); replace x2 := k2.cell x2 (fun h => h); replace y1 := k2.cell y1 (fun h => h); replace y2 := k2.cell y2 (fun h => h); have HK1 := hid kw1; clear k2 kw1 cA x0 y0)
    | (go_at_call 25; refine cB.mono ?_; rintro e w2 ⟨rfl, k3⟩; have kw2 := HK1.out.trans k3 (fun _ h => .inl h); have cC := eqChans_yes w2 (HQ.out.2.kept kw2 (fun _ _ h => h) (elCh_kept kw2 (fun _ _ h => h))); replace x2 := k3.cell x2 (fun h => h); replace y2 := k3.cell y2 (fun h => h); have HK2 := hid kw2; clear k3 kw2 cB x1 y1)
    | (go_at_call 26; refine cC.mono ?_; rintro e w3 ⟨rfl, k4⟩; have HK3 := hid (HK2.out.trans k4 (fun _ h => .inl h)); clear k4 cC))
  go_ret
  exact ⟨rfl, HK3.out⟩

/-! ### sameParts -/
section
variable {w : World} {a : Act} {o : Oper}
theorem er_fI0 (x : Operand) (ho : o.op = .fieldAddr 26 x 0) (g : Nat) (hx : a.eval x = .pointer (some ⟨g, 0, none⟩)) : (execOp a.eval o).run Tryd.prog w = .ok (.value (.pointer (some ⟨g, 0, none⟩))) w := by simp only [execOp, ho, hx]; simp [go_sem, add_none]
theorem er_ldSP (x : Operand) (ho : o.op = .load 22 x) (g off : Nat) (v : Value) (hx : a.eval x = .pointer (some ⟨g, off, none⟩)) (hc : w.cell? ⟨g, off, none⟩ = some v) : (execOp a.eval o).run Tryd.prog w = .ok (.value v) w := by
  simp only [execOp, ho, hx]; simp [go_sem, hc]
theorem er_ixSP (x y : Operand) (ho : o.op = .indexAddr 22 x y) (g off i n c : Nat) (hx : a.eval x = .slice (some ⟨g, off, none⟩) n c) (hy : a.eval y = .int .i64 (i : Int)) (hi : i < n) : (execOp a.eval o).run Tryd.prog w = .ok (.value (.pointer (some ⟨g, off + i * 21, none⟩))) w := by
  simp only [execOp, ho, hx, hy]; simp [go_sem, add_none, hi]
theorem ec_sp (x y : Operand) (ho : o.op = .call { callee := .value (.func 28), args := #[x, y], argTypes := #[37, 37] }) (v u : Value) (hx : a.eval x = v) (hy : a.eval y = u) : (execOp a.eval o).run Tryd.prog w = .ok (.enter 28 #[v, u]) w := by
  subst hx hy
  simp [execOp, ho, go_sem, Act.eval]
end
end Go.Proofs.YtdohjhhflfnncaaDoor
