/-
  One text: CTold.
-/
import Derived.Test.YtibmgpinfdcaoaaGreatDoorG00
namespace Go.Proofs.YtibmgpinfdcaoaaGreatDoor
open Go.RowKit Go.Extern.Stop Go.Stop Go.Extern
set_option linter.unusedVariables false
set_option maxRecDepth 100000

/-- the one package-level variable that is read -/
def Gl (w : World) : Prop := w.cell? ⟨0, 0, none⟩ = some (.iface 142 (.agg #[.pointer (some ⟨1, 67, none⟩)]))
theorem Gl.kept {w w' : World} (h : Gl w) (k : Kept No w w') : Gl w' := k.cell h (fun h => h)
theorem Gl.lt {w : World} (h : Gl w) : 0 < w.heap.size := cell_lt h
theorem Gl.alloc {w : World} (h : Gl w) (o : Obj) : Gl (w.alloc o) := h.kept ((Kept.refl No w).alloc o)

set_option maxHeartbeats 8000000 in
theorem as_hit (tb : Nat) (x y : Int) (o0 o1 : Value) (w : World) (hg : Gl w) (ht0 : w.cell? ⟨tb, 0, none⟩ = some o0) (ht1 : w.cell? ⟨tb, 1, none⟩ = some o1) (hf0 : w.frozen? ⟨tb, 0, none⟩ = false) (hf1 : w.frozen? ⟨tb, 1, none⟩ = false) :
    Calls Tryz.prog 53 #[.iface 87 (.agg #[.int .i64 x, .int .i64 y]), .iface 89 (.pointer (some ⟨tb, 0, none⟩))] w fun ev w' => ev = .returned (.bool true) ∧ Kept (fun k => k = tb) w w' ∧ w'.cell? ⟨tb, 0, none⟩ = some (.int .i64 x) ∧ w'.cell? ⟨tb, 1, none⟩ = some (.int .i64 y) := by
  have htl : tb < w.heap.size := cell_lt ht0
  have hlt := hg.lt
  have HK : Hid (Kept (fun k => k = tb) w ((((w.alloc (.cells #[.pointer (some ⟨tb, 0, none⟩)] 89)).alloc (.cells #[.pointer (some ⟨1, 89, none⟩), .pointer (some ⟨w.heap.size, 0, none⟩), .int .u64 150] 113)).alloc (.cells #[.pointer (some ⟨1, 89, none⟩), .pointer (some ⟨w.heap.size, 0, none⟩), .int .u64 150] 113)).alloc (.cells #[.int .i64 x, .int .i64 y] 87))) :=
    ((((Kept.refl _ w).alloc _).alloc _).alloc _).alloc _
  have hg2 : ((w.alloc (.cells #[.pointer (some ⟨tb, 0, none⟩)] 89)).alloc (.cells #[.pointer (some ⟨1, 89, none⟩), .pointer (some ⟨w.heap.size, 0, none⟩), .int .u64 150] 113)).cell? ⟨0, 0, none⟩ = some (.iface 142 (.agg #[.pointer (some ⟨1, 67, none⟩)])) := (hg.alloc _).alloc _
  have n8 := Tas.isNilP ⟨w.heap.size, 0, none⟩ ⟨tb, 0, none⟩ ((w.alloc (.cells #[.pointer (some ⟨tb, 0, none⟩)] 89)).alloc (.cells #[.pointer (some ⟨1, 89, none⟩), .pointer (some ⟨w.heap.size, 0, none⟩), .int .u64 150] 113)) (by simp)
  have el := Tas.elemVP ⟨w.heap.size, 0, none⟩ ⟨tb, 0, none⟩ (((w.alloc (.cells #[.pointer (some ⟨tb, 0, none⟩)] 89)).alloc (.cells #[.pointer (some ⟨1, 89, none⟩), .pointer (some ⟨w.heap.size, 0, none⟩), .int .u64 150] 113)).alloc (.cells #[.pointer (some ⟨1, 89, none⟩), .pointer (some ⟨w.heap.size, 0, none⟩), .int .u64 150] 113)) (by rw [World.cell?_alloc_lt _ _ ⟨w.heap.size, 0, none⟩ (by simp; omega)]; simp)
  have st := Tas.setS tb (w.heap.size + 1 + 1 + 1) x y o0 o1 (((((w.alloc (.cells #[.pointer (some ⟨tb, 0, none⟩)] 89)).alloc (.cells #[.pointer (some ⟨1, 89, none⟩), .pointer (some ⟨w.heap.size, 0, none⟩), .int .u64 150] 113)).alloc (.cells #[.pointer (some ⟨1, 89, none⟩), .pointer (some ⟨w.heap.size, 0, none⟩), .int .u64 150] 113)).alloc (.cells #[.int .i64 x, .int .i64 y] 87)))
    (by rw [World.cell?_alloc_at _ _ _ _ (by simp)]; rfl)
    (by rw [World.cell?_alloc_at _ _ _ _ (by simp)]; rfl)
    (((((Kept.refl No w).alloc _).alloc _).alloc _).alloc _ |>.cell ht0 (fun h => h))
    (((((Kept.refl No w).alloc _).alloc _).alloc _).alloc _ |>.cell ht1 (fun h => h))
    (by rw [World.frozen?_alloc_old _ _ ⟨tb, 0, none⟩ (by simp; omega), World.frozen?_alloc_old _ _ ⟨tb, 0, none⟩ (by simp; omega), World.frozen?_alloc_old _ _ ⟨tb, 0, none⟩ (by simp; omega), World.frozen?_alloc_old _ _ ⟨tb, 0, none⟩ (Nat.ne_of_lt htl)]; exact hf0)
    (by rw [World.frozen?_alloc_old _ _ ⟨tb, 1, none⟩ (by simp; omega), World.frozen?_alloc_old _ _ ⟨tb, 1, none⟩ (by simp; omega), World.frozen?_alloc_old _ _ ⟨tb, 1, none⟩ (by simp; omega), World.frozen?_alloc_old _ _ ⟨tb, 1, none⟩ (Nat.ne_of_lt htl)]; exact hf1)
  have HC : Hid (∀ W : World, W.cell? ⟨tb, 0, none⟩ = some o0 → W.cell? ⟨tb, 1, none⟩ = some o1 → ((W.setCell ⟨tb, 0, none⟩ (.int .i64 x)).setCell ⟨tb, 1, none⟩ (.int .i64 y)).cell? ⟨tb, 0, none⟩ = some (.int .i64 x) ∧ ((W.setCell ⟨tb, 0, none⟩ (.int .i64 x)).setCell ⟨tb, 1, none⟩ (.int .i64 y)).cell? ⟨tb, 1, none⟩ = some (.int .i64 y)) := by
    intro W h0 h1
    have e1 : (W.setCell ⟨tb, 0, none⟩ (.int .i64 x)).cell? ⟨tb, 1, none⟩ = some o1 := by rw [World.cell?_setCell_other _ _ _ _ (by simp)]; exact h1
    refine ⟨?_, World.cell?_setCell_same _ _ _ e1⟩
    rw [World.cell?_setCell_other _ _ _ _ (by simp)]
    exact World.cell?_setCell_same _ _ _ h0
  have HT0 : Hid (w.cell? ⟨tb, 0, none⟩ = some o0) := ht0
  have HT1 : Hid (w.cell? ⟨tb, 1, none⟩ = some o1) := ht1
  clear ht0 ht1 hf0 hf1 hg hlt htl
  have h6 := @run_callFunc_extern Tryz.prog 71 _ (fun args => ReflectliteValue.unpack (args.getD 0 (.tuple #[]))) Tryz.func71 (by kernel_rfl) (by kernel_rfl) (by kernel_rfl) (by kernel_rfl)
  have h7 := @run_callFunc_extern Tryz.prog 72 _ (ReflectliteValue.methodAny (ReflectliteValue.valueError "reflectlite.Value.Type" 0) (fun t _ _ _ => ReflectliteType.toType t)) Tryz.func72 (by kernel_rfl) (by kernel_rfl) (by kernel_rfl) (by kernel_rfl)
  have h8 := @run_callFunc_extern Tryz.prog 73 _ (ReflectliteValue.method (ReflectliteValue.valueError "reflectlite.Value.IsNil" 0) ReflectliteValue.isNil) Tryz.func73 (by kernel_rfl) (by kernel_rfl) (by kernel_rfl) (by kernel_rfl)
  have h27 := @run_callFunc_extern Tryz.prog 134 _ (ReflectliteType.abiMethod fun t => do pure (.int .u8 (← Rtype.kind t))) Tryz.func134 (by kernel_rfl) (by kernel_rfl) (by kernel_rfl) (by kernel_rfl)
  have h37 := @run_callFunc_extern Tryz.prog 144 _ (ReflectliteType.method ReflectliteType.elem) Tryz.func144 (by kernel_rfl) (by kernel_rfl) (by kernel_rfl) (by kernel_rfl)
  have h38 := @run_callFunc_extern Tryz.prog 145 _ (ReflectliteType.relation "Implements" ReflectliteType.implements_) Tryz.func145 (by kernel_rfl) (by kernel_rfl) (by kernel_rfl) (by kernel_rfl)
  have h10 := @run_callFunc_extern Tryz.prog 92 _ ReflectliteType.typeOf Tryz.func92 (by kernel_rfl) (by kernel_rfl) (by kernel_rfl) (by kernel_rfl)
  have h35 := @run_callFunc_extern Tryz.prog 142 _ (ReflectliteType.relation "AssignableTo" ReflectliteType.assignableTo) Tryz.func142 (by kernel_rfl) (by kernel_rfl) (by kernel_rfl) (by kernel_rfl)
  have h11 := @run_callFunc_extern Tryz.prog 93 _ (ReflectliteValue.method (ReflectliteValue.valueError "reflectlite.Value.Elem" 0) ReflectliteValue.elem) Tryz.func93 (by kernel_rfl) (by kernel_rfl) (by kernel_rfl) (by kernel_rfl)
  have h12 := @run_callFunc_extern Tryz.prog 94 _ ReflectliteValue.set Tryz.func94 (by kernel_rfl) (by kernel_rfl) (by kernel_rfl) (by kernel_rfl)
  have tO := Tas.typeOfS
  have mA := Tas.methodAssignableTo
  have a25 := Tas.assignableS
  have v25 := Tas.valueOfS
  have f6 := Tas.valueOfP
  have f7 := Tas.typeP
  have mK := Tas.methodKind
  have mE := Tas.methodElem
  have mI := Tas.methodImplements
  have k27 := Tas.kindP
  have k25 := Tas.kindS
  have e27 := Tas.elemP
  have i25 := Tas.implementsS
  go_enter Tryz.func53, Tryz.ntmps53
  go_wp2
  refine wp_loop_rounds 1 ?_
  rw [rounds_succ]
  go_wp2
  go_ret
  exact ⟨rfl, (HK.out.setCell (.inl rfl) _).setCell (.inl rfl) _, HC.out _ (((((Kept.refl No w).alloc _).alloc _).alloc _).alloc _ |>.cell HT0.out (fun h => h)) (((((Kept.refl No w).alloc _).alloc _).alloc _).alloc _ |>.cell HT1.out (fun h => h))⟩

/-- what a table found: an error and a number, or nothing -/
def fv : Option (Int × Int) → Value
  | none => .nilIface
  | some p => .iface 87 (.agg #[.int .i64 p.1, .int .i64 p.2])
def fe : Option (Int × Int) → Int
  | none => 0
  | some p => p.1
def fn : Option (Int × Int) → Int
  | none => 0
  | some p => p.2

set_option maxHeartbeats 4000000 in
theorem told_any (o : Option (Int × Int)) (w : World) (hg : Gl w) :
    Calls Tryz.prog 37 #[fv o] w fun e w' => e = .returned (.tuple #[.int .i64 (fe o), .int .i64 (fn o)]) ∧ Kept No w w' := by
  cases o with
  | none =>
    have HK : Hid (Kept No w (w.alloc (.cells #[.int .i64 0, .int .i64 0] 87))) := (Kept.refl No w).alloc _
    show Calls Tryz.prog 37 #[.nilIface] w fun e w' => e = .returned (.tuple #[.int .i64 0, .int .i64 0]) ∧ Kept No w w'
    go_enter Tryz.func37, Tryz.ntmps37
    go_wp2_with (go_at_call 53; refine (as_nil _ _).mono ?_; rintro e w' ⟨rfl, rfl⟩)
    go_ret2
    exact ⟨rfl, HK.out⟩
  | some p =>
    obtain ⟨x, y⟩ := p
    show Calls Tryz.prog 37 #[.iface 87 (.agg #[.int .i64 x, .int .i64 y])] w fun e w' => e = .returned (.tuple #[.int .i64 x, .int .i64 y]) ∧ Kept No w w'
    have hc := as_hit w.heap.size x y (.int .i64 0) (.int .i64 0) (w.alloc (.cells #[.int .i64 0, .int .i64 0] 87)) (hg.alloc _) (by simp) (by simp) (by simp) (by simp)
    have HK : Hid (∀ w', Kept (fun k => k = w.heap.size) (w.alloc (.cells #[.int .i64 0, .int .i64 0] 87)) w' → Kept No w w') := fun w' k => ((Kept.refl No w).alloc _).trans k (fun k h => .inr (by omega))
    go_enter Tryz.func37, Tryz.ntmps37
    go_wp2_with (go_at_call 53; refine hc.mono ?_; rintro e w' ⟨rfl, hk, q0, q1⟩; have HK2 : Hid (Kept No w w') := HK.out _ hk; clear hk)
    go_quiet (fail)
    go_wp2
    go_ret2
    exact ⟨rfl, HK2.out.drewN _⟩
end Go.Proofs.YtibmgpinfdcaoaaGreatDoor
