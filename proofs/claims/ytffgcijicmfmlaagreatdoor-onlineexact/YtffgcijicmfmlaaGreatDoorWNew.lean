/-
  'New'; 'first'.
-/
import Derived.Test.YtffgcijicmfmlaaGreatDoorWSmall
import Derived.Carry
namespace Go.Proofs.YtffgcijicmfmlaaGreatDoor
open Go.RowKit
set_option linter.unusedVariables false

section
variable {P : Program} {ops : Array Oper} {rest : List Oper} {op : Oper} {a : Act} {w : World} {Q : Exit → Act → World → Prop}
theorem wpList_val {w' : World} {v : Value} (hgd : op.guard = none) (hr : (execOp a.eval op).run P w = .ok (.value v) w') (h : wpList P ops Q rest (a.put op.dst v) w') : wpList P ops Q (op :: rest) a w :=
  wpList_plain hgd fun K hK => by unfold Oper.wp; rw [hr]; exact hK _ _ h
theorem wpList_skp {w' : World} (hgd : op.guard = none) (hr : (execOp a.eval op).run P w = .ok .skip w') (h : wpList P ops Q rest (a.put op.dst undef) w') : wpList P ops Q (op :: rest) a w :=
  wpList_plain hgd fun K hK => by unfold Oper.wp; rw [hr]; exact hK _ _ h
end
theorem heap_last (w : World) (o : Obj) : (w.alloc o).heap[w.heap.size]? = some o := (MapKept.heap_alloc w o).1
theorem cell_of_row {w : World} {g k : Nat} {cs : Array Value} {t : TypeId} {fr : Nat × Nat} {v : Value} (h : w.heap[g]? = some (.cells cs t fr)) (hv : cs[k]? = some v) : w.cell? ⟨g, k, none⟩ = some v := by
  simp [World.cell?, h, hv]

/-- the cells of a new wheel -/
def wcL (n : Int) (m : Nat) : List Value := .int .i64 n :: .map (some m) :: List.replicate 448 (.slice none 0 0)
theorem wc_build (n : Int) (m : Nat) (w : World) : (Instr.build 96 #[(0, .int .i64 n), (1, .map (some m))]).run Tryz.prog w = .ok (.agg (wcL n m).toArray) w := by kernel_rfl
section
variable {ops : Array Oper} {rest : List Oper} {op : Oper} {a : Act} {w : World} {Q : Exit → Act → World → Prop}
theorem wl_build69 (x y : Operand) (ho : op.op = .build 96 #[(0, x), (1, y)]) (hgd : op.guard = none) (n : Int) (m : Nat) (hx : a.eval x = .int .i64 n) (hy : a.eval y = .map (some m))
    (h : wpList Tryz.prog ops Q rest (a.put op.dst (.agg (wcL n m).toArray)) w) : wpList Tryz.prog ops Q (op :: rest) a w :=
  wpList_val hgd (by simp only [execOp, ho, List.map_toArray, List.map_cons, List.map_nil, hx, hy]; rw [Sem.run_bind, wc_build n m w]; rfl) h
theorem wl_box69 (x : Operand) (ho : op.op = .box 96 x) (hgd : op.guard = none) (cs : Array Value) (hx : a.eval x = .agg cs)
    (h : wpList Tryz.prog ops Q rest (a.put op.dst (.pointer (some ⟨w.heap.size, 0, none⟩))) (w.alloc (.cells cs 96))) : wpList Tryz.prog ops Q (op :: rest) a w :=
  wpList_val hgd (by simp only [execOp, ho, hx, Instr.box, newVar, Value.cells]; simp [go_sem]) h
end
theorem wc_slot (n : Int) (m k : Nat) (hk : k < 448) : (wcL n m).toArray[2 + k]? = some (.slice none 0 0) := by
  unfold wcL
  rw [List.getElem?_toArray, show 2 + k = k + 1 + 1 by omega, List.getElem?_cons_succ, List.getElem?_cons_succ, List.getElem?_replicate, if_pos hk]
theorem wc_0 (n : Int) (m : Nat) : (wcL n m).toArray[0]? = some (.int .i64 n) := by
  unfold wcL; rw [List.getElem?_toArray, List.getElem?_cons_zero]
theorem wc_1 (n : Int) (m : Nat) : (wcL n m).toArray[1]? = some (.map (some m)) := by
  unfold wcL; rw [List.getElem?_toArray, List.getElem?_cons_succ, List.getElem?_cons_zero]
theorem wl_new (w : World) (n : Nat) : Wl ((w.alloc (.map #[] 0)).alloc (.cells (wcL n w.heap.size).toArray 96)) (w.heap.size + 1) w.heap.size n 0 (fun _ => none) (fun _ => []) (fun _ => .slice none 0 0) := by
  have hb := heap_last (w.alloc (.map #[] 0)) (.cells (wcL n w.heap.size).toArray 96)
  rw [World.size_alloc] at hb
  refine ⟨⟨_, hb⟩, cell_of_row hb (wc_0 _ _), cell_of_row hb (wc_1 _ _), fun k hk => cell_of_row hb (wc_slot _ _ _ hk), fun k hk => World.ownsRow_nil _ _ _ _, (Tm.made w).kept ((Kept.refl No _).alloc _) (fun h => h), by omega, fun k hk => ⟨(fun e => by cases e), (fun e => by cases e)⟩, (fun k j _ _ _ g e => by cases e)⟩

theorem mk63 (w : World) : (Instr.makeMap 90 none).run Tryz.prog w = .ok (.map (some w.heap.size)) (w.alloc (.map #[] 0)) := by kernel_rfl
theorem new_no (x : Int) (hx : x < 0 ∨ x > 1099511627776) (w : World) : Calls Tryz.prog 43 #[.int .i64 x] w fun ex w' => ex = .returned (.tuple #[.pointer none, .int .i64 2]) ∧ w' = w := by
  by_cases h0 : x < 0
  · clear hx
    go_enter Tryz.func43, Tryz.ntmps43
    go_wp2
    go_ret2
    exact ⟨rfl, rfl⟩
  · have h1 : x > 1099511627776 := by omega
    clear hx
    go_enter Tryz.func43, Tryz.ntmps43
    go_wp2
    go_ret2
    exact ⟨rfl, rfl⟩
theorem new_yes (n : Nat) (hn : n ≤ 1099511627776) (w : World) : Calls Tryz.prog 43 #[.int .i64 n] w fun ex w' => ex = .returned (.tuple #[.pointer (some ⟨w.heap.size + 1, 0, none⟩), .int .i64 0]) ∧ Wl w' (w.heap.size + 1) w.heap.size n 0 (fun _ => none) (fun _ => []) (fun _ => .slice none 0 0) ∧ Below w.heap.size w w' := by
  have h0 : ¬ ((n : Int) < 0) := by omega
  have h1 : ¬ ((n : Int) > 1099511627776) := by omega
  have HW : Hid (Wl ((w.alloc (.map #[] 0)).alloc (.cells (wcL n w.heap.size).toArray 96)) (w.heap.size + 1) w.heap.size n 0 (fun _ => none) (fun _ => []) (fun _ => .slice none 0 0)) := wl_new w n
  have hmk : (Instr.makeMap 90 none).run Tryz.prog w = .ok (.map (some w.heap.size)) (w.alloc (.map #[] 0)) := mk63 w
  go_enter Tryz.func43, Tryz.ntmps43
  go_wp2_with (first
    | (refine wl_build69 _ _ rfl rfl n w.heap.size rfl rfl ?_)
    | (refine wl_box69 _ rfl rfl (wcL n w.heap.size).toArray rfl ?_))
  go_ret2
  exact ⟨by simp, HW.out, ((Below.refl _ w).alloc (Nat.le_refl _) _).alloc (by simp) _⟩

set_option maxHeartbeats 1000000 in
theorem first_any {w : World} {b mb n c : Nat} {M : Int → Option (Int × Int)} {S : Nat → List Fi} {V : Nat → Value} (h : Wl w b mb n c M S V) : Calls Tryz.prog 113 #[.pointer (some ⟨b, 0, none⟩)] w fun ex w' => w' = w ∧
    ((∃ l p, l < 7 ∧ p < 64 ∧ S (ix l p) ≠ [] ∧ (∀ j, j < ix l p → S j = []) ∧ ex = .returned (.tuple #[.int .i64 (l : Nat), .int .i64 (p : Nat), .bool true])) ∨ ((∀ j, j < 448 → S j = []) ∧ ex = .returned (.tuple #[.int .i64 0, .int .i64 0, .bool false]))) := by
  have HW : Hid (Wl w b mb n c M S V) := h
  clear h
  go_enter Tryz.func113, Tryz.ntmps113
  go_wp2
  go_loopw [7] (fun d wr => ∃ l : Nat, l ≤ 7 ∧ d = .int .i64 l ∧ (∀ j, j < 64 * l → S j = []) ∧ wr = w) (fun d _ => 7 - (intOf d).toNat)
  case atStart => exact ⟨0, by omega, rfl, fun j hj => by omega, rfl⟩
  case round =>
    obtain ⟨l, hl, rfl, hE, hwr⟩ := hrel
    obtain rfl := hwr.symm
    have HE : Hid (∀ j, j < 64 * l → S j = []) := hE
    clear hE hwr
    by_cases hlt : l < 7
    · go_wp2
      go_loopw [10] (fun d wr => ∃ p : Nat, p ≤ 64 ∧ d = .int .i64 p ∧ (∀ j, j < 64 * l + p → S j = []) ∧ wr = w) (fun d _ => 64 - (intOf d).toNat)
      case atStart => exact ⟨0, by omega, rfl, fun j hj => HE.out j (by omega), rfl⟩
      case round =>
        obtain ⟨p, hp, rfl, hE2, hwr⟩ := hrel
        obtain rfl := hwr.symm
        have HE2 : Hid (∀ j, j < 64 * l + p → S j = []) := hE2
        clear hE2 hwr
        by_cases hpl : p < 64
        · have h0 := HW.out.slot (ix l p) (ix_lt hlt hpl)
          have hr := HW.out.row (ix l p) (ix_lt hlt hpl)
          obtain ⟨va, vc, hv⟩ : ∃ va vc, V (ix l p) = .slice va (S (ix l p)).length vc := by
            rcases owns_cells2 hr with ⟨h1, h2, _⟩ | ⟨g, cap, h1, _⟩
            · exact ⟨none, 0, by rw [h1, h2]⟩
            · exact ⟨_, _, h1⟩
          rw [hv, show 2 + ix l p = 2 + l * 64 + p by unfold ix; omega] at h0
          have HX : Hid (∃ m, m = (S (ix l p)).length) := ⟨_, rfl⟩
          obtain ⟨m, hm⟩ := HX.out
          rw [← hm] at h0
          have HM : Hid (m = (S (ix l p)).length) := hm
          clear hm hr hv HX
          by_cases hz : m = 0
          · have hz' : ¬ (0 < m) := by omega
            subst hz
            go_wp2
            go_roundw
            case rel =>
              refine ⟨p + 1, by omega, by go_num, fun j hj => ?_, by first | rfl | trivial⟩
              by_cases e : j = 64 * l + p
              · subst e; exact List.eq_nil_of_length_eq_zero HM.out.symm
              · exact HE2.out j (by omega)
            case measure => simp [intOf]; omega
          · have hz' : 0 < m := by omega
            clear hz
            go_wp2
            go_ret3
            exact ⟨rfl, .inl ⟨l, p, hlt, hpl, fun e => by have := HM.out; rw [e] at this; simp at this; omega, fun j hj => HE2.out j hj, rfl⟩⟩
        · have hp64 : p = 64 := by omega
          subst hp64
          go_wp2
          go_roundw
          case rel => exact ⟨l + 1, by omega, by go_num, fun j hj => HE2.out j (by omega), by first | rfl | trivial⟩
          case measure => simp [intOf]; omega
    · have hl7 : l = 7 := by omega
      subst hl7
      go_wp2
      go_ret3
      exact ⟨rfl, .inr ⟨fun j hj => HE.out j (by omega), rfl⟩⟩

end Go.Proofs.YtffgcijicmfmlaaGreatDoor
