/-
  proc: Line.
-/
import Derived.Test.YtofkacfchkimiaaPFairP
import Derived.Test.YtofkacfchkimiaaPHeld
import Derived.Shelf.SlSortCmp.Whole1
import Derived.Shelf.Lay
import Derived.Ground.SlsfProg
import Derived.Ground.NamesProg
import Derived.Maps.AppendAt
import Derived.Deep.DeepCutAuto
namespace Go.Proofs.Ytofkacfchkimiaa
open Go.Shelf Go.RowKit Go.Lib Go.Sort
set_option linter.unusedVariables false
set_option maxRecDepth 100000

shelf_lay_g SlLaysF.n6 Slsf 6 at Try 52 as Try.sortF

theorem hid {p : Prop} (h : p) : Hid p := h
section
variable {w : World} {a : Act} {o : Oper}
theorem er_ldTp (x : Operand) (ho : o.op = .load 22 x) (g : Nat) (v : Value) (hx : a.eval x = .pointer (some ⟨g, 0, none⟩)) (hg : w.cell? ⟨g, 0, none⟩ = some v) : (execOp a.eval o).run Try.prog w = .ok (.value v) w := by
  simp only [execOp, ho, hx]; simp [go_sem, hg]
theorem ec_2 {f : FuncId} (ef : ∀ args w, (callFunc f args).run Try.prog w = .ok (.enter f args) w) (x y : Operand) (t t' : TypeId) (ho : o.op = .call { callee := .value (.func f), args := #[x, y], argTypes := #[t, t'] }) (v u : Value) (hx : a.eval x = v) (hy : a.eval y = u) : (execOp a.eval o).run Try.prog w = .ok (.enter f #[v, u]) w := by
  subst hx hy
  simp [execOp, ho, go_sem, Act.eval, ef]
theorem er_mvX (x : Operand) (ho : o.op = .move x) (v : Value) (hx : a.eval x = v) : (execOp a.eval o).run Try.prog w = .ok (.value v) w := by simp only [execOp, ho, hx]; rfl
theorem er_asX (x : Operand) (ho : o.op = .assign x) (v : Value) (hx : a.eval x = v) : (execOp a.eval o).run Try.prog w = .ok (.value v) w := by simp only [execOp, ho, hx]; rfl
end
section
variable {b g cap : Nat} {T : Tt}
set_option maxHeartbeats 2000000 in
theorem cmpF_any (W : World) (h : Tw W b g cap T) (hn : T.n ≤ 1048576) {i j : Nat} (hi : i < T.n) (hj : j < T.n) {B : Nat} (hB : W.cell? ⟨B, 0, none⟩ = some (.pointer (some ⟨b, 0, none⟩))) :
    Calls Try.prog 53 #[.int .i64 ((i : Int) + 1), .int .i64 ((j : Int) + 1), .pointer (some ⟨B, 0, none⟩)] W fun e w' => e = .returned (.int .i64 (cmpP (T.ps i) (T.ps j))) ∧ ∃ q, w' = W.drewN q := by
  have H := hid h
  have HB := hid hB
  clear h hB
  generalize hz : cmpP (T.ps i) (T.ps j) = z
  have HZ := hid hz
  clear hz
  go_enter Try.func53, Try.ntmps53
  go_upto_region 1 with fail
  refine wp_region_held_drew (S := fun V => ∃ q, V = W.drewN q) (by kernel_rfl) ⟨1, rfl⟩ (fun hS => ?_)
  have tw : ∀ {V : World}, (∃ q, V = W.drewN q) → Tw V b g cap T := fun {V} hv => by obtain ⟨q, rfl⟩ := hv; exact H.out.keep ((Kept.refl No W).drewN q)
  have cb : ∀ {V : World}, (∃ q, V = W.drewN q) → V.cell? ⟨B, 0, none⟩ = some (.pointer (some ⟨b, 0, none⟩)) := fun {V} hv => by obtain ⟨q, rfl⟩ := hv; exact HB.out
  refine d_take 0 6 rfl rfl (by kernel_rfl) (by kernel_rfl) (by kernel_rfl) (fun _ _ _ h => h) rfl (fun w' hw' => er_ldTp _ rfl B (.pointer (some ⟨b, 0, none⟩)) rfl (cb hw')) hS ?_
  simp only [Act.put, List.setIfInBounds_toArray, List.set_cons_zero, List.set_cons_succ]
  refine d_take 1 7 rfl rfl (by kernel_rfl) (by kernel_rfl) (by kernel_rfl) (fun _ _ _ h => h) rfl (fun w' hw' => er_mvX _ rfl (.int .i64 ((i : Int) + 1)) rfl) hS ?_
  simp only [Act.put, List.setIfInBounds_toArray, List.set_cons_zero, List.set_cons_succ]
  refine d_take 3 9 rfl rfl (by kernel_rfl) (by kernel_rfl) (by kernel_rfl) (fun _ _ _ h => h) rfl (fun w' hw' => er_ldTp _ rfl B (.pointer (some ⟨b, 0, none⟩)) rfl (cb hw')) hS ?_
  simp only [Act.put, List.setIfInBounds_toArray, List.set_cons_zero, List.set_cons_succ]
  refine d_take 4 10 rfl rfl (by kernel_rfl) (by kernel_rfl) (by kernel_rfl) (fun _ _ _ h => h) rfl (fun w' hw' => er_mvX _ rfl (.int .i64 ((j : Int) + 1)) rfl) hS ?_
  simp only [Act.put, List.setIfInBounds_toArray, List.set_cons_zero, List.set_cons_succ]
  refine d_call (v := .pointer (some ⟨g, i * 32, none⟩)) 2 8 (by kernel_rfl) rfl rfl rfl (ec_2 (enters_of Try.func34 (by kernel_rfl) rfl) _ _ _ _ rfl (.pointer (some ⟨b, 0, none⟩)) (.int .i64 ((i : Int) + 1)) rfl rfl) ((find_yes _ (tw hS) hi hn).mono ?_) (fun w2 hS2 => ?_)
  · rintro e w' ⟨rfl, rfl⟩
    exact ⟨rfl, hS⟩
  simp only [Act.put, List.setIfInBounds_toArray, List.set_cons_zero, List.set_cons_succ]
  refine d_call (v := .pointer (some ⟨g, j * 32, none⟩)) 5 11 (by kernel_rfl) rfl rfl rfl (ec_2 (enters_of Try.func34 (by kernel_rfl) rfl) _ _ _ _ rfl (.pointer (some ⟨b, 0, none⟩)) (.int .i64 ((j : Int) + 1)) rfl rfl) ((find_yes _ (tw hS2) hj hn).mono ?_) (fun w3 hS3 => ?_)
  · rintro e w' ⟨rfl, rfl⟩
    exact ⟨rfl, hS2⟩
  simp only [Act.put, List.setIfInBounds_toArray, List.set_cons_zero, List.set_cons_succ]
  refine d_call (v := .int .i64 z) 6 12 (by kernel_rfl) rfl rfl rfl (ec_2 (enters_of Try.func50 (by kernel_rfl) rfl) _ _ _ _ rfl (.pointer (some ⟨g, i * 32, none⟩)) (.pointer (some ⟨g, j * 32, none⟩)) rfl rfl) ((compare_any _ (tw hS3) hi hj).mono ?_) (fun w4 hS4 => ?_)
  · rintro e w' ⟨rfl, q, rfl⟩
    obtain ⟨q0, rfl⟩ := hS3
    exact ⟨by rw [HZ.out], _, World.drewN_drewN _ _ _⟩
  simp only [Act.put, List.setIfInBounds_toArray, List.set_cons_zero, List.set_cons_succ]
  refine d_take 7 5 rfl rfl (by kernel_rfl) (by kernel_rfl) (by kernel_rfl) (fun _ _ _ h => h) rfl (fun w' hw' => er_asX _ rfl (.int .i64 z) rfl) hS4 ?_
  simp only [Act.put, List.setIfInBounds_toArray, List.set_cons_zero, List.set_cons_succ]
  refine wpAnyH_done (by kernel_rfl) ?_ _
  have HF := hid hS4
  clear hS hS2 hS3 hS4 tw cb
  go_wp2
  go_ret
  exact ⟨rfl, HF.out⟩
end
end Go.Proofs.Ytofkacfchkimiaa
