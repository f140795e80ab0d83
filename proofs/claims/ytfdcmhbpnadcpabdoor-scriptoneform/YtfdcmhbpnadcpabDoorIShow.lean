/-
  script.Show of one input.
-/
import Derived.Test.YtfdcmhbpnadcpabDoorIStr
import Derived.Lib.LaidTab
import Derived.WalkSmall
namespace Go.Proofs.YtfdcmhbpnadcpabDoor
open Go.RowKit
set_option linter.unusedVariables false
set_option linter.unusedSimpArgs false
set_option maxRecDepth 100000

def KC : Array Value := #[.int .i64 1, .string ⟨#[109, 101, 115, 115, 97, 103, 101]⟩, .int .i64 64, .int .i64 1, .int .i64 16, .int .i64 2, .string ⟨#[119, 97, 107, 101]⟩, .int .i64 32, .int .i64 0, .int .i64 0]
def KM : Array Value := #[.int .i64 1, .string ⟨#[109, 101, 115, 115, 97, 103, 101]⟩, .int .i64 64, .int .i64 1, .int .i64 16]
def KZ : Array Value := #[.int .i64 0, .string ⟨#[]⟩, .int .i64 0, .int .i64 0, .int .i64 0]
/-- the tables, as they are laid -/
structure En (w : World) : Prop where
  kn : ∀ j v, KC.toList[j]? = some v → w.cell? ⟨0, j, none⟩ = some v
  tab : Lib.TabIs Tryd.prog w "internal/strconv.uint64pow10" .u64 Lib.pow10Tab
theorem gPow : ∃ g, Tryd.prog.globalNamed "internal/strconv.uint64pow10" = some g := by
  refine ⟨2, ?_⟩
  kernel_rfl
theorem En.keep {w w' : World} (h : En w) (K : Kept No w w') : En w' := by
  refine ⟨fun j v hv => K.cell (h.kn j v hv) (fun e => e), ?_⟩
  obtain ⟨g, hg⟩ := gPow
  have ht := h.tab
  unfold Lib.TabIs World.var? at ht ⊢
  rw [hg] at ht ⊢
  simp only [Option.bind_some] at ht ⊢
  have hlt : g < w.heap.size := by
    by_cases e : g < w.heap.size
    · exact e
    · have : w.heap[g]? = none := by simp; omega
      rw [this] at ht
      cases ht
  rw [K.block g hlt (fun e => e)]
  exact ht
theorem grow_kept (w : World) (k : Nat) (os : Array Obj) : Kept No w (Go.Sort.grow (w.drewN k) os) :=
  ⟨rfl, rfl, rfl, by show w.heap.size ≤ (w.heap ++ os).size; simp, fun j hj _ => by show (w.heap ++ os)[j]? = w.heap[j]?; exact Array.getElem?_append_left hj⟩
section
variable {w : World} {a : Act} {o : Oper}
theorem er_fW (x : Operand) (ho : o.op = .fieldAddr 63 x 1) (g off : Nat) (hx : a.eval x = .pointer (some ⟨g, off, none⟩)) : (execOp a.eval o).run Tryd.prog w = .ok (.value (.pointer (some ⟨g, off + 1, none⟩))) w := by simp only [execOp, ho, hx]; simp [go_sem, add_none]
theorem er_fG (x : Operand) (ho : o.op = .fieldAddr 34 x 2) (g off : Nat) (hx : a.eval x = .pointer (some ⟨g, off, none⟩)) : (execOp a.eval o).run Tryd.prog w = .ok (.value (.pointer (some ⟨g, off + 2, none⟩))) w := by simp only [execOp, ho, hx]; simp [go_sem, add_none]
theorem er_ldS (x : Operand) (ho : o.op = .load 9 x) (g off : Nat) (v : Value) (hx : a.eval x = .pointer (some ⟨g, off, none⟩)) (hr : w.cell? ⟨g, off, none⟩ = some v) : (execOp a.eval o).run Tryd.prog w = .ok (.value v) w := by
  simp only [execOp, ho, hx]; simp [go_sem, hr]
theorem er_cat (x y : Operand) (ho : o.op = .binOp .add 9 x y 9) (s t u : ByteArray) (hx : a.eval x = .string s) (hy : a.eval y = .string t) (hu : s ++ t = u) (hs : s.size + t.size ≤ 1000) : (execOp a.eval o).run Tryd.prog w = .ok (.value (.string u)) w := by
  subst hu
  simp only [execOp, ho, hx, hy]; simp [go_sem]; omega
theorem er_cItoa (x : Operand) (t : TypeId) (ho : o.op = .call { callee := .value (.func 48), args := #[x], argTypes := #[t] }) (v : Value) (hx : a.eval x = v) : (execOp a.eval o).run Tryd.prog w = .ok (.enter 48 #[v]) w := by
  subst hx
  simp [execOp, ho, go_sem, Act.eval]
end
section
variable {w : World} {a : Act} {o : Oper}
theorem er_alK (ho : o.op = .alloc 63) : (execOp a.eval o).run Tryd.prog w = .ok (.value (.pointer (some ⟨w.heap.size, 0, none⟩))) (w.alloc (.cells KZ 63)) := by
  simp only [execOp, ho]
  simp [go_sem]
  rfl
theorem er_stK (x y : Operand) (ho : o.op = .store 63 x y) (g : Nat) (A old : Array Value) (hx : a.eval x = .pointer (some ⟨g, 0, none⟩)) (hy : a.eval y = .agg A) (hg : w.heap[g]? = some (.cells old 63 (0, 0))) (hA : A.size = 5) (h5 : old.size = 5) (h1 : A.all (·.oneCell') = true) : (execOp a.eval o).run Tryd.prog w = .ok .skip (w.setRow g A) := by
  simp only [execOp, ho, hx, hy, Instr.storeAt, Instr.sureAddr, Sem.run_bind, Sem.run_pure, Result.andThen_ok, run_storeVar_row (P := Tryd.prog) w g 63 63 old A hg (by rw [hA]; kernel_rfl) (by rw [hA, h5]) h1]
end
theorem KM_all : KM.all (·.oneCell') = true := by simp [KM, Value.oneCell']
theorem ixK (w : World) : (Instr.index 64 (.agg KC) (.int .i64 0)).run Tryd.prog w = .ok (.agg KM) w := by kernel_rfl
theorem er_ixK {w : World} {a : Act} {o : Oper} (x y : Operand) (ho : o.op = .index 64 x y) (hx : a.eval x = .agg KC) (hy : a.eval y = .int .i64 0) : (execOp a.eval o).run Tryd.prog w = .ok (.value (.agg KM)) w := by
  simp only [execOp, ho, hx, hy, Sem.run_bind, ixK, Result.andThen_ok]
  rfl
theorem Tryd.infoK5 : (Tryd.prog.info? 63).map (·.size) = some 5 := by kernel_rfl
theorem Tryd.infoK10 : (Tryd.prog.info? 64).map (·.size) = some 10 := by kernel_rfl
set_option maxHeartbeats 4000000 in
theorem takes_one (w : World) (da : Option Addr) (dc : Nat) : Calls Tryd.prog 30 #[.agg KM, .agg #[.int .i64 7, .int .i64 1, .int .i64 2, .slice da 2 dc]] w fun r w' => r = .returned (.bool true) ∧ Kept No w w' := by
  obtain ⟨w2, e2⟩ : ∃ w2, w2 = (w.alloc (.cells #[.int .i64 1, .string ⟨#[109, 101, 115, 115, 97, 103, 101]⟩, .int .i64 64, .int .i64 1, .int .i64 16] 63)).alloc (.cells #[.int .i64 7, .int .i64 1, .int .i64 2, .slice da 2 dc] 34) := ⟨_, rfl⟩
  have K1 : Kept No w w2 := by rw [e2]; exact ((Kept.refl No w).alloc _).alloc _
  have BA : w2.heap[w.heap.size]? = some (.cells #[.int .i64 1, .string ⟨#[109, 101, 115, 115, 97, 103, 101]⟩, .int .i64 64, .int .i64 1, .int .i64 16] 63) := by rw [e2]; exact ((Kept.refl No _).alloc _).at' (alloc_new w _) (fun e => e)
  have BR : w2.heap[w.heap.size + 1]? = some (.cells #[.int .i64 7, .int .i64 1, .int .i64 2, .slice da 2 dc] 34) := by
    have := alloc_new (w.alloc (.cells #[.int .i64 1, .string ⟨#[109, 101, 115, 115, 97, 103, 101]⟩, .int .i64 64, .int .i64 1, .int .i64 16] 63)) (.cells #[.int .i64 7, .int .i64 1, .int .i64 2, .slice da 2 dc] 34)
    rw [World.size_alloc] at this
    rw [e2]; exact this
  have x0 : w2.cell? ⟨w.heap.size, 0, none⟩ = some (.int .i64 1) := (cell_blk BA 0).trans rfl
  have x1 : w2.cell? ⟨w.heap.size, 1, none⟩ = some (.string ⟨#[109, 101, 115, 115, 97, 103, 101]⟩) := (cell_blk BA 1).trans rfl
  have x2 : w2.cell? ⟨w.heap.size, 2, none⟩ = some (.int .i64 64) := (cell_blk BA 2).trans rfl
  have x3 : w2.cell? ⟨w.heap.size, 3, none⟩ = some (.int .i64 1) := (cell_blk BA 3).trans rfl
  have x4 : w2.cell? ⟨w.heap.size, 4, none⟩ = some (.int .i64 16) := (cell_blk BA 4).trans rfl
  have y0 : w2.cell? ⟨w.heap.size + 1, 0, none⟩ = some (.int .i64 7) := (cell_blk BR 0).trans rfl
  have y1 : w2.cell? ⟨w.heap.size + 1, 1, none⟩ = some (.int .i64 1) := (cell_blk BR 1).trans rfl
  have y2 : w2.cell? ⟨w.heap.size + 1, 2, none⟩ = some (.int .i64 2) := (cell_blk BR 2).trans rfl
  have y3 : w2.cell? ⟨w.heap.size + 1, 3, none⟩ = some (.slice da 2 dc) := (cell_blk BR 3).trans rfl
  have HH := hid K1
  clear K1 BA BR
  show Calls Tryd.prog 30 #[.agg #[.int .i64 1, .string ⟨#[109, 101, 115, 115, 97, 103, 101]⟩, .int .i64 64, .int .i64 1, .int .i64 16], .agg #[.int .i64 7, .int .i64 1, .int .i64 2, .slice da 2 dc]] w _
  go_enter Tryd.func30, Tryd.ntmps30
  go_upto_region 1 with fail
  rw [← e2]
  clear e2
  go_wp2
  go_ret
  exact ⟨rfl, HH.out⟩
set_option maxHeartbeats 8000000 in
theorem line_one {F : Nat → Prop} (w : World) (da : Option Addr) (dc : Nat) (hz : Zs w F da 2 dc [5, -1]) (he : En w) : Calls Tryd.prog 31 #[.agg KM, .agg #[.int .i64 7, .int .i64 1, .int .i64 2, .slice da 2 dc]] w fun r w' => r = .returned (.string ⟨#[55, 32, 109, 101, 115, 115, 97, 103, 101, 32, 50, 32, 53, 32, 45, 49]⟩) ∧ Kept No w w' := by
  obtain ⟨w2, e2⟩ : ∃ w2, w2 = (w.alloc (.cells #[.int .i64 1, .string ⟨#[109, 101, 115, 115, 97, 103, 101]⟩, .int .i64 64, .int .i64 1, .int .i64 16] 63)).alloc (.cells #[.int .i64 7, .int .i64 1, .int .i64 2, .slice da 2 dc] 34) := ⟨_, rfl⟩
  have K1 : Kept No w w2 := by rw [e2]; exact ((Kept.refl No w).alloc _).alloc _
  have BA : w2.heap[w.heap.size]? = some (.cells #[.int .i64 1, .string ⟨#[109, 101, 115, 115, 97, 103, 101]⟩, .int .i64 64, .int .i64 1, .int .i64 16] 63) := by rw [e2]; exact ((Kept.refl No _).alloc _).at' (alloc_new w _) (fun e => e)
  have BR : w2.heap[w.heap.size + 1]? = some (.cells #[.int .i64 7, .int .i64 1, .int .i64 2, .slice da 2 dc] 34) := by
    have := alloc_new (w.alloc (.cells #[.int .i64 1, .string ⟨#[109, 101, 115, 115, 97, 103, 101]⟩, .int .i64 64, .int .i64 1, .int .i64 16] 63)) (.cells #[.int .i64 7, .int .i64 1, .int .i64 2, .slice da 2 dc] 34)
    rw [World.size_alloc] at this
    rw [e2]; exact this
  have x0 : w2.cell? ⟨w.heap.size, 0, none⟩ = some (.int .i64 1) := (cell_blk BA 0).trans rfl
  have x1 : w2.cell? ⟨w.heap.size, 1, none⟩ = some (.string ⟨#[109, 101, 115, 115, 97, 103, 101]⟩) := (cell_blk BA 1).trans rfl
  have x2 : w2.cell? ⟨w.heap.size, 2, none⟩ = some (.int .i64 64) := (cell_blk BA 2).trans rfl
  have x3 : w2.cell? ⟨w.heap.size, 3, none⟩ = some (.int .i64 1) := (cell_blk BA 3).trans rfl
  have x4 : w2.cell? ⟨w.heap.size, 4, none⟩ = some (.int .i64 16) := (cell_blk BA 4).trans rfl
  have y0 : w2.cell? ⟨w.heap.size + 1, 0, none⟩ = some (.int .i64 7) := (cell_blk BR 0).trans rfl
  have y1 : w2.cell? ⟨w.heap.size + 1, 1, none⟩ = some (.int .i64 1) := (cell_blk BR 1).trans rfl
  have y2 : w2.cell? ⟨w.heap.size + 1, 2, none⟩ = some (.int .i64 2) := (cell_blk BR 2).trans rfl
  have y3 : w2.cell? ⟨w.heap.size + 1, 3, none⟩ = some (.slice da 2 dc) := (cell_blk BR 3).trans rfl
  have hzc := hz.cap
  have hzm := hz.max
  have HH := hid (And.intro K1 (And.intro (hz.kept K1 (fun _ _ e => e)) (he.keep K1)))
  have X1 : Hid (∀ W, Kept No w2 W → W.cell? ⟨w.heap.size, 0 + 1, none⟩ = some (.string ⟨#[109, 101, 115, 115, 97, 103, 101]⟩)) := fun W q => q.cell x1 (fun e => e)
  have Y0 : Hid (∀ W, Kept No w2 W → W.cell? ⟨w.heap.size + 1, 0, none⟩ = some (.int .i64 7)) := fun W q => q.cell y0 (fun e => e)
  have Y2 : Hid (∀ W, Kept No w2 W → W.cell? ⟨w.heap.size + 1, 0 + 2, none⟩ = some (.int .i64 2)) := fun W q => q.cell y2 (fun e => e)
  have Y3 : Hid (∀ W, Kept No w2 W → W.cell? ⟨w.heap.size + 1, 3, none⟩ = some (.slice da 2 dc)) := fun W q => q.cell y3 (fun e => e)
  have C7 : Hid (∀ W, Kept No w2 W → Calls Tryd.prog 48 #[.int .i64 7] W fun e w'' => e = .returned (.string ⟨#[55]⟩) ∧ Kept No w2 w'') := fun W q => (itoa_small 7 (by decide) W).mono (fun r w'' h => ⟨h.1.trans (by kernel_rfl), by rw [h.2]; exact q⟩)
  have C2 : Hid (∀ W, Kept No w2 W → Calls Tryd.prog 48 #[.int .i64 2] W fun e w'' => e = .returned (.string ⟨#[50]⟩) ∧ Kept No w2 w'') := fun W q => (itoa_small 2 (by decide) W).mono (fun r w'' h => ⟨h.1.trans (by kernel_rfl), by rw [h.2]; exact q⟩)
  clear K1 BA BR hz he x0 x1 x2 x3 x4 y0 y1 y2 y3
  show Calls Tryd.prog 31 #[.agg #[.int .i64 1, .string ⟨#[109, 101, 115, 115, 97, 103, 101]⟩, .int .i64 64, .int .i64 1, .int .i64 16], .agg #[.int .i64 7, .int .i64 1, .int .i64 2, .slice da 2 dc]] w _
  go_enter Tryd.func31, Tryd.ntmps31
  go_upto_region 1 with fail
  rw [← e2]
  clear e2
  go_cut [5] (fun u wd => u = .string ⟨#[55, 32, 109, 101, 115, 115, 97, 103, 101, 32, 50]⟩ ∧ Kept No w2 wd)
  case first =>
    refine wp_region_held_drew (S := fun W => Kept No w2 W) (by kernel_rfl) ((Kept.refl _ w2).drew) (fun hS => ?_)
    refine d_take 0 8 rfl rfl (by kernel_rfl) (by kernel_rfl) (by kernel_rfl) (fun _ _ _ h => h) rfl (fun w' hw' => er_fT _ rfl (w.heap.size + 1) 0 rfl) hS ?_
    simp only [Act.put, List.setIfInBounds_toArray, List.set_cons_zero, List.set_cons_succ]
    refine d_take 1 9 rfl rfl (by kernel_rfl) (by kernel_rfl) (by kernel_rfl) (fun _ _ _ h => h) rfl (fun w' hw' => er_ldi _ rfl (w.heap.size + 1) 0 (.int .i64 7) rfl (Y0.out w' hw')) hS ?_
    simp only [Act.put, List.setIfInBounds_toArray, List.set_cons_zero, List.set_cons_succ]
    refine d_take 4 12 rfl rfl (by kernel_rfl) (by kernel_rfl) (by kernel_rfl) (fun _ _ _ h => h) rfl (fun w' hw' => er_fW _ rfl w.heap.size 0 rfl) hS ?_
    simp only [Act.put, List.setIfInBounds_toArray, List.set_cons_zero, List.set_cons_succ]
    refine d_take 5 13 rfl rfl (by kernel_rfl) (by kernel_rfl) (by kernel_rfl) (fun _ _ _ h => h) rfl (fun w' hw' => er_ldS _ rfl w.heap.size (0 + 1) (.string ⟨#[109, 101, 115, 115, 97, 103, 101]⟩) rfl (X1.out w' hw')) hS ?_
    simp only [Act.put, List.setIfInBounds_toArray, List.set_cons_zero, List.set_cons_succ]
    refine d_take 8 16 rfl rfl (by kernel_rfl) (by kernel_rfl) (by kernel_rfl) (fun _ _ _ h => h) rfl (fun w' hw' => er_fG _ rfl (w.heap.size + 1) 0 rfl) hS ?_
    simp only [Act.put, List.setIfInBounds_toArray, List.set_cons_zero, List.set_cons_succ]
    refine d_take 9 17 rfl rfl (by kernel_rfl) (by kernel_rfl) (by kernel_rfl) (fun _ _ _ h => h) rfl (fun w' hw' => er_ldi _ rfl (w.heap.size + 1) (0 + 2) (.int .i64 2) rfl (Y2.out w' hw')) hS ?_
    simp only [Act.put, List.setIfInBounds_toArray, List.set_cons_zero, List.set_cons_succ]
    refine d_call 2 10 (by kernel_rfl) rfl rfl rfl (er_cItoa _ _ rfl (.int .i64 7) rfl) (C7.out _ hS) (fun w' hS => ?_)
    simp only [Act.put, List.setIfInBounds_toArray, List.set_cons_zero, List.set_cons_succ]
    refine d_take 3 11 rfl rfl (by kernel_rfl) (by kernel_rfl) (by kernel_rfl) (fun _ _ _ h => h) rfl (fun w' hw' => er_cat _ _ rfl ⟨#[55]⟩ ⟨#[32]⟩ ⟨#[55, 32]⟩ rfl rfl (by kernel_rfl) (by decide)) hS ?_
    simp only [Act.put, List.setIfInBounds_toArray, List.set_cons_zero, List.set_cons_succ]
    refine d_take 6 14 rfl rfl (by kernel_rfl) (by kernel_rfl) (by kernel_rfl) (fun _ _ _ h => h) rfl (fun w' hw' => er_cat _ _ rfl ⟨#[55, 32]⟩ ⟨#[109, 101, 115, 115, 97, 103, 101]⟩ ⟨#[55, 32, 109, 101, 115, 115, 97, 103, 101]⟩ rfl rfl (by kernel_rfl) (by decide)) hS ?_
    simp only [Act.put, List.setIfInBounds_toArray, List.set_cons_zero, List.set_cons_succ]
    refine d_take 7 15 rfl rfl (by kernel_rfl) (by kernel_rfl) (by kernel_rfl) (fun _ _ _ h => h) rfl (fun w' hw' => er_cat _ _ rfl ⟨#[55, 32, 109, 101, 115, 115, 97, 103, 101]⟩ ⟨#[32]⟩ ⟨#[55, 32, 109, 101, 115, 115, 97, 103, 101, 32]⟩ rfl rfl (by kernel_rfl) (by decide)) hS ?_
    simp only [Act.put, List.setIfInBounds_toArray, List.set_cons_zero, List.set_cons_succ]
    refine d_call 10 18 (by kernel_rfl) rfl rfl rfl (er_cItoa _ _ rfl (.int .i64 2) rfl) (C2.out _ hS) (fun w' hS => ?_)
    simp only [Act.put, List.setIfInBounds_toArray, List.set_cons_zero, List.set_cons_succ]
    refine d_take 11 19 rfl rfl (by kernel_rfl) (by kernel_rfl) (by kernel_rfl) (fun _ _ _ h => h) rfl (fun w' hw' => er_cat _ _ rfl ⟨#[55, 32, 109, 101, 115, 115, 97, 103, 101, 32]⟩ ⟨#[50]⟩ ⟨#[55, 32, 109, 101, 115, 115, 97, 103, 101, 32, 50]⟩ rfl rfl (by kernel_rfl) (by decide)) hS ?_
    simp only [Act.put, List.setIfInBounds_toArray, List.set_cons_zero, List.set_cons_succ]
    refine d_take 12 5 rfl rfl (by kernel_rfl) (by kernel_rfl) (by kernel_rfl) (fun _ _ _ h => h) rfl (fun w' hw' => er_as _ rfl (.string ⟨#[55, 32, 109, 101, 115, 115, 97, 103, 101, 32, 50]⟩) rfl) hS ?_
    simp only [Act.put, List.setIfInBounds_toArray, List.set_cons_zero, List.set_cons_succ]
    refine wpAnyH_done (by kernel_rfl) ?_ _
    have KD := hid hS
    clear hS
    go_wp2
    go_meet
    exact ⟨rfl, KD.out⟩
  case rest =>
  rename World => w3
  obtain ⟨rfl, k3⟩ := hcut
  have y3 := Y3.out _ k3
  have K3 := hid k3
  clear k3
  go_upto_region 2 with fail
  go_wp2
  go_loopw [5, 23] (fun u5 u23 wr => (u5 = .string ⟨#[55, 32, 109, 101, 115, 115, 97, 103, 101, 32, 50]⟩ ∧ u23 = .int .i64 0 ∨ u5 = .string ⟨#[55, 32, 109, 101, 115, 115, 97, 103, 101, 32, 50, 32, 53]⟩ ∧ u23 = .int .i64 1 ∨ u5 = .string ⟨#[55, 32, 109, 101, 115, 115, 97, 103, 101, 32, 50, 32, 53, 32, 45, 49]⟩ ∧ u23 = .int .i64 2) ∧ Kept No w2 wr) (fun _ u23 _ => 2 - (intOf u23).toNat)
  case atStart => exact ⟨.inl ⟨rfl, rfl⟩, K3.out⟩
  case round =>
    clear y3
    obtain ⟨hu, kr⟩ := hrel
    rcases hu with ⟨rfl, rfl⟩ | ⟨rfl, rfl⟩ | ⟨rfl, rfl⟩
    · obtain ⟨b, o, rfl, _, hc⟩ := HH.out.2.1.at' 0 (by omega)
      have hc' : wr.cell? ⟨b, o, none⟩ = some (.int .i64 5) := kr.cell hc (fun e => e)
      have C5 : Hid (Calls Tryd.prog 49 #[.int .i64 5, .int .i64 10] wr fun e w'' => e = .returned (.string ⟨#[53]⟩) ∧ w'' = wr) := (fmt_small 5 (by decide) wr).mono (fun r w'' h => ⟨h.1.trans (by kernel_rfl), h.2⟩)
      have KR := hid kr
      clear kr hc
      go_wp2_with (go_at_call 49; refine C5.out.mono ?_; rintro r w4 ⟨rfl, rfl⟩)
      refine ⟨⟨.inr (.inl ⟨rfl, rfl⟩), KR.out⟩, ?_⟩
      simp [intOf]
    · obtain ⟨b, o, rfl, _, hc⟩ := HH.out.2.1.at' 1 (by omega)
      have hc' : wr.cell? ⟨b, o + 1, none⟩ = some (.int .i64 (-1)) := kr.cell hc (fun e => e)
      have C5 : Hid (Calls Tryd.prog 49 #[.int .i64 (-1), .int .i64 10] wr fun e w'' => e = .returned (.string ⟨#[45, 49]⟩) ∧ Kept No wr w'') := (fmt_any (-1) (by decide) (by decide) wr (HH.out.2.2.keep kr).tab).mono (fun r w'' h => ⟨h.1.trans (by kernel_rfl), by obtain ⟨k, os, rfl⟩ := h.2; exact grow_kept _ _ _⟩)
      have KR := hid kr
      clear kr hc
      go_wp2_with (go_at_call 49; refine C5.out.mono ?_; rintro r w4 ⟨rfl, k4⟩; have K4 := hid k4; clear k4)
      refine ⟨⟨.inr (.inr ⟨rfl, rfl⟩), KR.out.trans K4.out (fun _ e => e.elim)⟩, ?_⟩
      simp [intOf]
    · have KR := hid kr
      clear kr
      go_wp2
      go_ret
      exact ⟨rfl, HH.out.1.trans KR.out (fun _ e => e.elim)⟩
set_option maxHeartbeats 4000000 in
theorem show_one {F : Nat → Prop} (w : World) (da : Option Addr) (dc : Nat) (hz : Zs w F da 2 dc [5, -1]) (he : En w) : Calls Tryd.prog 16 #[.agg #[.int .i64 7, .int .i64 1, .int .i64 2, .slice da 2 dc]] w fun r w' => r = .returned (.tuple #[.string ⟨#[55, 32, 109, 101, 115, 115, 97, 103, 101, 32, 50, 32, 53, 32, 45, 49]⟩, .bool true]) ∧ Kept No w w' := by
  obtain ⟨w2, e2⟩ : ∃ w2, w2 = w.alloc (.cells #[.int .i64 7, .int .i64 1, .int .i64 2, .slice da 2 dc] 34) := ⟨_, rfl⟩
  have K1 : Kept No w w2 := by rw [e2]; exact (Kept.refl No w).alloc _
  have BA : w2.heap[w.heap.size]? = some (.cells #[.int .i64 7, .int .i64 1, .int .i64 2, .slice da 2 dc] 34) := by rw [e2]; exact alloc_new w _
  have LG : Hid ((Instr.loadAt 64 (.pointer (some ⟨0, 0, none⟩))).run Tryd.prog w2 = .ok (.agg KC) w2) := ldSt 64 _ KC (fun j v hv => by rw [Nat.zero_add]; exact K1.cell (he.kn j v hv) (fun e => e)) Tryd.underlying64 rfl Tryd.infoK10
  have HH := hid (And.intro K1 (And.intro BA (And.intro (hz.kept K1 (fun _ _ e => e)) (he.keep K1))))
  clear K1 BA hz he
  go_enter Tryd.func16, Tryd.ntmps16
  go_upto_region 1 with fail
  rw [← e2]
  clear e2
  go_wp2_with (refine l_take 6 rfl rfl (er_ldX 64 _ rfl (.pointer (some ⟨0, 0, none⟩)) (.agg KC) rfl LG.out) ?_)
  go_loopw [7] (fun u7 wr => u7 = .int .i64 0 ∧ w2 = wr) (fun _ _ => 0)
  case atStart => exact ⟨rfl, rfl⟩
  case round =>
    obtain ⟨rfl, rfl⟩ := hrel
    go_upto_region 3 with fail
    go_cut [5] (fun u wd => ∃ pb, u = .pointer (some ⟨pb, 0, none⟩) ∧ wd.heap[pb]? = some (.cells KM 63) ∧ Kept No w2 wd)
    case first =>
      go_wp2_with (first
        | (refine l_take 9 rfl rfl (er_ixK _ _ rfl rfl rfl) ?_)
        | (refine l_make 5 rfl rfl (er_alK rfl) ?_)
        | (refine l_turn rfl rfl (er_stK _ _ rfl w2.heap.size KM _ rfl rfl (alloc_new w2 _) rfl rfl KM_all) ?_))
      go_meet
      exact ⟨w2.heap.size, rfl, setRow_heap _ _ _ _ _ (0, 0) (alloc_new w2 _), ((Kept.refl No w2).alloc _).setRow (.inr (Nat.le_refl _)) _⟩
    case rest =>
    rename World => w3
    obtain ⟨pb, rfl, hpb, k3⟩ := hcut
    have LK : Hid (∀ W, Kept No w3 W → (Instr.loadAt 63 (.pointer (some ⟨pb, 0, none⟩))).run Tryd.prog W = .ok (.agg KM) W) := fun W q => ldSt 63 _ KM (fun j v hv => by rw [Nat.zero_add]; exact q.cell (by rw [cell_blk hpb, ← Array.getElem?_toList]; exact hv) (fun e => e)) Tryd.underlying63 rfl Tryd.infoK5
    have LX : Hid (∀ W, Kept No w3 W → (Instr.loadAt 34 (.pointer (some ⟨w.heap.size, 0, none⟩))).run Tryd.prog W = .ok (.agg #[.int .i64 7, .int .i64 1, .int .i64 2, .slice da 2 dc]) W) := fun W q => ldSt 34 _ #[.int .i64 7, .int .i64 1, .int .i64 2, .slice da 2 dc] (fun j v hv => by rw [Nat.zero_add]; exact (k3.trans q (fun _ e => e.elim)).cell (by rw [cell_blk HH.out.2.1, ← Array.getElem?_toList]; exact hv) (fun e => e)) Tryd.underlying34 rfl Tryd.infoI4
    have CT := hid (takes_one w3 da dc)
    have CL : Hid (∀ W, Kept No w3 W → Calls Tryd.prog 31 #[.agg KM, .agg #[.int .i64 7, .int .i64 1, .int .i64 2, .slice da 2 dc]] W fun r w' => r = .returned (.string ⟨#[55, 32, 109, 101, 115, 115, 97, 103, 101, 32, 50, 32, 53, 32, 45, 49]⟩) ∧ Kept No w3 w') := fun W q => (line_one W da dc ((HH.out.2.2.1.kept k3 (fun _ _ e => e)).kept q (fun _ _ e => e)) ((HH.out.2.2.2.keep k3).keep q)).mono (fun r w' h => ⟨h.1, q.trans h.2 (fun _ e => e.elim)⟩)
    have K3 := hid k3
    clear k3 hpb LG
    go_wp2_with (first
      | (refine l_take 10 rfl rfl (er_ldX 63 _ rfl (.pointer (some ⟨pb, 0, none⟩)) (.agg KM) rfl (LK.out _ (Kept.refl _ _))) ?_)
      | (refine l_take 11 rfl rfl (er_ldX 34 _ rfl (.pointer (some ⟨w.heap.size, 0, none⟩)) (.agg #[.int .i64 7, .int .i64 1, .int .i64 2, .slice da 2 dc]) rfl (LX.out _ (Kept.refl _ _))) ?_)
      | (go_at_call 30; refine CT.out.mono ?_; rintro r w4 ⟨rfl, k4⟩; have K4 := hid k4; have LK4 := hid (LK.out _ k4); have LX4 := hid (LX.out _ k4); have CL4 := hid (CL.out _ k4); clear k4 CT LK LX CL)
      | (refine l_take 13 rfl rfl (er_ldX 63 _ rfl (.pointer (some ⟨pb, 0, none⟩)) (.agg KM) rfl LK4.out) ?_)
      | (refine l_take 14 rfl rfl (er_ldX 34 _ rfl (.pointer (some ⟨w.heap.size, 0, none⟩)) (.agg #[.int .i64 7, .int .i64 1, .int .i64 2, .slice da 2 dc]) rfl LX4.out) ?_)
      | (go_at_call 31; refine CL4.out.mono ?_; rintro r w5 ⟨rfl, k5⟩; have K5 := hid k5; clear k5 CL4))
    go_ret2
    exact ⟨rfl, (HH.out.1.trans K3.out (fun _ e => e.elim)).trans K5.out (fun _ e => e.elim)⟩
end Go.Proofs.YtfdcmhbpnadcpabDoor
