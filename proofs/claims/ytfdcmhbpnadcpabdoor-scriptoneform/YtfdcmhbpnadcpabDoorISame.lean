/-
  The document's SameInput and Same.
-/
import Derived.Test.YtfdcmhbpnadcpabDoorIEr
namespace Go.Proofs.YtfdcmhbpnadcpabDoor
open Go.RowKit
set_option linter.unusedVariables false
set_option linter.unusedSimpArgs false
set_option maxRecDepth 100000

section
variable {w : World} {a : Act} {o : Oper}
theorem er_fD (x : Operand) (ho : o.op = .fieldAddr 34 x 3) (g off : Nat) (hx : a.eval x = .pointer (some ⟨g, off, none⟩)) : (execOp a.eval o).run Tryd.prog w = .ok (.value (.pointer (some ⟨g, off + 3, none⟩))) w := by simp only [execOp, ho, hx]; simp [go_sem, add_none]
theorem er_ixW (x y : Operand) (ho : o.op = .indexAddr 32 x y) (g q i n c : Nat) (hx : a.eval x = .slice (some ⟨g, q, none⟩) n c) (hy : a.eval y = .int .i64 (i : Int)) (hi : i < n) : (execOp a.eval o).run Tryd.prog w = .ok (.value (.pointer (some ⟨g, q + i, none⟩))) w := by
  simp only [execOp, ho, hx, hy]
  simp [go_sem, add_none, hi]
theorem er_ldw (x : Operand) (ho : o.op = .load 2 x) (g off : Nat) (v : Value) (hx : a.eval x = .pointer (some ⟨g, off, none⟩)) (hr : w.cell? ⟨g, off, none⟩ = some v) : (execOp a.eval o).run Tryd.prog w = .ok (.value v) w := by
  simp only [execOp, ho, hx]; simp [go_sem, hr]
theorem er_neW (x y : Operand) (ho : o.op = .binOp .neq 2 x y 2) (u : Int) (hx : a.eval x = .int .i64 u) (hy : a.eval y = .int .i64 u) : (execOp a.eval o).run Tryd.prog w = .ok (.value (.bool false)) w := by
  simp only [execOp, ho, hx, hy]; simp [go_sem]
theorem er_cSame (x y : Operand) (t s : TypeId) (ho : o.op = .call { callee := .value (.func 24), args := #[x, y], argTypes := #[t, s] }) (u v : Value) (hx : a.eval x = u) (hy : a.eval y = v) : (execOp a.eval o).run Tryd.prog w = .ok (.enter 24 #[u, v]) w := by
  subst hx hy
  simp [execOp, ho, go_sem, Act.eval]
theorem er_not (x : Operand) (ho : o.op = .unOp .not 4 x) (u : Bool) (hx : a.eval x = .bool u) : (execOp a.eval o).run Tryd.prog w = .ok (.value (.bool (!u))) w := by
  simp only [execOp, ho, hx]; simp [go_sem]
end
set_option maxHeartbeats 4000000 in
theorem sameIn_yes {F G : Nat → Prop} {x y : Inp} {da ea : Option Addr} {dc ec : Nat} (w : World) (hx : Ir w F x da dc) (hy : Ir w G y ea ec) (e : x = y) :
    Calls Tryd.prog 24 #[.agg (x.val da dc), .agg (y.val ea ec)] w fun r w' => r = .returned (.bool true) ∧ Kept No w w' := by
  obtain ⟨w2, e2⟩ : ∃ w2, w2 = (w.alloc (.cells #[.int .i64 x.tk, .int .i64 x.kd, .int .i64 x.tg, .slice da x.d.length dc] 34)).alloc (.cells #[.int .i64 y.tk, .int .i64 y.kd, .int .i64 y.tg, .slice ea y.d.length ec] 34) := ⟨_, rfl⟩
  have K1 : Kept No w w2 := by rw [e2]; exact ((Kept.refl No w).alloc _).alloc _
  have BA : w2.heap[w.heap.size]? = some (.cells #[.int .i64 x.tk, .int .i64 x.kd, .int .i64 x.tg, .slice da x.d.length dc] 34) := by rw [e2]; exact ((Kept.refl No _).alloc _).at' (alloc_new w _) (fun e => e)
  have BR : w2.heap[w.heap.size + 1]? = some (.cells #[.int .i64 y.tk, .int .i64 y.kd, .int .i64 y.tg, .slice ea y.d.length ec] 34) := by
    have := alloc_new (w.alloc (.cells #[.int .i64 x.tk, .int .i64 x.kd, .int .i64 x.tg, .slice da x.d.length dc] 34)) (.cells #[.int .i64 y.tk, .int .i64 y.kd, .int .i64 y.tg, .slice ea y.d.length ec] 34)
    rw [World.size_alloc] at this
    rw [e2]; exact this
  have x0 : w2.cell? ⟨w.heap.size, 0, none⟩ = some (.int .i64 x.tk) := (cell_blk BA 0).trans rfl
  have x1 : w2.cell? ⟨w.heap.size, 1, none⟩ = some (.int .i64 x.kd) := (cell_blk BA 1).trans rfl
  have x2 : w2.cell? ⟨w.heap.size, 2, none⟩ = some (.int .i64 x.tg) := (cell_blk BA 2).trans rfl
  have x3 : w2.cell? ⟨w.heap.size, 3, none⟩ = some (.slice da x.d.length dc) := (cell_blk BA 3).trans rfl
  have y0 : w2.cell? ⟨w.heap.size + 1, 0, none⟩ = some (.int .i64 y.tk) := (cell_blk BR 0).trans rfl
  have y1 : w2.cell? ⟨w.heap.size + 1, 1, none⟩ = some (.int .i64 y.kd) := (cell_blk BR 1).trans rfl
  have y2 : w2.cell? ⟨w.heap.size + 1, 2, none⟩ = some (.int .i64 y.tg) := (cell_blk BR 2).trans rfl
  have y3 : w2.cell? ⟨w.heap.size + 1, 3, none⟩ = some (.slice ea y.d.length ec) := (cell_blk BR 3).trans rfl
  subst e
  have hsm := hx.sm
  have hcd := hx.zs.cap
  have hce := hy.zs.cap
  have hcm := hx.zs.max
  have hcn := hy.zs.max
  have HH := hid (And.intro (hx.keep K1) (And.intro (hy.keep K1) K1))
  clear hx hy K1 BA BR
  show Calls Tryd.prog 24 #[.agg #[.int .i64 x.tk, .int .i64 x.kd, .int .i64 x.tg, .slice da x.d.length dc], .agg #[.int .i64 x.tk, .int .i64 x.kd, .int .i64 x.tg, .slice ea x.d.length ec]] w _
  go_enter Tryd.func24, Tryd.ntmps24
  go_upto_region 1 with fail
  rw [← e2]
  clear e2
  go_upto_region 3 with fail
  have X3 : Hid (∀ W, Kept No w2 W → W.cell? ⟨w.heap.size, 3, none⟩ = some (.slice da x.d.length dc)) := fun W q => q.cell x3 (fun e => e)
  have Y3 : Hid (∀ W, Kept No w2 W → W.cell? ⟨w.heap.size + 1, 3, none⟩ = some (.slice ea x.d.length ec)) := fun W q => q.cell y3 (fun e => e)
  clear x0 x1 x2 x3 y0 y1 y2 y3
  go_wp2
  go_loopw [5] (fun u5 wr => ∃ (k : Nat), k ≤ x.d.length ∧ u5 = .int .i64 k ∧ Kept No w2 wr) (fun u5 _ => x.d.length - (intOf u5).toNat)
  case atStart => exact ⟨0, by omega, rfl, Kept.refl _ _⟩
  case round =>
    obtain ⟨k, hk, rfl, kr⟩ := hrel
    have xr := X3.out _ kr
    by_cases hlt : k < x.d.length
    · have hltz : (k : Int) < (x.d.length : Int) := by omega
      obtain ⟨b1, o1, rfl, _, c1⟩ := HH.out.1.zs.at' k hlt
      obtain ⟨b2, o2, rfl, _, c2⟩ := HH.out.2.1.zs.at' k hlt
      obtain ⟨z, ez⟩ : ∃ z, x.d.getD k 0 = z := ⟨_, rfl⟩
      rw [ez] at c1 c2
      have U1 : Hid (∀ W, Kept No w2 W → W.cell? ⟨b1, o1 + k, none⟩ = some (.int .i64 z)) := fun W q => q.cell c1 (fun e => e)
      have U2 : Hid (∀ W, Kept No w2 W → W.cell? ⟨b2, o2 + k, none⟩ = some (.int .i64 z)) := fun W q => q.cell c2 (fun e => e)
      have KR := hid kr
      clear kr c1 c2 ez
      go_upto_region 6 with fail
      refine wp_region_held_drew (S := fun W => Kept No w2 W) (by kernel_rfl) (KR.out.drew) (fun hS => ?_)
      refine d_take 0 41 rfl rfl (by kernel_rfl) (by kernel_rfl) (by kernel_rfl) (fun _ _ _ h => h) rfl (fun w' hw' => er_fD _ rfl w.heap.size 0 rfl) hS ?_
      simp only [Act.put, List.setIfInBounds_toArray, List.set_cons_zero, List.set_cons_succ]
      refine d_take 1 42 rfl rfl (by kernel_rfl) (by kernel_rfl) (by kernel_rfl) (fun _ _ _ h => h) rfl (fun w' hw' => er_ldL _ rfl w.heap.size 3 (.slice (some ⟨b1, o1, none⟩) x.d.length dc) rfl (X3.out w' hw')) hS ?_
      simp only [Act.put, List.setIfInBounds_toArray, List.set_cons_zero, List.set_cons_succ]
      refine d_take 2 43 rfl rfl (by kernel_rfl) (by kernel_rfl) (by kernel_rfl) (fun _ _ _ h => h) rfl (fun w' hw' => er_mv _ rfl (.int .i64 (k : Int)) rfl) hS ?_
      simp only [Act.put, List.setIfInBounds_toArray, List.set_cons_zero, List.set_cons_succ]
      refine d_take 3 44 rfl rfl (by kernel_rfl) (by kernel_rfl) (by kernel_rfl) (fun _ _ _ h => h) rfl (fun w' hw' => er_ixW _ _ rfl b1 o1 k x.d.length dc rfl rfl hlt) hS ?_
      simp only [Act.put, List.setIfInBounds_toArray, List.set_cons_zero, List.set_cons_succ]
      refine d_take 4 45 rfl rfl (by kernel_rfl) (by kernel_rfl) (by kernel_rfl) (fun _ _ _ h => h) rfl (fun w' hw' => er_ldw _ rfl b1 (o1 + k) (.int .i64 z) rfl (U1.out w' hw')) hS ?_
      simp only [Act.put, List.setIfInBounds_toArray, List.set_cons_zero, List.set_cons_succ]
      refine d_take 5 46 rfl rfl (by kernel_rfl) (by kernel_rfl) (by kernel_rfl) (fun _ _ _ h => h) rfl (fun w' hw' => er_fD _ rfl (w.heap.size + 1) 0 rfl) hS ?_
      simp only [Act.put, List.setIfInBounds_toArray, List.set_cons_zero, List.set_cons_succ]
      refine d_take 6 47 rfl rfl (by kernel_rfl) (by kernel_rfl) (by kernel_rfl) (fun _ _ _ h => h) rfl (fun w' hw' => er_ldL _ rfl (w.heap.size + 1) 3 (.slice (some ⟨b2, o2, none⟩) x.d.length ec) rfl (Y3.out w' hw')) hS ?_
      simp only [Act.put, List.setIfInBounds_toArray, List.set_cons_zero, List.set_cons_succ]
      refine d_take 7 48 rfl rfl (by kernel_rfl) (by kernel_rfl) (by kernel_rfl) (fun _ _ _ h => h) rfl (fun w' hw' => er_mv _ rfl (.int .i64 (k : Int)) rfl) hS ?_
      simp only [Act.put, List.setIfInBounds_toArray, List.set_cons_zero, List.set_cons_succ]
      refine d_take 8 49 rfl rfl (by kernel_rfl) (by kernel_rfl) (by kernel_rfl) (fun _ _ _ h => h) rfl (fun w' hw' => er_ixW _ _ rfl b2 o2 k x.d.length ec rfl rfl hlt) hS ?_
      simp only [Act.put, List.setIfInBounds_toArray, List.set_cons_zero, List.set_cons_succ]
      refine d_take 9 50 rfl rfl (by kernel_rfl) (by kernel_rfl) (by kernel_rfl) (fun _ _ _ h => h) rfl (fun w' hw' => er_ldw _ rfl b2 (o2 + k) (.int .i64 z) rfl (U2.out w' hw')) hS ?_
      simp only [Act.put, List.setIfInBounds_toArray, List.set_cons_zero, List.set_cons_succ]
      refine d_take 10 51 rfl rfl (by kernel_rfl) (by kernel_rfl) (by kernel_rfl) (fun _ _ _ h => h) rfl (fun w' hw' => er_neW _ _ rfl z rfl rfl) hS ?_
      simp only [Act.put, List.setIfInBounds_toArray, List.set_cons_zero, List.set_cons_succ]
      refine wpAnyH_done (by kernel_rfl) ?_ _
      have KD := hid hS
      clear hS xr
      go_wp2
      refine ⟨⟨k + 1, by omega, by go_num, KD.out⟩, ?_⟩
      simp [intOf]; omega
    · have hltz : ¬ (k : Int) < (x.d.length : Int) := by omega
      have KR := hid kr
      clear kr
      go_wp2
      go_ret
      exact ⟨rfl, HH.out.2.2.trans KR.out (fun _ e => e.elim)⟩
set_option maxHeartbeats 4000000 in
theorem sameIn_no {x y : Inp} {da ea : Option Addr} {dc ec : Nat} (w : World) (e : x.tk ≠ y.tk) :
    Calls Tryd.prog 24 #[.agg (x.val da dc), .agg (y.val ea ec)] w fun r w' => r = .returned (.bool false) ∧ Kept No w w' := by
  obtain ⟨w2, e2⟩ : ∃ w2, w2 = (w.alloc (.cells #[.int .i64 x.tk, .int .i64 x.kd, .int .i64 x.tg, .slice da x.d.length dc] 34)).alloc (.cells #[.int .i64 y.tk, .int .i64 y.kd, .int .i64 y.tg, .slice ea y.d.length ec] 34) := ⟨_, rfl⟩
  have K1 : Kept No w w2 := by rw [e2]; exact ((Kept.refl No w).alloc _).alloc _
  have BA : w2.heap[w.heap.size]? = some (.cells #[.int .i64 x.tk, .int .i64 x.kd, .int .i64 x.tg, .slice da x.d.length dc] 34) := by rw [e2]; exact ((Kept.refl No _).alloc _).at' (alloc_new w _) (fun e => e)
  have BR : w2.heap[w.heap.size + 1]? = some (.cells #[.int .i64 y.tk, .int .i64 y.kd, .int .i64 y.tg, .slice ea y.d.length ec] 34) := by
    have := alloc_new (w.alloc (.cells #[.int .i64 x.tk, .int .i64 x.kd, .int .i64 x.tg, .slice da x.d.length dc] 34)) (.cells #[.int .i64 y.tk, .int .i64 y.kd, .int .i64 y.tg, .slice ea y.d.length ec] 34)
    rw [World.size_alloc] at this
    rw [e2]; exact this
  have x0 : w2.cell? ⟨w.heap.size, 0, none⟩ = some (.int .i64 x.tk) := (cell_blk BA 0).trans rfl
  have x1 : w2.cell? ⟨w.heap.size, 1, none⟩ = some (.int .i64 x.kd) := (cell_blk BA 1).trans rfl
  have x2 : w2.cell? ⟨w.heap.size, 2, none⟩ = some (.int .i64 x.tg) := (cell_blk BA 2).trans rfl
  have x3 : w2.cell? ⟨w.heap.size, 3, none⟩ = some (.slice da x.d.length dc) := (cell_blk BA 3).trans rfl
  have y0 : w2.cell? ⟨w.heap.size + 1, 0, none⟩ = some (.int .i64 y.tk) := (cell_blk BR 0).trans rfl
  have y1 : w2.cell? ⟨w.heap.size + 1, 1, none⟩ = some (.int .i64 y.kd) := (cell_blk BR 1).trans rfl
  have y2 : w2.cell? ⟨w.heap.size + 1, 2, none⟩ = some (.int .i64 y.tg) := (cell_blk BR 2).trans rfl
  have y3 : w2.cell? ⟨w.heap.size + 1, 3, none⟩ = some (.slice ea y.d.length ec) := (cell_blk BR 3).trans rfl
  have HH := hid K1
  clear K1 BA BR x1 x2 x3 y1 y2 y3
  show Calls Tryd.prog 24 #[.agg #[.int .i64 x.tk, .int .i64 x.kd, .int .i64 x.tg, .slice da x.d.length dc], .agg #[.int .i64 y.tk, .int .i64 y.kd, .int .i64 y.tg, .slice ea y.d.length ec]] w _
  go_enter Tryd.func24, Tryd.ntmps24
  go_upto_region 1 with fail
  rw [← e2]
  clear e2
  go_wp2
  go_ret
  exact ⟨rfl, HH.out⟩
set_option maxHeartbeats 4000000 in
theorem same_yes {F G : Nat → Prop} {a b : Option Addr} {n c d : Nat} {xs : List Inp} (w : World) (hl : Il w F a n c xs) (hm : Il w G b n d xs) (hn : n ≤ 1048576) :
    Calls Tryd.prog 10 #[.slice a n c, .slice b n d] w fun r w' => r = .returned (.bool true) ∧ Kept No w w' := by
  have hlc := hl.cap
  have hlm := hl.max
  have hmc := hm.cap
  have hmm := hm.max
  have hlen := hl.len
  have HH := hid (And.intro hl hm)
  clear hl hm
  go_enter Tryd.func10, Tryd.ntmps10
  go_upto_region 3 with fail
  go_wp2
  go_loopw [5] (fun u5 wr => ∃ (k : Nat), k ≤ n ∧ u5 = .int .i64 k ∧ Kept No w wr) (fun u5 _ => n - (intOf u5).toNat)
  case atStart => exact ⟨0, by omega, rfl, Kept.refl _ _⟩
  case round =>
    obtain ⟨k, hk, rfl, kr⟩ := hrel
    by_cases hlt : k < n
    · have hltz : (k : Int) < (n : Int) := by omega
      obtain ⟨x, hx⟩ : ∃ x, xs[k]? = some x := ⟨_, List.getElem?_eq_getElem (by rw [hlen]; exact hlt)⟩
      obtain ⟨b1, o1, da, dc, rfl, _, c1, ir1⟩ := HH.out.1.at' k x hx
      obtain ⟨b2, o2, ea, ec, rfl, _, c2, ir2⟩ := HH.out.2.at' k x hx
      have LX : Hid (∀ W, Kept No w W → (Instr.loadAt 34 (.pointer (some ⟨b1, o1 + k * 4, none⟩))).run Tryd.prog W = .ok (.agg (x.val da dc)) W) := fun W q => ldI (fun j v hv => q.cell (c1 j v hv) (fun e => e))
      have LY : Hid (∀ W, Kept No w W → (Instr.loadAt 34 (.pointer (some ⟨b2, o2 + k * 4, none⟩))).run Tryd.prog W = .ok (.agg (x.val ea ec)) W) := fun W q => ldI (fun j v hv => q.cell (c2 j v hv) (fun e => e))
      have CS : Hid (∀ W, Kept No w W → Calls Tryd.prog 24 #[.agg (x.val da dc), .agg (x.val ea ec)] W fun e w'' => e = .returned (.bool true) ∧ Kept No w w'') := fun W q => (sameIn_yes W (ir1.keep q) (ir2.keep q) rfl).mono (fun r w'' h => ⟨h.1, q.trans h.2 (fun _ e => e.elim)⟩)
      have KR := hid kr
      clear kr c1 c2 ir1 ir2 hx
      go_upto_region 6 with fail
      refine wp_region_held_drew (S := fun W => Kept No w W) (by kernel_rfl) (KR.out.drew) (fun hS => ?_)
      refine d_take 0 17 rfl rfl (by kernel_rfl) (by kernel_rfl) (by kernel_rfl) (fun _ _ _ h => h) rfl (fun w' hw' => er_mv _ rfl (.slice (some ⟨b1, o1, none⟩) n c) rfl) hS ?_
      simp only [Act.put, List.setIfInBounds_toArray, List.set_cons_zero, List.set_cons_succ]
      refine d_take 1 18 rfl rfl (by kernel_rfl) (by kernel_rfl) (by kernel_rfl) (fun _ _ _ h => h) rfl (fun w' hw' => er_mv _ rfl (.int .i64 (k : Int)) rfl) hS ?_
      simp only [Act.put, List.setIfInBounds_toArray, List.set_cons_zero, List.set_cons_succ]
      refine d_take 2 19 rfl rfl (by kernel_rfl) (by kernel_rfl) (by kernel_rfl) (fun _ _ _ h => h) rfl (fun w' hw' => er_ixN _ _ rfl b1 o1 k n c rfl rfl hlt) hS ?_
      simp only [Act.put, List.setIfInBounds_toArray, List.set_cons_zero, List.set_cons_succ]
      refine d_take 3 20 rfl rfl (by kernel_rfl) (by kernel_rfl) (by kernel_rfl) (fun _ _ _ h => h) rfl (fun w' hw' => er_ldX 34 _ rfl (.pointer (some ⟨b1, o1 + k * 4, none⟩)) (.agg (x.val da dc)) rfl (LX.out w' hw')) hS ?_
      simp only [Act.put, List.setIfInBounds_toArray, List.set_cons_zero, List.set_cons_succ]
      refine d_take 4 21 rfl rfl (by kernel_rfl) (by kernel_rfl) (by kernel_rfl) (fun _ _ _ h => h) rfl (fun w' hw' => er_mv _ rfl (.slice (some ⟨b2, o2, none⟩) n d) rfl) hS ?_
      simp only [Act.put, List.setIfInBounds_toArray, List.set_cons_zero, List.set_cons_succ]
      refine d_take 5 22 rfl rfl (by kernel_rfl) (by kernel_rfl) (by kernel_rfl) (fun _ _ _ h => h) rfl (fun w' hw' => er_mv _ rfl (.int .i64 (k : Int)) rfl) hS ?_
      simp only [Act.put, List.setIfInBounds_toArray, List.set_cons_zero, List.set_cons_succ]
      refine d_take 6 23 rfl rfl (by kernel_rfl) (by kernel_rfl) (by kernel_rfl) (fun _ _ _ h => h) rfl (fun w' hw' => er_ixN _ _ rfl b2 o2 k n d rfl rfl hlt) hS ?_
      simp only [Act.put, List.setIfInBounds_toArray, List.set_cons_zero, List.set_cons_succ]
      refine d_take 7 24 rfl rfl (by kernel_rfl) (by kernel_rfl) (by kernel_rfl) (fun _ _ _ h => h) rfl (fun w' hw' => er_ldX 34 _ rfl (.pointer (some ⟨b2, o2 + k * 4, none⟩)) (.agg (x.val ea ec)) rfl (LY.out w' hw')) hS ?_
      simp only [Act.put, List.setIfInBounds_toArray, List.set_cons_zero, List.set_cons_succ]
      refine d_call 8 25 (by kernel_rfl) rfl rfl rfl (er_cSame _ _ _ _ rfl (.agg (x.val da dc)) (.agg (x.val ea ec)) rfl rfl) (CS.out _ hS) (fun w' hS => ?_)
      simp only [Act.put, List.setIfInBounds_toArray, List.set_cons_zero, List.set_cons_succ]
      refine d_take 9 26 rfl rfl (by kernel_rfl) (by kernel_rfl) (by kernel_rfl) (fun _ _ _ h => h) rfl (fun w' hw' => er_not _ rfl true rfl) hS ?_
      simp only [Act.put, List.setIfInBounds_toArray, List.set_cons_zero, List.set_cons_succ]
      refine wpAnyH_done (by kernel_rfl) ?_ _
      have KD := hid hS
      clear hS
      go_wp2
      refine ⟨⟨k + 1, by omega, by go_num, KD.out⟩, ?_⟩
      simp [intOf]; omega
    · have hltz : ¬ (k : Int) < (n : Int) := by omega
      have KR := hid kr
      clear kr
      go_wp2
      go_ret
      exact ⟨rfl, KR.out⟩
end Go.Proofs.YtfdcmhbpnadcpabDoor
