/-
  trace: slices.Equal, areOne, Differ.
-/
import Derived.Test.YtdnfdnionkfamaaDoorVCopy
namespace Go.Proofs.YtdnfdnionkfamaaDoor
open Go.RowKit
set_option linter.unusedVariables false
set_option linter.unusedSimpArgs false
set_option maxRecDepth 100000

section
variable {w : World} {a : Act} {o : Oper}
theorem er_cOne (x y : Operand) (t s : TypeId) (ho : o.op = .call { callee := .value (.func 13), args := #[x, y], argTypes := #[t, s] }) (u v : Value) (hx : a.eval x = u) (hy : a.eval y = v) : (execOp a.eval o).run Tryd.prog w = .ok (.enter 13 #[u, v]) w := by
  subst hx hy
  simp [execOp, ho, go_sem, Act.eval]
theorem er_not (x : Operand) (ho : o.op = .unOp .not 4 x) (u : Bool) (hx : a.eval x = .bool u) : (execOp a.eval o).run Tryd.prog w = .ok (.value (.bool (!u))) w := by
  simp only [execOp, ho, hx]; simp [go_sem]
theorem er_ixW (x y : Operand) (ho : o.op = .indexAddr 26 x y) (g q i n c : Nat) (hx : a.eval x = .slice (some ⟨g, q, none⟩) n c) (hy : a.eval y = .int .i64 (i : Int)) (hi : i < n) : (execOp a.eval o).run Tryd.prog w = .ok (.value (.pointer (some ⟨g, q + i, none⟩))) w := by
  simp only [execOp, ho, hx, hy]
  simp [go_sem, add_none, hi]
theorem er_ldw (x : Operand) (ho : o.op = .load 2 x) (g off : Nat) (v : Value) (hx : a.eval x = .pointer (some ⟨g, off, none⟩)) (hr : w.cell? ⟨g, off, none⟩ = some v) : (execOp a.eval o).run Tryd.prog w = .ok (.value v) w := by
  simp only [execOp, ho, hx]; simp [go_sem, hr]
theorem er_neW2 (x y : Operand) (ho : o.op = .binOp .neq 2 x y 2) (u v : Int) (c : Bool) (hx : a.eval x = .int .i64 u) (hy : a.eval y = .int .i64 v) (hc : (u != v) = c) : (execOp a.eval o).run Tryd.prog w = .ok (.value (.bool c)) w := by
  subst hc
  simp only [execOp, ho, hx, hy]; simp [go_sem]
end
theorem getD_eq {xs ys : List Int} (hl : xs.length = ys.length) (h : ∀ i, i < xs.length → xs.getD i 0 = ys.getD i 0) : xs = ys := by
  apply List.ext_getElem hl
  intro i h1 h2
  have := h i h1
  simpa [List.getD, h1, h2] using this

set_option maxHeartbeats 4000000 in
theorem equal_any {F G : Nat → Prop} {da ea : Option Addr} {n m dc ec : Nat} {xs ys : List Int} (w : World) (hx : Zs w F da n dc xs) (hy : Zs w G ea m ec ys) :
    Calls Tryd.prog 20 #[.slice da n dc, .slice ea m ec] w fun r w' => r = .returned (.bool (decide (xs = ys))) ∧ Kept No w w' := by
  have hcd := hx.cap
  have hce := hy.cap
  have hcm := hx.max
  have hcn := hy.max
  have hlx := hx.len
  have hly := hy.len
  by_cases hnm : n = m
  · subst hnm
    have HH := hid (And.intro hx hy)
    clear hx hy
    go_enter Tryd.func20, Tryd.ntmps20
    go_upto_region 4 with fail
    go_wp2
    go_loopw [13] (fun u13 wr => ∃ (k : Nat), k ≤ n ∧ u13 = .int .i64 k ∧ (∀ i, i < k → xs.getD i 0 = ys.getD i 0) ∧ Kept No w wr) (fun u13 _ => n - (intOf u13).toNat)
    case atStart => exact ⟨0, by omega, rfl, fun i hi => by omega, Kept.refl _ _⟩
    case round =>
      obtain ⟨k, hk, rfl, hs, kr⟩ := hrel
      by_cases hlt : k < n
      · have hltz : (k : Int) < (n : Int) := by omega
        obtain ⟨b1, o1, rfl, _, c1⟩ := HH.out.1.at' k hlt
        obtain ⟨b2, o2, rfl, _, c2⟩ := HH.out.2.at' k hlt
        obtain ⟨z1, hz1⟩ : ∃ z, z = xs.getD k 0 := ⟨_, rfl⟩
        obtain ⟨z2, hz2⟩ : ∃ z, z = ys.getD k 0 := ⟨_, rfl⟩
        rw [← hz1] at c1
        rw [← hz2] at c2
        have U1 : Hid (∀ W, Kept No w W → W.cell? ⟨b1, o1 + k, none⟩ = some (.int .i64 z1)) := fun W q => q.cell c1 (fun e => e)
        have U2 : Hid (∀ W, Kept No w W → W.cell? ⟨b2, o2 + k, none⟩ = some (.int .i64 z2)) := fun W q => q.cell c2 (fun e => e)
        have KR := hid kr
        clear kr c1 c2
        go_upto_region 6 with fail
        refine wp_region_held_drew (S := fun W => Kept No w W) (by kernel_rfl) (KR.out.drew) (fun hS => ?_)
        by_cases hz : z1 = z2
        · have hzz : (z1 != z2) = false := by simp [hz]
          refine d_take 0 16 rfl rfl (by kernel_rfl) (by kernel_rfl) (by kernel_rfl) (fun _ _ _ h => h) rfl (fun w' hw' => er_mv _ rfl (.slice (some ⟨b1, o1, none⟩) n dc) rfl) hS ?_
          simp only [Act.put, List.setIfInBounds_toArray, List.set_cons_zero, List.set_cons_succ]
          refine d_take 1 17 rfl rfl (by kernel_rfl) (by kernel_rfl) (by kernel_rfl) (fun _ _ _ h => h) rfl (fun w' hw' => er_mv _ rfl (.int .i64 (k : Int)) rfl) hS ?_
          simp only [Act.put, List.setIfInBounds_toArray, List.set_cons_zero, List.set_cons_succ]
          refine d_take 2 18 rfl rfl (by kernel_rfl) (by kernel_rfl) (by kernel_rfl) (fun _ _ _ h => h) rfl (fun w' hw' => er_ixW _ _ rfl b1 o1 k n dc rfl rfl hlt) hS ?_
          simp only [Act.put, List.setIfInBounds_toArray, List.set_cons_zero, List.set_cons_succ]
          refine d_take 3 19 rfl rfl (by kernel_rfl) (by kernel_rfl) (by kernel_rfl) (fun _ _ _ h => h) rfl (fun w' hw' => er_ldw _ rfl b1 (o1 + k) (.int .i64 z1) rfl (U1.out w' hw')) hS ?_
          simp only [Act.put, List.setIfInBounds_toArray, List.set_cons_zero, List.set_cons_succ]
          refine d_take 4 20 rfl rfl (by kernel_rfl) (by kernel_rfl) (by kernel_rfl) (fun _ _ _ h => h) rfl (fun w' hw' => er_mv _ rfl (.slice (some ⟨b2, o2, none⟩) n ec) rfl) hS ?_
          simp only [Act.put, List.setIfInBounds_toArray, List.set_cons_zero, List.set_cons_succ]
          refine d_take 5 21 rfl rfl (by kernel_rfl) (by kernel_rfl) (by kernel_rfl) (fun _ _ _ h => h) rfl (fun w' hw' => er_mv _ rfl (.int .i64 (k : Int)) rfl) hS ?_
          simp only [Act.put, List.setIfInBounds_toArray, List.set_cons_zero, List.set_cons_succ]
          refine d_take 6 22 rfl rfl (by kernel_rfl) (by kernel_rfl) (by kernel_rfl) (fun _ _ _ h => h) rfl (fun w' hw' => er_ixW _ _ rfl b2 o2 k n ec rfl rfl hlt) hS ?_
          simp only [Act.put, List.setIfInBounds_toArray, List.set_cons_zero, List.set_cons_succ]
          refine d_take 7 23 rfl rfl (by kernel_rfl) (by kernel_rfl) (by kernel_rfl) (fun _ _ _ h => h) rfl (fun w' hw' => er_ldw _ rfl b2 (o2 + k) (.int .i64 z2) rfl (U2.out w' hw')) hS ?_
          simp only [Act.put, List.setIfInBounds_toArray, List.set_cons_zero, List.set_cons_succ]
          refine d_take 8 24 rfl rfl (by kernel_rfl) (by kernel_rfl) (by kernel_rfl) (fun _ _ _ h => h) rfl (fun w' hw' => er_neW2 _ _ rfl z1 z2 false rfl rfl hzz) hS ?_
          simp only [Act.put, List.setIfInBounds_toArray, List.set_cons_zero, List.set_cons_succ]
          refine wpAnyH_done (by kernel_rfl) ?_ _
          have KD := hid hS
          clear hS
          go_wp2
          refine ⟨⟨k + 1, by omega, by go_num, fun i hi => ?_, KD.out⟩, ?_⟩
          · by_cases e : i = k
            · subst e; rw [← hz1, ← hz2]; exact hz
            · exact hs i (by omega)
          · simp [intOf]; omega
        · have hzz : (z1 != z2) = true := by simp [hz]
          refine d_take 0 16 rfl rfl (by kernel_rfl) (by kernel_rfl) (by kernel_rfl) (fun _ _ _ h => h) rfl (fun w' hw' => er_mv _ rfl (.slice (some ⟨b1, o1, none⟩) n dc) rfl) hS ?_
          simp only [Act.put, List.setIfInBounds_toArray, List.set_cons_zero, List.set_cons_succ]
          refine d_take 1 17 rfl rfl (by kernel_rfl) (by kernel_rfl) (by kernel_rfl) (fun _ _ _ h => h) rfl (fun w' hw' => er_mv _ rfl (.int .i64 (k : Int)) rfl) hS ?_
          simp only [Act.put, List.setIfInBounds_toArray, List.set_cons_zero, List.set_cons_succ]
          refine d_take 2 18 rfl rfl (by kernel_rfl) (by kernel_rfl) (by kernel_rfl) (fun _ _ _ h => h) rfl (fun w' hw' => er_ixW _ _ rfl b1 o1 k n dc rfl rfl hlt) hS ?_
          simp only [Act.put, List.setIfInBounds_toArray, List.set_cons_zero, List.set_cons_succ]
          refine d_take 3 19 rfl rfl (by kernel_rfl) (by kernel_rfl) (by kernel_rfl) (fun _ _ _ h => h) rfl (fun w' hw' => er_ldw _ rfl b1 (o1 + k) (.int .i64 z1) rfl (U1.out w' hw')) hS ?_
          simp only [Act.put, List.setIfInBounds_toArray, List.set_cons_zero, List.set_cons_succ]
          refine d_take 4 20 rfl rfl (by kernel_rfl) (by kernel_rfl) (by kernel_rfl) (fun _ _ _ h => h) rfl (fun w' hw' => er_mv _ rfl (.slice (some ⟨b2, o2, none⟩) n ec) rfl) hS ?_
          simp only [Act.put, List.setIfInBounds_toArray, List.set_cons_zero, List.set_cons_succ]
          refine d_take 5 21 rfl rfl (by kernel_rfl) (by kernel_rfl) (by kernel_rfl) (fun _ _ _ h => h) rfl (fun w' hw' => er_mv _ rfl (.int .i64 (k : Int)) rfl) hS ?_
          simp only [Act.put, List.setIfInBounds_toArray, List.set_cons_zero, List.set_cons_succ]
          refine d_take 6 22 rfl rfl (by kernel_rfl) (by kernel_rfl) (by kernel_rfl) (fun _ _ _ h => h) rfl (fun w' hw' => er_ixW _ _ rfl b2 o2 k n ec rfl rfl hlt) hS ?_
          simp only [Act.put, List.setIfInBounds_toArray, List.set_cons_zero, List.set_cons_succ]
          refine d_take 7 23 rfl rfl (by kernel_rfl) (by kernel_rfl) (by kernel_rfl) (fun _ _ _ h => h) rfl (fun w' hw' => er_ldw _ rfl b2 (o2 + k) (.int .i64 z2) rfl (U2.out w' hw')) hS ?_
          simp only [Act.put, List.setIfInBounds_toArray, List.set_cons_zero, List.set_cons_succ]
          refine d_take 8 24 rfl rfl (by kernel_rfl) (by kernel_rfl) (by kernel_rfl) (fun _ _ _ h => h) rfl (fun w' hw' => er_neW2 _ _ rfl z1 z2 true rfl rfl hzz) hS ?_
          simp only [Act.put, List.setIfInBounds_toArray, List.set_cons_zero, List.set_cons_succ]
          refine wpAnyH_done (by kernel_rfl) ?_ _
          have KD := hid hS
          clear hS
          go_wp2
          go_ret
          refine ⟨?_, KD.out⟩
          have hne : ¬ xs = ys := fun e => hz (by rw [hz1, hz2, e])
          simp [hne]
      · have hltz : ¬ (k : Int) < (n : Int) := by omega
        have KR := hid kr
        clear kr
        go_wp2
        go_ret
        refine ⟨?_, KR.out⟩
        have he : xs = ys := getD_eq (by rw [hlx, hly]) (fun i hi => hs i (by omega))
        simp [he]
  · have hnz : ((n : Int) != (m : Int)) = true := by simp; omega
    have hne : ¬ xs = ys := fun e => hnm (by rw [← hlx, ← hly, e])
    clear hx hy
    go_enter Tryd.func20, Tryd.ntmps20
    go_wp2
    go_ret
    exact ⟨by simp [hne], Kept.refl _ _⟩

/-- areOne: what stands in its two boxes -/
theorem one_boxes {F G : Nat → Prop} {x y : Ev} {da ea : Option Addr} {dc ec : Nat} (w : World) (hx : Ir w F x da dc) (hy : Ir w G y ea ec) : ∃ w2, w2 = (w.alloc (.cells #[.int .i64 x.tk, .int .i64 x.pt, .int .i64 x.kd, .int .i64 x.pr, .int .i64 x.ea, .int .i64 x.eb, .slice da x.d.length dc] 28)).alloc (.cells #[.int .i64 y.tk, .int .i64 y.pt, .int .i64 y.kd, .int .i64 y.pr, .int .i64 y.ea, .int .i64 y.eb, .slice ea y.d.length ec] 28) ∧ Kept No w w2 ∧ Ir w2 F x da dc ∧ Ir w2 G y ea ec ∧ w2.heap[w.heap.size]? = some (.cells #[.int .i64 x.tk, .int .i64 x.pt, .int .i64 x.kd, .int .i64 x.pr, .int .i64 x.ea, .int .i64 x.eb, .slice da x.d.length dc] 28) ∧ w2.heap[w.heap.size + 1]? = some (.cells #[.int .i64 y.tk, .int .i64 y.pt, .int .i64 y.kd, .int .i64 y.pr, .int .i64 y.ea, .int .i64 y.eb, .slice ea y.d.length ec] 28) := by
  refine ⟨_, rfl, ?_⟩
  have K1 : Kept No w ((w.alloc (.cells #[.int .i64 x.tk, .int .i64 x.pt, .int .i64 x.kd, .int .i64 x.pr, .int .i64 x.ea, .int .i64 x.eb, .slice da x.d.length dc] 28)).alloc (.cells #[.int .i64 y.tk, .int .i64 y.pt, .int .i64 y.kd, .int .i64 y.pr, .int .i64 y.ea, .int .i64 y.eb, .slice ea y.d.length ec] 28)) := ((Kept.refl No w).alloc _).alloc _
  refine ⟨K1, hx.keep K1, hy.keep K1, ((Kept.refl No _).alloc _).at' (alloc_new w _) (fun e => e), ?_⟩
  have := alloc_new (w.alloc (.cells #[.int .i64 x.tk, .int .i64 x.pt, .int .i64 x.kd, .int .i64 x.pr, .int .i64 x.ea, .int .i64 x.eb, .slice da x.d.length dc] 28)) (.cells #[.int .i64 y.tk, .int .i64 y.pt, .int .i64 y.kd, .int .i64 y.pr, .int .i64 y.ea, .int .i64 y.eb, .slice ea y.d.length ec] 28)
  rw [World.size_alloc] at this
  exact this

set_option maxHeartbeats 4000000 in
theorem one_0 {F G : Nat → Prop} {x y : Ev} {da ea : Option Addr} {dc ec : Nat} (w : World) (hx : Ir w F x da dc) (hy : Ir w G y ea ec) (h0 : (x.tk == y.tk) = false) :
    Calls Tryd.prog 13 #[.agg (x.val da dc), .agg (y.val ea ec)] w fun r w' => r = .returned (.bool false) ∧ Kept No w w' := by
  obtain ⟨w2, e2, K1, ix, iy, BA, BR⟩ := one_boxes w hx hy
  have x0 : w2.cell? ⟨w.heap.size, 0, none⟩ = some (.int .i64 x.tk) := (cell_blk BA 0).trans rfl
  have y0 : w2.cell? ⟨w.heap.size + 1, 0, none⟩ = some (.int .i64 y.tk) := (cell_blk BR 0).trans rfl
  have HH := hid K1
  clear K1 BA BR hx hy ix iy
  show Calls Tryd.prog 13 #[.agg #[.int .i64 x.tk, .int .i64 x.pt, .int .i64 x.kd, .int .i64 x.pr, .int .i64 x.ea, .int .i64 x.eb, .slice da x.d.length dc], .agg #[.int .i64 y.tk, .int .i64 y.pt, .int .i64 y.kd, .int .i64 y.pr, .int .i64 y.ea, .int .i64 y.eb, .slice ea y.d.length ec]] w _
  go_enter Tryd.func13, Tryd.ntmps13
  go_upto_region 1 with fail
  rw [← e2]
  clear e2
  go_wp2
  go_ret
  exact ⟨rfl, HH.out⟩

set_option maxHeartbeats 4000000 in
theorem one_1 {F G : Nat → Prop} {x y : Ev} {da ea : Option Addr} {dc ec : Nat} (w : World) (hx : Ir w F x da dc) (hy : Ir w G y ea ec) (h0 : (x.tk == y.tk) = true) (h1 : (x.pt == y.pt) = false) :
    Calls Tryd.prog 13 #[.agg (x.val da dc), .agg (y.val ea ec)] w fun r w' => r = .returned (.bool false) ∧ Kept No w w' := by
  obtain ⟨w2, e2, K1, ix, iy, BA, BR⟩ := one_boxes w hx hy
  have x0 : w2.cell? ⟨w.heap.size, 0, none⟩ = some (.int .i64 x.tk) := (cell_blk BA 0).trans rfl
  have y0 : w2.cell? ⟨w.heap.size + 1, 0, none⟩ = some (.int .i64 y.tk) := (cell_blk BR 0).trans rfl
  have x1 : w2.cell? ⟨w.heap.size, 1, none⟩ = some (.int .i64 x.pt) := (cell_blk BA 1).trans rfl
  have y1 : w2.cell? ⟨w.heap.size + 1, 1, none⟩ = some (.int .i64 y.pt) := (cell_blk BR 1).trans rfl
  have HH := hid K1
  clear K1 BA BR hx hy ix iy
  show Calls Tryd.prog 13 #[.agg #[.int .i64 x.tk, .int .i64 x.pt, .int .i64 x.kd, .int .i64 x.pr, .int .i64 x.ea, .int .i64 x.eb, .slice da x.d.length dc], .agg #[.int .i64 y.tk, .int .i64 y.pt, .int .i64 y.kd, .int .i64 y.pr, .int .i64 y.ea, .int .i64 y.eb, .slice ea y.d.length ec]] w _
  go_enter Tryd.func13, Tryd.ntmps13
  go_upto_region 1 with fail
  rw [← e2]
  clear e2
  go_wp2
  go_ret
  exact ⟨rfl, HH.out⟩

set_option maxHeartbeats 4000000 in
theorem one_2 {F G : Nat → Prop} {x y : Ev} {da ea : Option Addr} {dc ec : Nat} (w : World) (hx : Ir w F x da dc) (hy : Ir w G y ea ec) (h0 : (x.tk == y.tk) = true) (h1 : (x.pt == y.pt) = true) (h2 : (x.kd == y.kd) = false) :
    Calls Tryd.prog 13 #[.agg (x.val da dc), .agg (y.val ea ec)] w fun r w' => r = .returned (.bool false) ∧ Kept No w w' := by
  obtain ⟨w2, e2, K1, ix, iy, BA, BR⟩ := one_boxes w hx hy
  have x0 : w2.cell? ⟨w.heap.size, 0, none⟩ = some (.int .i64 x.tk) := (cell_blk BA 0).trans rfl
  have y0 : w2.cell? ⟨w.heap.size + 1, 0, none⟩ = some (.int .i64 y.tk) := (cell_blk BR 0).trans rfl
  have x1 : w2.cell? ⟨w.heap.size, 1, none⟩ = some (.int .i64 x.pt) := (cell_blk BA 1).trans rfl
  have y1 : w2.cell? ⟨w.heap.size + 1, 1, none⟩ = some (.int .i64 y.pt) := (cell_blk BR 1).trans rfl
  have x2 : w2.cell? ⟨w.heap.size, 2, none⟩ = some (.int .i64 x.kd) := (cell_blk BA 2).trans rfl
  have y2 : w2.cell? ⟨w.heap.size + 1, 2, none⟩ = some (.int .i64 y.kd) := (cell_blk BR 2).trans rfl
  have HH := hid K1
  clear K1 BA BR hx hy ix iy
  show Calls Tryd.prog 13 #[.agg #[.int .i64 x.tk, .int .i64 x.pt, .int .i64 x.kd, .int .i64 x.pr, .int .i64 x.ea, .int .i64 x.eb, .slice da x.d.length dc], .agg #[.int .i64 y.tk, .int .i64 y.pt, .int .i64 y.kd, .int .i64 y.pr, .int .i64 y.ea, .int .i64 y.eb, .slice ea y.d.length ec]] w _
  go_enter Tryd.func13, Tryd.ntmps13
  go_upto_region 1 with fail
  rw [← e2]
  clear e2
  go_wp2
  go_ret
  exact ⟨rfl, HH.out⟩

set_option maxHeartbeats 4000000 in
theorem one_3 {F G : Nat → Prop} {x y : Ev} {da ea : Option Addr} {dc ec : Nat} (w : World) (hx : Ir w F x da dc) (hy : Ir w G y ea ec) (h0 : (x.tk == y.tk) = true) (h1 : (x.pt == y.pt) = true) (h2 : (x.kd == y.kd) = true) (h3 : (x.pr == y.pr) = false) :
    Calls Tryd.prog 13 #[.agg (x.val da dc), .agg (y.val ea ec)] w fun r w' => r = .returned (.bool false) ∧ Kept No w w' := by
  obtain ⟨w2, e2, K1, ix, iy, BA, BR⟩ := one_boxes w hx hy
  have x0 : w2.cell? ⟨w.heap.size, 0, none⟩ = some (.int .i64 x.tk) := (cell_blk BA 0).trans rfl
  have y0 : w2.cell? ⟨w.heap.size + 1, 0, none⟩ = some (.int .i64 y.tk) := (cell_blk BR 0).trans rfl
  have x1 : w2.cell? ⟨w.heap.size, 1, none⟩ = some (.int .i64 x.pt) := (cell_blk BA 1).trans rfl
  have y1 : w2.cell? ⟨w.heap.size + 1, 1, none⟩ = some (.int .i64 y.pt) := (cell_blk BR 1).trans rfl
  have x2 : w2.cell? ⟨w.heap.size, 2, none⟩ = some (.int .i64 x.kd) := (cell_blk BA 2).trans rfl
  have y2 : w2.cell? ⟨w.heap.size + 1, 2, none⟩ = some (.int .i64 y.kd) := (cell_blk BR 2).trans rfl
  have x3 : w2.cell? ⟨w.heap.size, 3, none⟩ = some (.int .i64 x.pr) := (cell_blk BA 3).trans rfl
  have y3 : w2.cell? ⟨w.heap.size + 1, 3, none⟩ = some (.int .i64 y.pr) := (cell_blk BR 3).trans rfl
  have HH := hid K1
  clear K1 BA BR hx hy ix iy
  show Calls Tryd.prog 13 #[.agg #[.int .i64 x.tk, .int .i64 x.pt, .int .i64 x.kd, .int .i64 x.pr, .int .i64 x.ea, .int .i64 x.eb, .slice da x.d.length dc], .agg #[.int .i64 y.tk, .int .i64 y.pt, .int .i64 y.kd, .int .i64 y.pr, .int .i64 y.ea, .int .i64 y.eb, .slice ea y.d.length ec]] w _
  go_enter Tryd.func13, Tryd.ntmps13
  go_upto_region 1 with fail
  rw [← e2]
  clear e2
  go_wp2
  go_ret
  exact ⟨rfl, HH.out⟩

set_option maxHeartbeats 4000000 in
theorem one_4 {F G : Nat → Prop} {x y : Ev} {da ea : Option Addr} {dc ec : Nat} (w : World) (hx : Ir w F x da dc) (hy : Ir w G y ea ec) (h0 : (x.tk == y.tk) = true) (h1 : (x.pt == y.pt) = true) (h2 : (x.kd == y.kd) = true) (h3 : (x.pr == y.pr) = true) (h4 : (x.ea == y.ea) = false) :
    Calls Tryd.prog 13 #[.agg (x.val da dc), .agg (y.val ea ec)] w fun r w' => r = .returned (.bool false) ∧ Kept No w w' := by
  obtain ⟨w2, e2, K1, ix, iy, BA, BR⟩ := one_boxes w hx hy
  have x0 : w2.cell? ⟨w.heap.size, 0, none⟩ = some (.int .i64 x.tk) := (cell_blk BA 0).trans rfl
  have y0 : w2.cell? ⟨w.heap.size + 1, 0, none⟩ = some (.int .i64 y.tk) := (cell_blk BR 0).trans rfl
  have x1 : w2.cell? ⟨w.heap.size, 1, none⟩ = some (.int .i64 x.pt) := (cell_blk BA 1).trans rfl
  have y1 : w2.cell? ⟨w.heap.size + 1, 1, none⟩ = some (.int .i64 y.pt) := (cell_blk BR 1).trans rfl
  have x2 : w2.cell? ⟨w.heap.size, 2, none⟩ = some (.int .i64 x.kd) := (cell_blk BA 2).trans rfl
  have y2 : w2.cell? ⟨w.heap.size + 1, 2, none⟩ = some (.int .i64 y.kd) := (cell_blk BR 2).trans rfl
  have x3 : w2.cell? ⟨w.heap.size, 3, none⟩ = some (.int .i64 x.pr) := (cell_blk BA 3).trans rfl
  have y3 : w2.cell? ⟨w.heap.size + 1, 3, none⟩ = some (.int .i64 y.pr) := (cell_blk BR 3).trans rfl
  have x4 : w2.cell? ⟨w.heap.size, 4, none⟩ = some (.int .i64 x.ea) := (cell_blk BA 4).trans rfl
  have y4 : w2.cell? ⟨w.heap.size + 1, 4, none⟩ = some (.int .i64 y.ea) := (cell_blk BR 4).trans rfl
  have HH := hid K1
  clear K1 BA BR hx hy ix iy
  show Calls Tryd.prog 13 #[.agg #[.int .i64 x.tk, .int .i64 x.pt, .int .i64 x.kd, .int .i64 x.pr, .int .i64 x.ea, .int .i64 x.eb, .slice da x.d.length dc], .agg #[.int .i64 y.tk, .int .i64 y.pt, .int .i64 y.kd, .int .i64 y.pr, .int .i64 y.ea, .int .i64 y.eb, .slice ea y.d.length ec]] w _
  go_enter Tryd.func13, Tryd.ntmps13
  go_upto_region 1 with fail
  rw [← e2]
  clear e2
  go_wp2
  go_ret
  exact ⟨rfl, HH.out⟩

set_option maxHeartbeats 4000000 in
theorem one_5 {F G : Nat → Prop} {x y : Ev} {da ea : Option Addr} {dc ec : Nat} (w : World) (hx : Ir w F x da dc) (hy : Ir w G y ea ec) (h0 : (x.tk == y.tk) = true) (h1 : (x.pt == y.pt) = true) (h2 : (x.kd == y.kd) = true) (h3 : (x.pr == y.pr) = true) (h4 : (x.ea == y.ea) = true) (h5 : (x.eb == y.eb) = false) :
    Calls Tryd.prog 13 #[.agg (x.val da dc), .agg (y.val ea ec)] w fun r w' => r = .returned (.bool false) ∧ Kept No w w' := by
  obtain ⟨w2, e2, K1, ix, iy, BA, BR⟩ := one_boxes w hx hy
  have x0 : w2.cell? ⟨w.heap.size, 0, none⟩ = some (.int .i64 x.tk) := (cell_blk BA 0).trans rfl
  have y0 : w2.cell? ⟨w.heap.size + 1, 0, none⟩ = some (.int .i64 y.tk) := (cell_blk BR 0).trans rfl
  have x1 : w2.cell? ⟨w.heap.size, 1, none⟩ = some (.int .i64 x.pt) := (cell_blk BA 1).trans rfl
  have y1 : w2.cell? ⟨w.heap.size + 1, 1, none⟩ = some (.int .i64 y.pt) := (cell_blk BR 1).trans rfl
  have x2 : w2.cell? ⟨w.heap.size, 2, none⟩ = some (.int .i64 x.kd) := (cell_blk BA 2).trans rfl
  have y2 : w2.cell? ⟨w.heap.size + 1, 2, none⟩ = some (.int .i64 y.kd) := (cell_blk BR 2).trans rfl
  have x3 : w2.cell? ⟨w.heap.size, 3, none⟩ = some (.int .i64 x.pr) := (cell_blk BA 3).trans rfl
  have y3 : w2.cell? ⟨w.heap.size + 1, 3, none⟩ = some (.int .i64 y.pr) := (cell_blk BR 3).trans rfl
  have x4 : w2.cell? ⟨w.heap.size, 4, none⟩ = some (.int .i64 x.ea) := (cell_blk BA 4).trans rfl
  have y4 : w2.cell? ⟨w.heap.size + 1, 4, none⟩ = some (.int .i64 y.ea) := (cell_blk BR 4).trans rfl
  have x5 : w2.cell? ⟨w.heap.size, 5, none⟩ = some (.int .i64 x.eb) := (cell_blk BA 5).trans rfl
  have y5 : w2.cell? ⟨w.heap.size + 1, 5, none⟩ = some (.int .i64 y.eb) := (cell_blk BR 5).trans rfl
  have HH := hid K1
  clear K1 BA BR hx hy ix iy
  show Calls Tryd.prog 13 #[.agg #[.int .i64 x.tk, .int .i64 x.pt, .int .i64 x.kd, .int .i64 x.pr, .int .i64 x.ea, .int .i64 x.eb, .slice da x.d.length dc], .agg #[.int .i64 y.tk, .int .i64 y.pt, .int .i64 y.kd, .int .i64 y.pr, .int .i64 y.ea, .int .i64 y.eb, .slice ea y.d.length ec]] w _
  go_enter Tryd.func13, Tryd.ntmps13
  go_upto_region 1 with fail
  rw [← e2]
  clear e2
  go_wp2
  go_ret
  exact ⟨rfl, HH.out⟩

set_option maxHeartbeats 4000000 in
theorem one_6 {F G : Nat → Prop} {x y : Ev} {da ea : Option Addr} {dc ec : Nat} (w : World) (hx : Ir w F x da dc) (hy : Ir w G y ea ec) (h0 : (x.tk == y.tk) = true) (h1 : (x.pt == y.pt) = true) (h2 : (x.kd == y.kd) = true) (h3 : (x.pr == y.pr) = true) (h4 : (x.ea == y.ea) = true) (h5 : (x.eb == y.eb) = true) :
    Calls Tryd.prog 13 #[.agg (x.val da dc), .agg (y.val ea ec)] w fun r w' => r = .returned (.bool (decide (x.d = y.d))) ∧ Kept No w w' := by
  obtain ⟨w2, e2, K1, ix, iy, BA, BR⟩ := one_boxes w hx hy
  have x0 : w2.cell? ⟨w.heap.size, 0, none⟩ = some (.int .i64 x.tk) := (cell_blk BA 0).trans rfl
  have y0 : w2.cell? ⟨w.heap.size + 1, 0, none⟩ = some (.int .i64 y.tk) := (cell_blk BR 0).trans rfl
  have x1 : w2.cell? ⟨w.heap.size, 1, none⟩ = some (.int .i64 x.pt) := (cell_blk BA 1).trans rfl
  have y1 : w2.cell? ⟨w.heap.size + 1, 1, none⟩ = some (.int .i64 y.pt) := (cell_blk BR 1).trans rfl
  have x2 : w2.cell? ⟨w.heap.size, 2, none⟩ = some (.int .i64 x.kd) := (cell_blk BA 2).trans rfl
  have y2 : w2.cell? ⟨w.heap.size + 1, 2, none⟩ = some (.int .i64 y.kd) := (cell_blk BR 2).trans rfl
  have x3 : w2.cell? ⟨w.heap.size, 3, none⟩ = some (.int .i64 x.pr) := (cell_blk BA 3).trans rfl
  have y3 : w2.cell? ⟨w.heap.size + 1, 3, none⟩ = some (.int .i64 y.pr) := (cell_blk BR 3).trans rfl
  have x4 : w2.cell? ⟨w.heap.size, 4, none⟩ = some (.int .i64 x.ea) := (cell_blk BA 4).trans rfl
  have y4 : w2.cell? ⟨w.heap.size + 1, 4, none⟩ = some (.int .i64 y.ea) := (cell_blk BR 4).trans rfl
  have x5 : w2.cell? ⟨w.heap.size, 5, none⟩ = some (.int .i64 x.eb) := (cell_blk BA 5).trans rfl
  have y5 : w2.cell? ⟨w.heap.size + 1, 5, none⟩ = some (.int .i64 y.eb) := (cell_blk BR 5).trans rfl
  have x6 : w2.cell? ⟨w.heap.size, 6, none⟩ = some (.slice da x.d.length dc) := (cell_blk BA 6).trans rfl
  have y6 : w2.cell? ⟨w.heap.size + 1, 6, none⟩ = some (.slice ea y.d.length ec) := (cell_blk BR 6).trans rfl
  have EQ := equal_any w2 ix.zs iy.zs
  have HH := hid K1
  clear K1 BA BR hx hy ix iy
  show Calls Tryd.prog 13 #[.agg #[.int .i64 x.tk, .int .i64 x.pt, .int .i64 x.kd, .int .i64 x.pr, .int .i64 x.ea, .int .i64 x.eb, .slice da x.d.length dc], .agg #[.int .i64 y.tk, .int .i64 y.pt, .int .i64 y.kd, .int .i64 y.pr, .int .i64 y.ea, .int .i64 y.eb, .slice ea y.d.length ec]] w _
  go_enter Tryd.func13, Tryd.ntmps13
  go_upto_region 1 with fail
  rw [← e2]
  clear e2
  go_wp2_with (go_at_call 20; refine EQ.mono ?_; rintro e w3 ⟨rfl, k3⟩; have H3 := hid (HH.out.trans k3 (fun _ e => e.elim)); clear k3 EQ)
  go_ret
  exact ⟨rfl, H3.out⟩

theorem one_any {F G : Nat → Prop} {x y : Ev} {da ea : Option Addr} {dc ec : Nat} (w : World) (hx : Ir w F x da dc) (hy : Ir w G y ea ec) :
    Calls Tryd.prog 13 #[.agg (x.val da dc), .agg (y.val ea ec)] w fun r w' => r = .returned (.bool (decide (x = y))) ∧ Kept No w w' := by
  by_cases h0 : x.tk = y.tk
  rotate_left
  · have hne : ¬ x = y := fun e => h0 (by rw [e])
    rw [decide_eq_false hne]
    exact one_0 w hx hy (by simp [h0])
  by_cases h1 : x.pt = y.pt
  rotate_left
  · have hne : ¬ x = y := fun e => h1 (by rw [e])
    rw [decide_eq_false hne]
    exact one_1 w hx hy (by simp [h0]) (by simp [h1])
  by_cases h2 : x.kd = y.kd
  rotate_left
  · have hne : ¬ x = y := fun e => h2 (by rw [e])
    rw [decide_eq_false hne]
    exact one_2 w hx hy (by simp [h0]) (by simp [h1]) (by simp [h2])
  by_cases h3 : x.pr = y.pr
  rotate_left
  · have hne : ¬ x = y := fun e => h3 (by rw [e])
    rw [decide_eq_false hne]
    exact one_3 w hx hy (by simp [h0]) (by simp [h1]) (by simp [h2]) (by simp [h3])
  by_cases h4 : x.ea = y.ea
  rotate_left
  · have hne : ¬ x = y := fun e => h4 (by rw [e])
    rw [decide_eq_false hne]
    exact one_4 w hx hy (by simp [h0]) (by simp [h1]) (by simp [h2]) (by simp [h3]) (by simp [h4])
  by_cases h5 : x.eb = y.eb
  rotate_left
  · have hne : ¬ x = y := fun e => h5 (by rw [e])
    rw [decide_eq_false hne]
    exact one_5 w hx hy (by simp [h0]) (by simp [h1]) (by simp [h2]) (by simp [h3]) (by simp [h4]) (by simp [h5])
  have he : (x = y) ↔ x.d = y.d := ⟨fun e => by rw [e], fun e => by cases x; cases y; simp at h0 h1 h2 h3 h4 h5 e; simp [h0, h1, h2, h3, h4, h5, e]⟩
  rw [show decide (x = y) = decide (x.d = y.d) from decide_eq_decide.2 he]
  exact one_6 w hx hy (by simp [h0]) (by simp [h1]) (by simp [h2]) (by simp [h3]) (by simp [h4]) (by simp [h5])

set_option maxHeartbeats 4000000 in
theorem differ_any {F G : Nat → Prop} {a b : Option Addr} {n m c d : Nat} {xs ys : List Ev} (w : World) (hl : Il w F a n c xs) (hm : Il w G b m d ys) :
    Calls Tryd.prog 8 #[.slice a n c, .slice b m d] w fun r w' => r = .returned (.int .i64 (difV xs ys)) ∧ Kept No w w' := by
  have hlc := hl.cap
  have hlm := hl.max
  have hmc := hm.cap
  have hmm := hm.max
  have hlen := hl.len
  have hlem := hm.len
  have HH := hid (And.intro hl hm)
  clear hl hm
  obtain ⟨q, hq1, hq2, hq3, hqz⟩ : ∃ q : Nat, q ≤ n ∧ q ≤ m ∧ (q = n ∨ q = m) ∧ ∀ i : Decidable (m < n), @ite Int (m < n) i (m : Int) (n : Int) = (q : Int) := by
    by_cases h : m < n
    · exact ⟨m, by omega, by omega, .inr rfl, fun i => if_pos h⟩
    · exact ⟨n, by omega, by omega, .inl rfl, fun i => if_neg h⟩
  go_enter Tryd.func8, Tryd.ntmps8
  go_upto_region 2 with fail
  go_wp2
  go_loopw [6, 13] (fun u6 u13 wr => ∃ (k : Nat), k ≤ q ∧ u13 = .int .i64 k ∧ (∀ i, i < k → xs[i]? = ys[i]?) ∧ Kept No w wr) (fun _ u13 _ => q - (intOf u13).toNat)
  case atStart => exact ⟨0, by omega, rfl, fun i hi => by omega, Kept.refl _ _⟩
  case round =>
    obtain ⟨k, hk, rfl, hs, kr⟩ := hrel
    have HS := hid hs
    clear hs
    by_cases hlt : k < q
    · have hltz : (k : Int) < (q : Int) := by omega
      obtain ⟨x, hx⟩ : ∃ x, xs[k]? = some x := ⟨_, List.getElem?_eq_getElem (by omega)⟩
      obtain ⟨y, hy⟩ : ∃ y, ys[k]? = some y := ⟨_, List.getElem?_eq_getElem (by omega)⟩
      obtain ⟨b1, o1, da, dc, rfl, _, c1, ir1⟩ := HH.out.1.at' k x hx
      obtain ⟨b2, o2, ea, ec, rfl, _, c2, ir2⟩ := HH.out.2.at' k y hy
      have LX : Hid (∀ W, Kept No w W → (Instr.loadAt 28 (.pointer (some ⟨b1, o1 + k * 7, none⟩))).run Tryd.prog W = .ok (.agg (x.val da dc)) W) := fun W q => ldI (fun j v hv => q.cell (c1 j v hv) (fun e => e))
      have LY : Hid (∀ W, Kept No w W → (Instr.loadAt 28 (.pointer (some ⟨b2, o2 + k * 7, none⟩))).run Tryd.prog W = .ok (.agg (y.val ea ec)) W) := fun W q => ldI (fun j v hv => q.cell (c2 j v hv) (fun e => e))
      have CS : Hid (∀ W, Kept No w W → Calls Tryd.prog 13 #[.agg (x.val da dc), .agg (y.val ea ec)] W fun e w'' => e = .returned (.bool (decide (x = y))) ∧ Kept No w w'') := fun W q => (one_any W (ir1.keep q) (ir2.keep q)).mono (fun r w'' h => ⟨h.1, q.trans h.2 (fun _ e => e.elim)⟩)
      have KR := hid kr
      have HXY := hid (And.intro hx hy)
      clear kr c1 c2 ir1 ir2 hx hy
      go_upto_region 5 with fail
      refine wp_region_held_drew (S := fun W => Kept No w W) (by kernel_rfl) (KR.out.drew) (fun hS => ?_)
      refine d_take 0 16 rfl rfl (by kernel_rfl) (by kernel_rfl) (by kernel_rfl) (fun _ _ _ h => h) rfl (fun w' hw' => er_mv _ rfl (.slice (some ⟨b1, o1, none⟩) n c) rfl) hS ?_
      simp only [Act.put, List.setIfInBounds_toArray, List.set_cons_zero, List.set_cons_succ]
      refine d_take 1 17 rfl rfl (by kernel_rfl) (by kernel_rfl) (by kernel_rfl) (fun _ _ _ h => h) rfl (fun w' hw' => er_mv _ rfl (.int .i64 (k : Int)) rfl) hS ?_
      simp only [Act.put, List.setIfInBounds_toArray, List.set_cons_zero, List.set_cons_succ]
      refine d_take 2 18 rfl rfl (by kernel_rfl) (by kernel_rfl) (by kernel_rfl) (fun _ _ _ h => h) rfl (fun w' hw' => er_ixN _ _ rfl b1 o1 k n c rfl rfl (by omega)) hS ?_
      simp only [Act.put, List.setIfInBounds_toArray, List.set_cons_zero, List.set_cons_succ]
      refine d_take 3 19 rfl rfl (by kernel_rfl) (by kernel_rfl) (by kernel_rfl) (fun _ _ _ h => h) rfl (fun w' hw' => er_ldX 28 _ rfl (.pointer (some ⟨b1, o1 + k * 7, none⟩)) (.agg (x.val da dc)) rfl (LX.out w' hw')) hS ?_
      simp only [Act.put, List.setIfInBounds_toArray, List.set_cons_zero, List.set_cons_succ]
      refine d_take 4 20 rfl rfl (by kernel_rfl) (by kernel_rfl) (by kernel_rfl) (fun _ _ _ h => h) rfl (fun w' hw' => er_mv _ rfl (.slice (some ⟨b2, o2, none⟩) m d) rfl) hS ?_
      simp only [Act.put, List.setIfInBounds_toArray, List.set_cons_zero, List.set_cons_succ]
      refine d_take 5 21 rfl rfl (by kernel_rfl) (by kernel_rfl) (by kernel_rfl) (fun _ _ _ h => h) rfl (fun w' hw' => er_mv _ rfl (.int .i64 (k : Int)) rfl) hS ?_
      simp only [Act.put, List.setIfInBounds_toArray, List.set_cons_zero, List.set_cons_succ]
      refine d_take 6 22 rfl rfl (by kernel_rfl) (by kernel_rfl) (by kernel_rfl) (fun _ _ _ h => h) rfl (fun w' hw' => er_ixN _ _ rfl b2 o2 k m d rfl rfl (by omega)) hS ?_
      simp only [Act.put, List.setIfInBounds_toArray, List.set_cons_zero, List.set_cons_succ]
      refine d_take 7 23 rfl rfl (by kernel_rfl) (by kernel_rfl) (by kernel_rfl) (fun _ _ _ h => h) rfl (fun w' hw' => er_ldX 28 _ rfl (.pointer (some ⟨b2, o2 + k * 7, none⟩)) (.agg (y.val ea ec)) rfl (LY.out w' hw')) hS ?_
      simp only [Act.put, List.setIfInBounds_toArray, List.set_cons_zero, List.set_cons_succ]
      refine d_call 8 24 (by kernel_rfl) rfl rfl rfl (er_cOne _ _ _ _ rfl (.agg (x.val da dc)) (.agg (y.val ea ec)) rfl rfl) (CS.out _ hS) (fun w' hS => ?_)
      simp only [Act.put, List.setIfInBounds_toArray, List.set_cons_zero, List.set_cons_succ]
      refine d_take 9 25 rfl rfl (by kernel_rfl) (by kernel_rfl) (by kernel_rfl) (fun _ _ _ h => h) rfl (fun w' hw' => er_not _ rfl (decide (x = y)) rfl) hS ?_
      simp only [Act.put, List.setIfInBounds_toArray, List.set_cons_zero, List.set_cons_succ]
      refine wpAnyH_done (by kernel_rfl) ?_ _
      have KD := hid hS
      clear hS
      by_cases he : x = y
      · rw [decide_eq_true he]
        go_wp2
        refine ⟨⟨k + 1, by omega, by go_num, fun i hi => ?_, KD.out⟩, ?_⟩
        · by_cases e : i = k
          · subst e; rw [HXY.out.1, HXY.out.2, he]
          · exact HS.out i (by omega)
        · simp [intOf]; omega
      · rw [decide_eq_false he]
        have hv : difV xs ys = (k : Int) := by unfold difV; rw [(dif_at HS.out (by omega) (by omega)).1 x y HXY.out.1 HXY.out.2 he]
        go_wp2
        go_ret
        exact ⟨by first | (rw [hv]; rfl) | rfl | (rw [hv]) | simp [hv], KD.out⟩
    · have hltz : ¬ (k : Int) < (q : Int) := by omega
      obtain rfl : k = q := by omega
      have KR := hid kr
      clear kr
      by_cases hnm : n = m
      · subst hnm
        have hv : difV xs ys = -1 := by unfold difV; rw [(dif_at HS.out (by omega) (by omega)).2.2.2 (by omega) (by omega)]
        go_wp2
        go_ret
        exact ⟨by first | (rw [hv]; rfl) | rfl | (rw [hv]) | simp [hv], KR.out⟩
      · have hnz : ((n : Int) != (m : Int)) = true := by simp; omega
        have hv : difV xs ys = (k : Int) := by
          unfold difV
          by_cases h1 : k = xs.length
          · rw [(dif_at HS.out (by omega) (by omega)).2.1 h1 (by omega)]
          · rw [(dif_at HS.out (by omega) (by omega)).2.2.1 (by omega) (by omega)]
        go_wp2
        go_ret
        exact ⟨by first | (rw [hv]; rfl) | rfl | (rw [hv]) | simp [hv], KR.out⟩
end Go.Proofs.YtdnfdnionkfamaaDoor
