/-
  Made: the walk.
-/
import Derived.Test.YtofkacfchkimiaaPMadP
import Derived.Deep.DeepCutAuto
import Derived.Deep.CutBlock
namespace Go.Proofs.Ytofkacfchkimiaa
open Go.RowKit
set_option linter.unusedVariables false
set_option linter.unusedSimpArgs false
set_option maxRecDepth 100000

theorem list_bld {ops : Array Oper} {rest : List Oper} {o : Oper} {a : Act} {w : World} {Q : Exit → Act → World → Prop} (hg : o.guard = none) (t : TypeId) (parts : Array (Nat × Operand)) (ho : o.op = .build t parts) (l : List (Nat × Value)) (hl : (parts.map fun (i, x) => (i, a.eval x)).toList = l) (A : Array Value) (hb : Try.prog.built t l = some A) (h : wpList Try.prog ops Q rest (a.put o.dst (.agg A)) w) : wpList Try.prog ops Q (o :: rest) a w :=
  wg_val (by simp [Region.wanted, hg]) (er_build t parts ho l hl A hb) h
section
variable {w : World} {a : Act} {o : Oper}
theorem q_p4 (x : Operand) (ho : o.op = .fieldAddr 38 x 4) (g : Nat) (hx : a.eval x = .pointer (some ⟨g, 0, none⟩)) : (execOp a.eval o).run Try.prog w = .ok (.value (.pointer (some ⟨g, 7, none⟩))) w := by simp only [execOp, ho, hx]; simp [go_sem, add_none]
theorem q_ldc (x : Operand) (ho : o.op = .load 26 x) (g off : Nat) (v : Value) (hx : a.eval x = .pointer (some ⟨g, off, none⟩)) (hr : w.cell? ⟨g, off, none⟩ = some v) : (execOp a.eval o).run Try.prog w = .ok (.value v) w := by
  simp only [execOp, ho, hx]; simp [go_sem, hr]
theorem q_ixc (x y : Operand) (ho : o.op = .indexAddr 26 x y) (b off n c d : Nat) (hd : d < n) (hn : n ≤ 9223372036854775807) (hx : a.eval x = .slice (some ⟨b, off, none⟩) n c) (hy : a.eval y = .int .i64 d) : (execOp a.eval o).run Try.prog w = .ok (.value (.pointer (some ⟨b, off + d * 5, none⟩))) w := by
  have hdz : (d : Int) < (n : Int) := by omega
  have hc : Try.prog.cellsOf 25 = 5 := by kernel_rfl
  simp only [execOp, ho, hx, hy]
  simp [go_sem, hdz, add_none, hc]
theorem q_mvv (x : Operand) (ho : o.op = .move x) (v : Value) (hx : a.eval x = v) : (execOp a.eval o).run Try.prog w = .ok (.value v) w := by simp only [execOp, ho, hx]; rfl
theorem q_bsI (x : Operand) (ho : o.op = .buildSlice 26 1 #[(0, x)]) (x0 x1 x2 x3 x4 : Int) (hx : a.eval x = .agg #[.int .u8 x0, .int .u8 x1, .int .u8 x2, .int .u8 x3, .int .i32 x4]) : (execOp a.eval o).run Try.prog w = .ok (.value (.slice (some ⟨w.heap.size, 0, none⟩) 1 1)) (w.alloc (.cells #[.int .u8 x0, .int .u8 x1, .int .u8 x2, .int .u8 x3, .int .i32 x4] 25)) := by
  obtain ⟨i0, hi, hz0, hz1, hz2⟩ := info_parts Try.infoI5
  have e := run_buildSlice (P := Try.prog) w 26 25 1 #[(0, .agg #[.int .u8 x0, .int .u8 x1, .int .u8 x2, .int .u8 x3, .int .i32 x4])] #[.int .u8 x0, .int .u8 x1, .int .u8 x2, .int .u8 x3, .int .i32 x4] i0 _ Try.underlying26 hi hz0 (by rw [hz1]; decide) (by rw [hz1]; decide) (by rw [hz1]; kernel_rfl)
  unfold execOp
  simp only [ho, Sem.run_bind, List.map_toArray, List.map_cons, List.map_nil, hx, e, Result.andThen_ok]
  rfl
theorem q_apI (s x : Operand) (ho : o.op = .call { callee := .builtin .append, args := #[s, x], argTypes := #[26, 26] }) (v u : Value) (hs : a.eval s = v) (hx : a.eval x = u) (v' : Value) (w' : World) (hty : o.type = 26) (hr : (Builtin.append_ #[26, 26] 26 #[v, u]).run Try.prog w = .ok v' w') : (execOp a.eval o).run Try.prog w = .ok (.value v') w' := by
  unfold execOp
  simp only [ho, hty, resolve, invoke, builtin, Sem.run_bind, Sem.run_pure, Result.andThen_ok, List.map_toArray, List.map_cons, List.map_nil, hs, hx, hr]
theorem q_stc (x y : Operand) (ho : o.op = .store 26 x y) (g off : Nat) (u : Value) (va : Option Addr) (vn vc : Nat) (hx : a.eval x = .pointer (some ⟨g, off, none⟩)) (hy : a.eval y = .slice va vn vc) (hr : w.cell? ⟨g, off, none⟩ = some u) (hf : w.frozen? ⟨g, off, none⟩ = false) : (execOp a.eval o).run Try.prog w = .ok .skip (w.setCell ⟨g, off, none⟩ (.slice va vn vc)) := by
  simp only [execOp, ho, hx, hy]
  simp [go_sem, hr, hf]
end
theorem ld5 {w : World} {b o : Nat} {x0 x1 x2 x3 x4 : Int} (c0 : w.cell? ⟨b, o, none⟩ = some (.int .u8 x0)) (c1 : w.cell? ⟨b, o + 1, none⟩ = some (.int .u8 x1)) (c2 : w.cell? ⟨b, o + 2, none⟩ = some (.int .u8 x2)) (c3 : w.cell? ⟨b, o + 3, none⟩ = some (.int .u8 x3)) (c4 : w.cell? ⟨b, o + 4, none⟩ = some (.int .i32 x4)) : (Instr.loadAt 25 (.pointer (some ⟨b, o, none⟩))).run Try.prog w = .ok (.agg #[.int .u8 x0, .int .u8 x1, .int .u8 x2, .int .u8 x3, .int .i32 x4]) w :=
  run_loadAt_mid (P := Try.prog) w b o _ [.int .u8 x0, .int .u8 x1, .int .u8 x2, .int .u8 x3, .int .i32 x4] _ (fun j u hu => by
    match j, hu with
    | 0, hu => cases hu; exact c0
    | 1, hu => cases hu; exact c1
    | 2, hu => cases hu; exact c2
    | 3, hu => cases hu; exact c3
    | 4, hu => cases hu; exact c4
    | j + 5, hu => simp at hu) Try.underlying25 rfl (by kernel_rfl)

theorem q_apP {w : World} {a : Act} {o : Oper} (s x : Operand) (ho : o.op = .call { callee := .builtin .append, args := #[s, x], argTypes := #[29, 29] }) (v u : Value) (hs : a.eval s = v) (hx : a.eval x = u) (v' : Value) (w' : World) (hty : o.type = 29) (hr : (Builtin.append_ #[29, 29] 29 #[v, u]).run Try.prog w = .ok v' w') : (execOp a.eval o).run Try.prog w = .ok (.value v') w' := by
  unfold execOp
  simp only [ho, hty, resolve, invoke, builtin, Sem.run_bind, Sem.run_pure, Result.andThen_ok, List.map_toArray, List.map_cons, List.map_nil, hs, hx, hr]
/-- the process that is being made, in its variable -/
def Xb (wr W : World) (q : Ql) : Prop := W.heap[wr.heap.size]? = some (.cells #[.int .i64 q.en, .int .i64 q.pp, .int .i64 q.per, .int .i64 q.lim, .int .i64 q.ca, .bool q.au] 28) ∧ Kept No wr W
namespace Xb
variable {wr W : World} {q : Ql}
theorem c (h : Xb wr W q) : (W.cell? ⟨wr.heap.size, 0, none⟩ = some (.int .i64 q.en) ∧ W.cell? ⟨wr.heap.size, 1, none⟩ = some (.int .i64 q.pp) ∧ W.cell? ⟨wr.heap.size, 2, none⟩ = some (.int .i64 q.per) ∧ W.cell? ⟨wr.heap.size, 3, none⟩ = some (.int .i64 q.lim) ∧ W.cell? ⟨wr.heap.size, 4, none⟩ = some (.int .i64 q.ca) ∧ W.cell? ⟨wr.heap.size, 5, none⟩ = some (.bool q.au)) ∧ (∀ j, W.frozen? ⟨wr.heap.size, j, none⟩ = false) :=
  ⟨⟨cell_row h.1 rfl, cell_row h.1 rfl, cell_row h.1 rfl, cell_row h.1 rfl, cell_row h.1 rfl, cell_row h.1 rfl⟩, fun j => fzc h.1 j⟩
theorem set (h : Xb wr W q) (j : Nat) (v : Value) (q' : Ql) (e : (#[.int .i64 q.en, .int .i64 q.pp, .int .i64 q.per, .int .i64 q.lim, .int .i64 q.ca, .bool q.au] : Array Value).setIfInBounds j v = #[.int .i64 q'.en, .int .i64 q'.pp, .int .i64 q'.per, .int .i64 q'.lim, .int .i64 q'.ca, .bool q'.au]) : Xb wr (W.setCell ⟨wr.heap.size, j, none⟩ v) q' :=
  ⟨by rw [← e]; exact setC j _ h.1, h.2.setCell (.inr (Nat.le_refl _)) _⟩
end Xb
/-- a partition that was made -/
structure Rt (w W : World) (cn n gc cc gp pc : Nat) (us : List Value) (qs : Nat → Ql) (hd : Int) : Prop where
  co : W.ownsRow w.heap.size 25 5 (.slice (some ⟨gc, 0, none⟩) cn cc) cn us
  ow : W.ownsRow w.heap.size 28 6 (.slice (some ⟨gp, 0, none⟩) n pc) n (qL qs n)
  us1 : ∀ u ∈ us, u.oneCell' = true
  cn1 : 1 ≤ cn ∧ cn ≤ 1024
  n1 : 1 ≤ n ∧ n ≤ 16
  hd1 : 0 ≤ hd ∧ hd ≤ n
  qk : ∀ j, j < n → Qk (qs j)
  hk : Kept No w W
theorem own_some {W : World} {B : Nat} {e : TypeId} {sz : Nat} {a : Option Addr} {n c : Nat} {xs : List Value} (h : W.ownsRow B e sz (.slice a n c) n xs) (hn : 1 ≤ n) : ∃ g, a = some ⟨g, 0, none⟩ := by
  rcases h.2 with ⟨_, e0⟩ | ⟨g, cap, cur, hv, _⟩
  · omega
  · injection hv with e1 _ _; exact ⟨g, e1⟩
theorem own_dn {W : World} {B B' : Nat} {e : TypeId} {sz : Nat} {v : Value} {n : Nat} {xs : List Value} (h : W.ownsRow B e sz v n xs) (hB : B' ≤ B) : W.ownsRow B' e sz v n xs := by
  refine ⟨h.1, ?_⟩
  rcases h.2 with h1 | ⟨g, cap, cur, hv, hb, r⟩
  · exact .inl h1
  · exact .inr ⟨g, cap, cur, hv, Nat.le_trans hB hb, r⟩
theorem clip_in (x lo hi : Int) (h : lo ≤ hi) : lo ≤ clipV x lo hi ∧ clipV x lo hi ≤ hi := by
  unfold clipV
  split
  · omega
  · split <;> omega
set_option maxHeartbeats 16000000 in
theorem made_any {F : Nat → Prop} {A : Array Value} {ca pa : Option Addr} {cn0 cc0 n0 pc0 : Nat} {hd : Int} {qs0 : Nat → Ql} (w : World) (hA : A.size = 21) (h7 : A[7]? = some (.slice ca cn0 cc0)) (h8 : A[8]? = some (.slice pa n0 pc0)) (h9 : A[9]? = some (.int .i64 hd)) (hc : Ci w F ca cn0 cc0) (hq : Pq w F pa n0 pc0 qs0) (hF : ∀ j, F j → j < w.heap.size) :
    Calls Try.prog 27 #[.agg A] w fun e w' => ∃ (cn n gc cc gp pc : Nat) (us : List Value) (qs : Nat → Ql) (hd' : Int), e = .returned (.agg (QA (.slice (some ⟨gc, 0, none⟩) cn cc) (.slice (some ⟨gp, 0, none⟩) n pc) hd')) ∧ Rt w w' cn n gc cc gp pc us qs hd' := by
  obtain ⟨w0, e0⟩ : ∃ w0, w0 = (w.alloc (.cells A 38)).alloc (.cells Z21 38) := ⟨_, rfl⟩
  have K0 : Hid (Kept No w w0) := by rw [e0]; exact ((Kept.refl No w).alloc _).alloc _
  have S0 : Hid (w0.heap.size = w.heap.size + 2) := by show _ = _; rw [e0, World.size_alloc, World.size_alloc]
  have B0 : Hid (w0.heap[w.heap.size]? = some (.cells A 38)) := by rw [e0]; exact ((Kept.refl No _).alloc _).at' (alloc_new w _) (fun e => e)
  have B1 : Hid (w0.heap[w.heap.size + 1]? = some (.cells Z21 38)) := by
    rw [e0]
    have := alloc_new (w.alloc (.cells A 38)) (.cells Z21 38)
    rwa [World.size_alloc] at this
  have c9 : w0.cell? ⟨w.heap.size, 9, none⟩ = some (.int .i64 hd) := cell_row B0.out h9
  have P0 := hid (And.intro h7 (And.intro h8 h9))
  have hcm := hc.max
  have hcc := hc.cap
  have HC := hid hc
  have HQ := hid hq
  clear hc hq h7 h8 h9
  have ez : ∀ W : World, W.alloc (.cells #[.int .i64 0, .int .i64 0, .int .i64 0, .int .i64 0, .int .i64 0, .int .i64 0, .slice none 0 0, .slice none 0 0, .slice none 0 0, .int .i64 0, .int .i64 0, .int .i64 0, .int .i64 0, .int .i64 0, .int .i64 0, .int .i64 0, .int .i64 0, .int .i64 0, .slice none 0 0, .slice none 0 0, .slice none 0 0] 38) = W.alloc (.cells Z21 38) := fun _ => rfl
  go_enter Try.func27, Try.ntmps27
  go_upto_region 1 with fail
  rw [← e0]
  clear e0 ez
  go_cut [3] (fun v wc => v = .pointer (some ⟨w.heap.size + 2, 0, none⟩) ∧ Mq w wc A 0 0 none none 0 0 [] qs0 hd)
  case first =>
    have b5 := hid (alloc_new w0 (.cells Z21 38))
    have fin : Hid (Mq w ((w0.alloc (.cells Z21 38)).setRow w0.heap.size (QA (.slice none 0 0) (.slice none 0 0) hd)) A 0 0 none none 0 0 [] qs0 hd) := by
      have k1 : Kept (fun j => j = w0.heap.size) w0 ((w0.alloc (.cells Z21 38)).setRow w0.heap.size (QA (.slice none 0 0) (.slice none 0 0) hd)) := ((Kept.refl (fun j => j = w0.heap.size) w0).alloc _).setRow (.inl rfl) _
      have hs := S0.out
      refine ⟨k1.at' B0.out (by omega), k1.at' B1.out (by omega), ?_, World.ownsRow_nil _ _ _ _, World.ownsRow_nil _ _ _ _, K0.out.trans k1 (fun j e => .inr (by omega)), fun u hu => by cases hu⟩
      rw [← hs]
      exact setRow_heap _ _ Z21 _ _ (0, 0) b5.out
    go_wp2_with (first
      | (refine list_bld rfl 38 _ rfl [(6, .int .i64 hd)] (by kernel_rfl) _ (built_qa hd) ?_)
      | (refine list_make rfl 3 rfl (er_alP rfl) ?_)
      | (refine wpList_store_row rfl 38 (.tmp 3) (.tmp 10) rfl w0.heap.size (QA (.slice none 0 0) (.slice none 0 0) hd) rfl rfl _ Z21 b5.out Try.info21 rfl (qa_one _ _ _ _ _ _ hd) ?_))
    go_meet
    exact ⟨by rw [S0.out], fin.out⟩
  case rest =>
  obtain ⟨rfl, m0⟩ := hcut
  have M0 := hid m0
  clear m0 K0 S0 B0 B1 c9
  go_upto_block 0 with fail
  go_cut [4] (fun i wr => ∃ (k : Nat) (ca' : Option Addr) (cc' : Nat) (us : List Value), k ≤ 1024 ∧ Mq w wr A k 0 ca' none cc' 0 us qs0 hd)
  case first =>
    go_wp2_with fail
    go_loopw [4] (fun i wr => ∃ (k : Nat) (ca' : Option Addr) (cc' : Nat) (us : List Value), k ≤ 1024 ∧ k ≤ cn0 ∧ i = .int .i64 k ∧ Mq w wr A k 0 ca' none cc' 0 us qs0 hd) (fun i _ => cn0 - (intOf i).toNat)
    case atStart => exact ⟨0, none, 0, [], by omega, by omega, rfl, M0.out⟩
    case round =>
      clear M0
      obtain ⟨k, ca', cc', us, hk1, hk2, rfl, m⟩ := hrel
      have a7 : wr.cell? ⟨w.heap.size, 7, none⟩ = some (.slice ca cn0 cc0) := cell_row m.r0 P0.out.1
      have MM := hid m
      by_cases hlt : k < cn0
      · have hltz : (k : Int) < (cn0 : Int) := by omega
        by_cases h24 : k < 1024
        · have h24z : (k : Int) < 1024 := by omega
          obtain ⟨gb, go, x0, x1, x2, x3, x4, rfl, hgb, c0, c1, c2, c3, c4⟩ := (HC.out.keep m.hk).at' k hlt
          have hgb' := hF gb hgb
          go_upto_region 5 with fail
          have mz : Mq w wr.drew A k 0 ca' none cc' 0 us qs0 hd := m.keep ((Kept.refl No wr).drew)
          have kz : Kept No wr wr.drew := (Kept.refl No wr).drew
          obtain ⟨ya, yc, wa, hap, b7, f7, b0, ka, m2⟩ := mz.code (by omega) [.int .u8 x0, .int .u8 x1, .int .u8 x2, .int .u8 x3, .int .i32 x4] rfl (by simp [Value.oneCell'])
          have MN := hid m2
          have SW : ∀ W, W.heap[w.heap.size]? = some (.cells A 38) → (∀ o v, wr.cell? ⟨gb, o, none⟩ = some v → W.cell? ⟨gb, o, none⟩ = some v) → (W.cell? ⟨w.heap.size, 7, none⟩ = some (.slice (some ⟨gb, go, none⟩) cn0 cc0) ∧ (Instr.loadAt 25 (.pointer (some ⟨gb, go + k * 5, none⟩))).run Try.prog W = .ok (.agg #[.int .u8 x0, .int .u8 x1, .int .u8 x2, .int .u8 x3, .int .i32 x4]) W) := fun W hW1 hW2 => ⟨cell_row hW1 P0.out.1, ld5 (hW2 _ _ c0) (hW2 _ _ c1) (hW2 _ _ c2) (hW2 _ _ c3) (hW2 _ _ c4)⟩
          have sz := SW wr.drew mz.r0 (fun o v hv => kz.cell hv (fun e => e))
          have sal := SW (wr.drew.alloc (.cells #[.int .u8 x0, .int .u8 x1, .int .u8 x2, .int .u8 x3, .int .i32 x4] 25)) (((Kept.refl No _).alloc _).at' mz.r0 (fun e => e)) (fun o v hv => (kz.alloc _).cell hv (fun e => e))
          have nb : ¬ (Value.slice ca' k cc').ownBlock = some gb := fun e => by have := (mz.co.lt _ e).1; omega
          have sa := SW wa b0 (fun o v hv => ka.cell (kz.cell hv (fun e => e)) nb)
          have ks : Kept (fun j => j = w.heap.size + 2) wa (wa.setCell ⟨w.heap.size + 2, 7, none⟩ (.slice ya (k + 1) yc)) := (Kept.refl (fun j => j = w.heap.size + 2) wa).setCell (p := ⟨w.heap.size + 2, 7, none⟩) (.inl rfl) _
          have sb := SW (wa.setCell ⟨w.heap.size + 2, 7, none⟩ (.slice ya (k + 1) yc)) m2.r0 (fun o v hv => ks.cell (ka.cell (kz.cell hv (fun e => e)) nb) (by show ¬ gb = _; omega))
          have q7 : wr.drew.cell? ⟨w.heap.size + 2, 7, none⟩ = some (.slice ca' k cc') := cell_row mz.r2 rfl
          have q7' : (wr.drew.alloc (.cells #[.int .u8 x0, .int .u8 x1, .int .u8 x2, .int .u8 x3, .int .i32 x4] 25)).cell? ⟨w.heap.size + 2, 7, none⟩ = some (.slice ca' k cc') := ((Kept.refl No wr.drew).alloc _).cell q7 (fun e => e)
          have HAP := hid hap
          clear m mz c0 c1 c2 c3 c4 SW m2 hap ka ks b0 a7
          refine wp_region_held_drew (S := fun W => W.cell? ⟨w.heap.size, 7, none⟩ = some (.slice (some ⟨gb, go, none⟩) cn0 cc0) ∧ (Instr.loadAt 25 (.pointer (some ⟨gb, go + k * 5, none⟩))).run Try.prog W = .ok (.agg #[.int .u8 x0, .int .u8 x1, .int .u8 x2, .int .u8 x3, .int .i32 x4]) W) (by kernel_rfl) sz (fun hS => ?_)
          refine d_take 0 22 rfl rfl (by kernel_rfl) (by kernel_rfl) (by kernel_rfl) (fun _ _ _ h => h) rfl (fun w' hw' => q_p4 _ rfl (w.heap.size + 2) rfl) hS ?_
          simp only [Act.put, List.setIfInBounds_toArray, List.set_cons_zero, List.set_cons_succ]
          refine d_take 2 24 rfl rfl (by kernel_rfl) (by kernel_rfl) (by kernel_rfl) (fun _ _ _ h => h) rfl (fun w' hw' => q_p4 _ rfl w.heap.size rfl) hS ?_
          simp only [Act.put, List.setIfInBounds_toArray, List.set_cons_zero, List.set_cons_succ]
          refine d_take 3 25 rfl rfl (by kernel_rfl) (by kernel_rfl) (by kernel_rfl) (fun _ _ _ h => h) rfl (fun w' hw' => q_ldc _ rfl w.heap.size 7 (.slice (some ⟨gb, go, none⟩) cn0 cc0) rfl hw'.1) hS ?_
          simp only [Act.put, List.setIfInBounds_toArray, List.set_cons_zero, List.set_cons_succ]
          refine d_take 4 26 rfl rfl (by kernel_rfl) (by kernel_rfl) (by kernel_rfl) (fun _ _ _ h => h) rfl (fun w' hw' => q_mvv _ rfl (.int .i64 k) rfl) hS ?_
          simp only [Act.put, List.setIfInBounds_toArray, List.set_cons_zero, List.set_cons_succ]
          refine d_take 5 27 rfl rfl (by kernel_rfl) (by kernel_rfl) (by kernel_rfl) (fun _ _ _ h => h) rfl (fun w' hw' => q_ixc _ _ rfl gb go cn0 cc0 k hlt (by omega) rfl rfl) hS ?_
          simp only [Act.put, List.setIfInBounds_toArray, List.set_cons_zero, List.set_cons_succ]
          refine d_take 6 28 rfl rfl (by kernel_rfl) (by kernel_rfl) (by kernel_rfl) (fun _ _ _ h => h) rfl (fun w' hw' => er_ld 25 (.tmp 27) rfl (.pointer (some ⟨gb, go + k * 5, none⟩)) (.agg #[.int .u8 x0, .int .u8 x1, .int .u8 x2, .int .u8 x3, .int .i32 x4]) rfl hw'.2) hS ?_
          simp only [Act.put, List.setIfInBounds_toArray, List.set_cons_zero, List.set_cons_succ]
          refine d_pair 1 23 7 29 (by kernel_rfl) rfl rfl rfl rfl rfl rfl (q_ldc _ rfl (w.heap.size + 2) 7 (.slice ca' k cc') rfl q7) (q_bsI _ rfl x0 x1 x2 x3 x4 rfl) sz sal ?_ ?_
          · simp only [Act.put, List.setIfInBounds_toArray, List.set_cons_zero, List.set_cons_succ]
            refine d_make 7 29 (by kernel_rfl) rfl rfl rfl (q_bsI _ rfl x0 x1 x2 x3 x4 rfl) sal ?_
            simp only [Act.put, List.setIfInBounds_toArray, List.set_cons_zero, List.set_cons_succ]
            refine d_make 8 30 (by kernel_rfl) rfl rfl rfl (q_apI (.tmp 23) (.tmp 29) rfl (.slice ca' k cc') (.slice (some ⟨wr.drew.heap.size, 0, none⟩) 1 1) rfl rfl (.slice ya (k + 1) yc) wa rfl HAP.out) sa ?_
            simp only [Act.put, List.setIfInBounds_toArray, List.set_cons_zero, List.set_cons_succ]
            have hS := sa
            refine d_take 9 31 rfl rfl (by kernel_rfl) (by kernel_rfl) (by kernel_rfl) (fun _ _ _ h => h) rfl (fun w' hw' => q_p4 _ rfl (w.heap.size + 2) rfl) hS ?_
            simp only [Act.put, List.setIfInBounds_toArray, List.set_cons_zero, List.set_cons_succ]
            refine d_turn 10 (by kernel_rfl) rfl rfl rfl (q_stc _ _ rfl (w.heap.size + 2) 7 (.slice ca' k cc') ya (k + 1) yc rfl rfl b7 f7) sb ?_
            refine wpAnyH_done (by kernel_rfl) ?_ _
            clear hS sa sb sz sal q7 q7' b7 f7
            go_wp2
            go_roundw
            case rel => exact ⟨k + 1, ya, yc, _, by omega, by omega, by go_num, MN.out⟩
            case measure => simp [intOf]; omega
          · simp only [Act.put, List.setIfInBounds_toArray, List.set_cons_zero, List.set_cons_succ]
            refine d_read 1 23 (by kernel_rfl) rfl rfl rfl (q_ldc _ rfl (w.heap.size + 2) 7 (.slice ca' k cc') rfl q7') sal ?_
            simp only [Act.put, List.setIfInBounds_toArray, List.set_cons_zero, List.set_cons_succ]
            refine d_make 8 30 (by kernel_rfl) rfl rfl rfl (q_apI (.tmp 23) (.tmp 29) rfl (.slice ca' k cc') (.slice (some ⟨wr.drew.heap.size, 0, none⟩) 1 1) rfl rfl (.slice ya (k + 1) yc) wa rfl HAP.out) sa ?_
            simp only [Act.put, List.setIfInBounds_toArray, List.set_cons_zero, List.set_cons_succ]
            have hS := sa
            refine d_take 9 31 rfl rfl (by kernel_rfl) (by kernel_rfl) (by kernel_rfl) (fun _ _ _ h => h) rfl (fun w' hw' => q_p4 _ rfl (w.heap.size + 2) rfl) hS ?_
            simp only [Act.put, List.setIfInBounds_toArray, List.set_cons_zero, List.set_cons_succ]
            refine d_turn 10 (by kernel_rfl) rfl rfl rfl (q_stc _ _ rfl (w.heap.size + 2) 7 (.slice ca' k cc') ya (k + 1) yc rfl rfl b7 f7) sb ?_
            refine wpAnyH_done (by kernel_rfl) ?_ _
            clear hS sa sb sz sal q7 q7' b7 f7
            go_wp2
            go_roundw
            case rel => exact ⟨k + 1, ya, yc, _, by omega, by omega, by go_num, MN.out⟩
            case measure => simp [intOf]; omega
        · have h24z : ¬ (k : Int) < 1024 := by omega
          clear m
          go_wp2
          go_meet
          exact ⟨k, ca', cc', us, by omega, MM.out⟩
      · have hltz : ¬ (k : Int) < (cn0 : Int) := by omega
        clear m
        go_wp2
        go_meet
        exact ⟨k, ca', cc', us, by omega, MM.out⟩
  case rest =>
  clear M0
  obtain ⟨k0, ca1, cc1, us1, hk0, m1⟩ := hcut
  have q7 : wc.cell? ⟨w.heap.size + 2, 7, none⟩ = some (.slice ca1 k0 cc1) := cell_row m1.r2 rfl
  have M1 := hid m1
  clear m1
  go_upto_if 35 with fail
  go_cut [] (fun wd => ∃ (k : Nat) (ca' : Option Addr) (cc' : Nat) (us : List Value), 1 ≤ k ∧ k ≤ 1024 ∧ Mq w wd A k 0 ca' none cc' 0 us qs0 hd)
  case first =>
    by_cases hz : k0 = 0
    · subst hz
      obtain ⟨d7, f7, m2⟩ := M1.out.code1 [.int .u8 1, .int .u8 0, .int .u8 0, .int .u8 0, .int .i32 0] rfl (by simp [Value.oneCell'])
      have M2 := hid m2
      clear m2
      go_wp2
      go_meet
      exact ⟨1, _, _, _, by omega, by omega, M2.out⟩
    · have hz' : ((k0 : Int) == 0) = false := by simp; omega
      go_wp2
      go_meet
      exact ⟨k0, ca1, cc1, us1, by omega, hk0, M1.out⟩
  case rest =>
  clear M1 q7
  obtain ⟨cn, ca2, cc2, us2, hcn1, hcn2, m2⟩ := hcut
  have M2 := hid m2
  clear m2
  go_upto_block 2 with fail
  go_cut [5] (fun i wr => ∃ (k : Nat) (pa' : Option Addr) (pc' : Nat) (qs : Nat → Ql), k ≤ 16 ∧ (∀ j, j < k → Qk (qs j)) ∧ Mq w wr A cn k ca2 pa' cc2 pc' us2 qs hd)
  case first =>
    go_wp2_with fail
    go_loopw [5] (fun i wr => ∃ (k : Nat) (pa' : Option Addr) (pc' : Nat) (qs : Nat → Ql), k ≤ 16 ∧ k ≤ n0 ∧ i = .int .i64 k ∧ (∀ j, j < k → Qk (qs j)) ∧ Mq w wr A cn k ca2 pa' cc2 pc' us2 qs hd) (fun i _ => n0 - (intOf i).toNat)
    case atStart => exact ⟨0, none, 0, qs0, by omega, by omega, rfl, fun j hj => by omega, M2.out⟩
    case round =>
      clear M2
      obtain ⟨k, pa', pc', qs, hk1, hk2, rfl, hQk, m⟩ := hrel
      have a8 : wr.cell? ⟨w.heap.size, 8, none⟩ = some (.slice pa n0 pc0) := cell_row m.r0 P0.out.2.1
      have MM := hid m
      have QK := hid hQk
      clear hQk
      by_cases hlt : k < n0
      · have hltz : (k : Int) < (n0 : Int) := by omega
        by_cases h24 : k < 16
        · have h24z : (k : Int) < 16 := by omega
          obtain ⟨gb, go, rfl, hgb, c0, c1, c2, c3, c4, c5⟩ := (pq_kept HQ.out m.hk).at' k hlt
          have hgb' := hF gb hgb
          generalize qs0 k = qk at *
          have hx8 := HQ.out.max
          have hx9 := HQ.out.cap
          clear m
          go_upto_region 12 with fail
          have X0 : Xb wr (wr.alloc (.cells #[.int .i64 qk.en, .int .i64 qk.pp, .int .i64 qk.per, .int .i64 qk.lim, .int .i64 qk.ca, .bool qk.au] 28)) qk := ⟨alloc_new wr _, (Kept.refl No wr).alloc _⟩
          have q7 : (wr.alloc (.cells #[.int .i64 qk.en, .int .i64 qk.pp, .int .i64 qk.per, .int .i64 qk.lim, .int .i64 qk.ca, .bool qk.au] 28)).cell? ⟨w.heap.size + 2, 7, none⟩ = some (.slice ca2 cn cc2) := X0.2.cell (cell_row MM.out.r2 rfl) (fun e => e)
          have hcz : IntKind.i64.wrap ((cn : Int) - 1) = (cn : Int) - 1 := by rw [IntWalk.i64_left]; unfold wrap64; omega
          have cl := fun x lo hi W => clip_any x lo hi W
          obtain ⟨v0, e0⟩ : ∃ v0, clipV qk.en 0 ((cn : Int) - 1) = v0 := ⟨_, rfl⟩
          obtain ⟨v1, e1⟩ : ∃ v1, clipV qk.pp 0 255 = v1 := ⟨_, rfl⟩
          obtain ⟨v2, e2⟩ : ∃ v2, clipV qk.per 0 1099511627775 = v2 := ⟨_, rfl⟩
          obtain ⟨v3, e3⟩ : ∃ v3, clipV qk.lim 0 1099511627775 = v3 := ⟨_, rfl⟩
          obtain ⟨v4, e4⟩ : ∃ v4, clipV qk.ca 0 2147483647 = v4 := ⟨_, rfl⟩
          obtain ⟨v5, e5⟩ : ∃ v5, clipV v3 0 v2 = v5 := ⟨_, rfl⟩
          have B1 := hid (e1 ▸ clip_in qk.pp 0 255 (by omega))
          have B2 := hid (e2 ▸ clip_in qk.per 0 1099511627775 (by omega))
          have E0 := hid e0
          have E1 := hid e1
          have E2 := hid e2
          have E3 := hid e3
          have E4 := hid e4
          have E5 := hid e5
          clear e0 e1 e2 e3 e4 e5 c0 c1 c2 c3 c4 c5
          obtain ⟨⟨c0, c1, c2, c3, c4, c5⟩, fz⟩ := X0.c
          have f0 := fz 0
          have f1 := fz 1
          have f2 := fz 2
          have f3 := fz 3
          clear X0
          go_upto_region 16 with (go_at_call 17; refine (cl _ _ _ _).mono ?_; rintro e wq ⟨rfl, eq⟩; obtain rfl := eq.symm; clear eq; try simp only [E0.out, E1.out, E2.out, E3.out, E4.out, E5.out])
          have f4 := fz 4
          clear fz
          by_cases hv2 : 0 < v2
          · have hv2z := hv2
            go_upto_region 19 with (go_at_call 17; refine (cl _ _ _ _).mono ?_; rintro e wq ⟨rfl, eq⟩; obtain rfl := eq.symm; clear eq; try simp only [E0.out, E1.out, E2.out, E3.out, E4.out, E5.out])
            have X9 : Xb wr (wr.alloc (.cells #[.int .i64 v0, .int .i64 v1, .int .i64 v2, .int .i64 v5, .int .i64 v4, .bool qk.au] 28)) (⟨v0, v1, v2, v5, v4, qk.au⟩ : Ql) := ⟨alloc_new wr _, (Kept.refl No wr).alloc _⟩
            have m9 := MM.out.keep X9.2
            obtain ⟨ya, yc, wa, hap, b8, f8, m10⟩ := m9.proc (by omega) (⟨v0, v1, v2, v5, v4, qk.au⟩ : Ql)
            have q8 : (wr.alloc (.cells #[.int .i64 v0, .int .i64 v1, .int .i64 v2, .int .i64 v5, .int .i64 v4, .bool qk.au] 28)).cell? ⟨w.heap.size + 2, 8, none⟩ = some (.slice pa' k pc') := cell_row m9.r2 rfl
            obtain ⟨⟨d0, d1, d2, d3, d4, d5⟩, _⟩ := X9.c
            simp only at hap d0 d1 d2 d3 d4 d5
            have HAP := hid hap
            have M10 := hid m10
            have QN : Hid (∀ j, j < k + 1 → Qk (if j = k then (⟨v0, v1, v2, v5, v4, qk.au⟩ : Ql) else qs j)) := fun j hj => by
              by_cases ej : j = k
              · rw [if_pos ej]; exact ⟨B1.out, B2.out.1, by have := B2.out.2; show v2 < _; omega⟩
              · rw [if_neg ej]; exact QK.out j (by omega)
            clear X9 m9 hap m10 q7 c0 c1 c2 c3 c4 c5 f0 f1 f2 f3
            generalize wr.alloc (.cells #[.int .i64 v0, .int .i64 v1, .int .i64 v2, .int .i64 v5, .int .i64 v4, .bool qk.au] 28) = w9 at *
            go_wp2_with (at_builtin; refine l_make 92 rfl rfl (q_apP (.tmp 89) (.tmp 91) rfl _ _ rfl rfl _ _ rfl HAP.out) ?_)
            refine ⟨⟨k + 1, ya, yc, _, by omega, by omega, by go_num, QN.out, M10.out⟩, ?_⟩
            simp [intOf]; omega
          · have hv2z := hv2
            go_upto_region 19 with (go_at_call 17; refine (cl _ _ _ _).mono ?_; rintro e wq ⟨rfl, eq⟩; obtain rfl := eq.symm; clear eq; try simp only [E0.out, E1.out, E2.out, E3.out, E4.out, E5.out])
            have X9 : Xb wr (wr.alloc (.cells #[.int .i64 v0, .int .i64 v1, .int .i64 v2, .int .i64 v3, .int .i64 v4, .bool qk.au] 28)) (⟨v0, v1, v2, v3, v4, qk.au⟩ : Ql) := ⟨alloc_new wr _, (Kept.refl No wr).alloc _⟩
            have m9 := MM.out.keep X9.2
            obtain ⟨ya, yc, wa, hap, b8, f8, m10⟩ := m9.proc (by omega) (⟨v0, v1, v2, v3, v4, qk.au⟩ : Ql)
            have q8 : (wr.alloc (.cells #[.int .i64 v0, .int .i64 v1, .int .i64 v2, .int .i64 v3, .int .i64 v4, .bool qk.au] 28)).cell? ⟨w.heap.size + 2, 8, none⟩ = some (.slice pa' k pc') := cell_row m9.r2 rfl
            obtain ⟨⟨d0, d1, d2, d3, d4, d5⟩, _⟩ := X9.c
            simp only at hap d0 d1 d2 d3 d4 d5
            have HAP := hid hap
            have M10 := hid m10
            have QN : Hid (∀ j, j < k + 1 → Qk (if j = k then (⟨v0, v1, v2, v3, v4, qk.au⟩ : Ql) else qs j)) := fun j hj => by
              by_cases ej : j = k
              · rw [if_pos ej]; exact ⟨B1.out, B2.out.1, by have := B2.out.2; show v2 < _; omega⟩
              · rw [if_neg ej]; exact QK.out j (by omega)
            clear X9 m9 hap m10 q7 c0 c1 c2 c3 c4 c5 f0 f1 f2 f3
            generalize wr.alloc (.cells #[.int .i64 v0, .int .i64 v1, .int .i64 v2, .int .i64 v3, .int .i64 v4, .bool qk.au] 28) = w9 at *
            go_wp2_with (at_builtin; refine l_make 92 rfl rfl (q_apP (.tmp 89) (.tmp 91) rfl _ _ rfl rfl _ _ rfl HAP.out) ?_)
            refine ⟨⟨k + 1, ya, yc, _, by omega, by omega, by go_num, QN.out, M10.out⟩, ?_⟩
            simp [intOf]; omega
        · have h24z : ¬ (k : Int) < 16 := by omega
          clear m
          go_wp2
          go_meet
          exact ⟨k, pa', pc', qs, by omega, QK.out, MM.out⟩
      · have hltz : ¬ (k : Int) < (n0 : Int) := by omega
        clear m
        go_wp2
        go_meet
        exact ⟨k, pa', pc', qs, by omega, QK.out, MM.out⟩
  case rest =>
  clear M2
  obtain ⟨k1, pa1, pc1, qs1, hk1, hQ1, m1⟩ := hcut
  have q8 : wc.cell? ⟨w.heap.size + 2, 8, none⟩ = some (.slice pa1 k1 pc1) := cell_row m1.r2 rfl
  have M1 := hid (And.intro m1 hQ1)
  clear m1 hQ1
  go_upto_if 97 with fail
  go_cut [] (fun wd => ∃ (k : Nat) (pa' : Option Addr) (pc' : Nat) (qs : Nat → Ql), 1 ≤ k ∧ k ≤ 16 ∧ (∀ j, j < k → Qk (qs j)) ∧ Mq w wd A cn k ca2 pa' cc2 pc' us2 qs hd)
  case first =>
    by_cases hz : k1 = 0
    · subst hz
      obtain ⟨d8, f8, m2⟩ := M1.out.1.proc1 ⟨0, 0, 0, 0, 0, false⟩
      have M2 := hid m2
      simp only at d8 f8
      clear m2
      go_wp2
      go_meet
      exact ⟨1, _, _, _, by omega, by omega, fun j _ => ⟨⟨by show (0 : Int) ≤ 0; omega, by show (0 : Int) ≤ 255; omega⟩, by show (0 : Int) ≤ 0; omega, by show (0 : Int) < _; omega⟩, M2.out⟩
    · have hz' : ((k1 : Int) == 0) = false := by simp; omega
      go_wp2
      go_meet
      exact ⟨k1, pa1, pc1, qs1, by omega, hk1, M1.out.2, M1.out.1⟩
  case rest =>
  clear M1 q8
  obtain ⟨n, pa2, pc2, qs2, hn1, hn2, hQ2, m2⟩ := hcut
  obtain ⟨gp, rfl⟩ := own_some m2.ow hn1
  obtain ⟨H, eH⟩ : ∃ H, clipV hd 0 (n : Int) = H := ⟨_, rfl⟩
  have HB := hid (eH ▸ clip_in hd 0 (n : Int) (by omega))
  have EH := hid eH
  have cl := fun x lo hi W => clip_any x lo hi W
  have q8 : wc.cell? ⟨w.heap.size + 2, 8, none⟩ = some (.slice (some ⟨gp, 0, none⟩) n pc2) := cell_row m2.r2 rfl
  obtain ⟨c9, f9, m3⟩ := m2.hand H
  have q9 : (wc.setCell ⟨w.heap.size + 2, 9, none⟩ (.int .i64 H)).cell? ⟨w.heap.size + 2, 9, none⟩ = some (.int .i64 H) := cell_row m3.r2 rfl
  have M3 := hid (And.intro m3 hQ2)
  clear m2 m3 hQ2 eH
  go_upto_region 23 with (go_at_call 17; refine (cl _ _ _ _).mono ?_; rintro e wq ⟨rfl, eq⟩; obtain rfl := eq.symm; clear eq; try simp only [EH.out])
  generalize wc.setCell ⟨w.heap.size + 2, 9, none⟩ (.int .i64 H) = w5 at *
  clear q8 c9 f9
  go_upto_if 110 with fail
  go_cut [] (fun wd => ∃ (qs : Nat → Ql), (∀ j, j < n → Qk (qs j)) ∧ Mq w wd A cn n ca2 (some ⟨gp, 0, none⟩) cc2 pc2 us2 qs H)
  case first =>
    by_cases hp : 0 < H
    · obtain ⟨i, ei⟩ : ∃ i : Nat, H = (i : Int) + 1 := ⟨(H - 1).toNat, by omega⟩
      have hin : i < n := by have := HB.out.2; omega
      have hinz : (i : Int) < (n : Int) := by omega
      have hcap := M3.out.1.ow
      obtain ⟨⟨u1, d1⟩, f1, m4⟩ := M3.out.1.cellp hin 2 (by decide) (.int .i64 0) { qs2 i with per := 0 } rfl
      obtain ⟨⟨u2, d2⟩, f2, m5⟩ := m4.cellp hin 3 (by decide) (.int .i64 0) { qs2 i with per := 0, lim := 0 } (by rw [if_pos rfl]; rfl)
      obtain ⟨⟨u3, d3⟩, f3, m6⟩ := m5.cellp hin 5 (by decide) (.bool false) { qs2 i with per := 0, lim := 0, au := false } (by rw [if_pos rfl]; rfl)
      have s8 : w5.cell? ⟨w.heap.size + 2, 8, none⟩ = some (.slice (some ⟨gp, 0, none⟩) n pc2) := cell_row M3.out.1.r2 rfl
      have t8 := cell_row (k := 8) (v := .slice (some ⟨gp, 0, none⟩) n pc2) m4.r2 rfl
      have r8 := cell_row (k := 8) (v := .slice (some ⟨gp, 0, none⟩) n pc2) m5.r2 rfl
      have M6 := hid m6
      have QF : Hid (∀ j, j < n → Qk (if j = i then ({ qs2 i with per := 0, lim := 0, au := false } : Ql) else if j = i then ({ qs2 i with per := 0, lim := 0 } : Ql) else if j = i then ({ qs2 i with per := 0 } : Ql) else qs2 j)) := fun j hj => by
        by_cases ej : j = i
        · rw [if_pos ej]
          have := M3.out.2 i hin
          exact ⟨this.1, by show (0 : Int) ≤ 0; omega, by show (0 : Int) < _; omega⟩
        · rw [if_neg ej, if_neg ej, if_neg ej]; exact M3.out.2 j hj
      clear m4 m5 m6 hcap
      subst ei
      have g1 : IntKind.i64.wrap ((i : Int) + 1 - 1) = (i : Int) := by rw [IntWalk.i64_left]; unfold wrap64; omega
      go_wp2
      go_meet
      exact ⟨_, QF.out, M6.out⟩
    · go_wp2
      go_meet
      exact ⟨qs2, M3.out.2, M3.out.1⟩
  case rest =>
  obtain ⟨qs, hQ, mE⟩ := hcut
  obtain ⟨gc, rfl⟩ := own_some mE.co hcn1
  have ME := hid mE
  have kr : Kept (fun j => j = w.heap.size + 1) wc (wc.setRow (w.heap.size + 1) (QA (.slice (some ⟨gc, 0, none⟩) cn cc2) (.slice (some ⟨gp, 0, none⟩) n pc2) H)) := (Kept.refl (fun j => j = w.heap.size + 1) wc).setRow (.inl rfl) _
  have F : Hid (Rt w (wc.setRow (w.heap.size + 1) (QA (.slice (some ⟨gc, 0, none⟩) cn cc2) (.slice (some ⟨gp, 0, none⟩) n pc2) H)) cn n gc cc2 gp pc2 us2 qs H) :=
    ⟨own_dn (kr.owns mE.co (fun j hj e => by have := mE.co.lt j hj; omega)) (Nat.le_add_right _ 3), own_dn (kr.owns mE.ow (fun j hj e => by have := mE.ow.lt j hj; omega)) (Nat.le_add_right _ 3), mE.us1, ⟨hcn1, hcn2⟩, ⟨hn1, hn2⟩, HB.out, hQ, mE.hk.setRow (.inr (by omega)) _⟩
  clear mE kr hQ M3
  go_upto_region 28 with fail
  refine wp_region_lit ?_
  refine wpList_load_row rfl 38 (.tmp 3) rfl (w.heap.size + 2) rfl _ _ (0, 0) _ ME.out.r2 Try.underlying38 rfl Try.info21 ?_
  simp only [Act.put, List.setIfInBounds_toArray, List.set_cons_zero, List.set_cons_succ]
  refine wpList_store_row rfl 38 (.tmp 2) (.tmp 129) rfl (w.heap.size + 1) _ rfl rfl _ Z21 ME.out.r1 Try.info21 rfl (qa_one _ _ _ _ _ _ H) ?_
  simp only [Act.put]
  go_wp2
  refine bodyPost_ret (results_cell_row rfl _ _ (w.heap.size + 1) 38 _ _ _ rfl (setRow_heap _ _ Z21 _ _ (0, 0) ME.out.r1) Try.underlying38 rfl Try.info21) rfl ?_
  exact ⟨cn, n, gc, cc2, gp, pc2, us2, qs, H, rfl, F.out⟩
end Go.Proofs.Ytofkacfchkimiaa
