/-
  The law's known.
-/
import Derived.Test.YtfdcmhbpnadcpabDoorIRdt
import Derived.Lib.SlBytesConst
namespace Go.Proofs.YtfdcmhbpnadcpabDoor
open Go.RowKit
set_option linter.unusedVariables false
set_option linter.unusedSimpArgs false
set_option maxRecDepth 100000

theorem er_cvC {w0 : World} {a : Act} {o : Oper} (x : Operand) (ho : o.op = .convert 22 22 x) (C : Array Value) (n c : Nat) (hx : a.eval x = .slice (some ⟨w0.heap.size, 0, none⟩) n c) : (execOp a.eval o).run Tryd.prog (w0.alloc (.cells C 5)) = .ok (.value (.slice (some ⟨w0.heap.size, 0, none⟩) n c)) (w0.alloc (.cells C 5 (C.size, C.size + 1))) := by
  simp only [execOp, ho, hx, Sem.run_bind, Lib.run_convert_bytes_const (P := Tryd.prog) w0 22 5 C n c Tryd.underlying22 Tryd.underlying5]
  rfl
def TCa : Array Value := #[.int .u8 35, .int .u8 10, .int .u8 55, .int .u8 32, .int .u8 109, .int .u8 101, .int .u8 115, .int .u8 115, .int .u8 97, .int .u8 103, .int .u8 101, .int .u8 32, .int .u8 50, .int .u8 32, .int .u8 53, .int .u8 32, .int .u8 45, .int .u8 49, .int .u8 10]
theorem built_x0 (b : Nat) : Tryd.prog.built 34 [(0, .int .i64 7), (1, .int .i64 1), (2, .int .i64 2), (3, .slice (some ⟨b, 0, none⟩) 2 2)] = some (XA (some ⟨b, 0, none⟩) 2) := by kernel_rfl
set_option maxHeartbeats 16000000 in
theorem known_yes (w : World) (he : En w) : Calls Tryd.prog 6 #[] w fun r w' => r = .returned (.bool true) ∧ Kept No w w' := by
  go_enter Tryd.func6, Tryd.ntmps6
  go_upto_region 1 with fail
  go_cut [1] (fun u wd => ∃ pb, u = .pointer (some ⟨pb, 0, none⟩) ∧ wd.heap[pb]? = some (.cells (XA (some ⟨w.heap.size, 0, none⟩) 2) 34) ∧ wd.heap[w.heap.size]? = some (.cells #[.int .i64 5, .int .i64 (-1)] 2) ∧ Kept No w wd)
  case first =>
    clear he
    go_wp2_with (first
      | (refine l_take 8 rfl rfl (er_build 34 _ rfl _ (by kernel_rfl) _ (built_x0 w.heap.size)) ?_)
      | (refine l_make 1 rfl rfl (er_alI rfl) ?_)
      | (refine l_turn rfl rfl (er_stI _ _ rfl _ (XA (some ⟨w.heap.size, 0, none⟩) 2) _ rfl rfl (alloc_new _ _) rfl rfl (x_all _ _ _)) ?_))
    go_meet
    have KA : Kept No w (w.alloc (.cells #[.int .i64 5, .int .i64 (-1)] 2)) := (Kept.refl No w).alloc _
    have BA := alloc_new w (.cells #[.int .i64 5, .int .i64 (-1)] 2)
    have hlt := heap_lt BA
    have KB : Kept No (w.alloc (.cells #[.int .i64 5, .int .i64 (-1)] 2)) (((w.alloc (.cells #[.int .i64 5, .int .i64 (-1)] 2)).alloc (.cells Z4 34)).setRow (w.alloc (.cells #[.int .i64 5, .int .i64 (-1)] 2)).heap.size (XA (some ⟨w.heap.size, 0, none⟩) 2)) := ((Kept.refl No _).alloc _).setRow (.inr (Nat.le_refl _)) _
    exact ⟨_, rfl, setRow_heap _ _ _ _ _ (0, 0) (alloc_new _ _), KB.at' BA (fun e => e), KA.trans KB (fun _ e => e.elim)⟩
  case rest =>
  rename World => w1
  obtain ⟨pb, rfl, hpb, hd, k1⟩ := hcut
  have z1 : Zs w1 An (some ⟨w.heap.size, 0, none⟩) 2 2 [5, -1] := by
    refine ⟨rfl, by decide, by decide, fun e => (by cases e), fun i hi => ⟨w.heap.size, 0, rfl, trivial, ?_⟩⟩
    rw [Nat.zero_add, cell_blk hd]
    have : i = 0 ∨ i = 1 := by omega
    rcases this with rfl | rfl <;> rfl
  have LX : Hid (∀ W, Kept No w1 W → (Instr.loadAt 34 (.pointer (some ⟨pb, 0, none⟩))).run Tryd.prog W = .ok (.agg (XA (some ⟨w.heap.size, 0, none⟩) 2)) W) := fun W q => ldSt 34 _ (XA _ 2) (fun j v hv => by rw [Nat.zero_add]; exact q.cell (by rw [cell_blk hpb, ← Array.getElem?_toList]; exact hv) (fun e => e)) Tryd.underlying34 rfl Tryd.infoI4
  have CS := hid (show_one w1 (some ⟨w.heap.size, 0, none⟩) 2 z1 (he.keep k1))
  have HH := hid (And.intro k1 (And.intro z1 he))
  clear k1 z1 hd hpb he
  go_upto_region 3 with (first
    | (refine l_take 10 rfl rfl (er_ldX 34 _ rfl (.pointer (some ⟨pb, 0, none⟩)) (.agg (XA (some ⟨w.heap.size, 0, none⟩) 2)) rfl (LX.out _ (Kept.refl _ _))) ?_)
    | (go_at_call 16; refine CS.out.mono ?_; rintro r w2 ⟨rfl, k2⟩; have K2 := hid k2; clear k2 CS))
  have CR : Hid (Calls Tryd.prog 17 #[.slice (some ⟨w2.heap.size, 0, none⟩) 19 19] (w2.alloc (.cells TCa 5 (19, 20))) fun r w' => ∃ ra rc, r = .returned (.tuple #[.slice ra 1 rc, .int .i64 0, .int .i64 0]) ∧ Il w' An ra 1 rc [x0] ∧ Kept No w2 w') := by
    have KA : Kept No w2 (w2.alloc (.cells TCa 5 (19, 20))) := (Kept.refl No w2).alloc _
    refine (read_text (w2.alloc (.cells TCa 5 (19, 20))) w2.heap.size 19 (fun j hj => ?_) (((HH.out.2.2.keep HH.out.1).keep K2.out).keep KA)).mono ?_
    · rw [add_none, Nat.zero_add, cell_blk (alloc_new w2 _)]
      have hj' : j < 19 := hj
      match j, hj' with
      | 0, _ => rfl
      | 1, _ => rfl
      | 2, _ => rfl
      | 3, _ => rfl
      | 4, _ => rfl
      | 5, _ => rfl
      | 6, _ => rfl
      | 7, _ => rfl
      | 8, _ => rfl
      | 9, _ => rfl
      | 10, _ => rfl
      | 11, _ => rfl
      | 12, _ => rfl
      | 13, _ => rfl
      | 14, _ => rfl
      | 15, _ => rfl
      | 16, _ => rfl
      | 17, _ => rfl
      | 18, _ => rfl
      | n + 19, h => exact absurd h (by omega)
    · rintro r w' ⟨ra, rc, rfl, il, k⟩
      exact ⟨ra, rc, rfl, il, KA.trans k (fun _ e => e.elim)⟩
  go_upto_region 4 with (first
    | (refine l_make 16 rfl rfl (er_cvC (w0 := w2) _ rfl TCa 19 19 rfl) ?_)
    | (go_at_call 17; refine CR.out.mono ?_; rintro r w3 ⟨ra, rc, rfl, il3, k3⟩; have H3 := hid (And.intro il3 (K2.out.trans k3 (fun _ e => e.elim))); have q1 := il3.cap; have q2 := il3.max; clear il3 k3 CR))
  have KA4 : Kept No w3 (w3.alloc (.cells (XA (some ⟨w.heap.size, 0, none⟩) 2) 34)) := (Kept.refl No w3).alloc _
  have il4 : Il (w3.alloc (.cells (XA (some ⟨w.heap.size, 0, none⟩) 2) 34)) An (some ⟨w3.heap.size, 0, none⟩) 1 1 [x0] := by
    refine ⟨rfl, by decide, by decide, fun i x hx => ?_⟩
    have hi := (List.getElem?_eq_some_iff.1 hx).1
    simp at hi
    subst hi
    simp at hx
    subst hx
    refine ⟨w3.heap.size, 0, some ⟨w.heap.size, 0, none⟩, 2, rfl, trivial, fun j v hv => ?_, ⟨(HH.out.2.1.kept (H3.out.2.trans KA4 (fun _ e => e.elim)) (fun _ _ e => e)), by decide, by decide, by decide⟩⟩
    rw [Nat.zero_mul, Nat.add_zero, Nat.zero_add, cell_blk (alloc_new w3 _), ← Array.getElem?_toList]
    exact hv
  have C4 := hid (same_yes _ (H3.out.1.keep KA4) il4 (by decide))
  have LX3 := hid (LX.out _ H3.out.2)
  have HK : Hid (Kept No w (w3.alloc (.cells (XA (some ⟨w.heap.size, 0, none⟩) 2) 34))) := (HH.out.1.trans H3.out.2 (fun _ e => e.elim)).trans KA4 (fun _ e => e.elim)
  clear KA4 il4
  go_wp2_with (first
    | (refine l_take 36 rfl rfl (er_ldX 34 _ rfl (.pointer (some ⟨pb, 0, none⟩)) (.agg (XA (some ⟨w.heap.size, 0, none⟩) 2)) rfl LX3.out) ?_)
    | (refine l_make 37 rfl rfl (er_bsG 23 34 4 48 Z4 (XA (some ⟨w.heap.size, 0, none⟩) 2) _ rfl Tryd.underlying23 Tryd.infoI (by decide) (by decide) rfl (fill_I x0 _ _)) ?_)
    | (go_at_call 10; refine C4.out.mono ?_; rintro r w5 ⟨rfl, k5⟩; have K5 := hid (HK.out.trans k5 (fun _ e => e.elim)); clear k5 C4))
  go_ret
  exact ⟨rfl, K5.out⟩
end Go.Proofs.YtfdcmhbpnadcpabDoor
