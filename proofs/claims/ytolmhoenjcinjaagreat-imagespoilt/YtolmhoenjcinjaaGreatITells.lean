/-
  The closures that tell an element without lists.
-/
import Derived.Test.YtolmhoenjcinjaaGreatIMem
import Derived.Handy
import Derived.Laws.ResultCell
namespace Go.Proofs.YtolmhoenjcinjaaGreat
open Go.RowKit
set_option linter.unusedVariables false
set_option maxRecDepth 100000

theorem WrDid.trans {F : Nat → Prop} {p : Nat} {bs : List Nat} {e : Int} {w w1 w2 : World} (F1 : Nat → Prop) (h1 : Went F w w1 F1) (h : WrDid F1 p bs e w1 w2) : WrDid F p bs e w w2 := by
  obtain ⟨F2, h2, h3⟩ := h
  exact ⟨F2, h2, h1.trans h3⟩
theorem Went.new {F : Nat → Prop} {w w1 : World} (h : Kept No w w1) : Went F w w1 F := ⟨h.mono (fun _ h => h.elim), fun _ h => .inl h⟩

set_option maxHeartbeats 2000000 in
theorem tellSm (F G : Nat → Prop) (p : Nat) (bs : List Nat) (e : Int) (x : Sm) (w : World) (h : Wr w F p bs e) (hE : elSm w G [.int .i64 x.st, .int .i64 x.mx] x) (hG : ∀ k, G k → ¬ F k ∧ k < w.heap.size) (hsz : bs.length ≤ 1000000000000) :
    Calls Tryz.prog 94 #[.pointer (some ⟨p, 0, none⟩), .agg #[.int .i64 x.st, .int .i64 x.mx]] w fun ex w' => ex = .returned (.tuple #[]) ∧ WrDid F p (tlSm (bs, e) x).1 (tlSm (bs, e) x).2 w w' := by
  have HW : Hid (Wr w F p bs e) := h
  have hflt : ∀ k, F k → k < w.heap.size := by obtain ⟨v, hv⟩ := h; exact hv.flt
  have HF : Hid (∀ k, F k → k < w.heap.size) := hflt
  obtain ⟨fin, hfin⟩ : ∃ fin, fin = tlSm (bs, e) x := ⟨_, rfl⟩
  have HFIN : Hid (fin = tlSm (bs, e) x) := hfin
  rw [← hfin]
  clear h hE hG hflt hfin
  obtain ⟨x0, x1⟩ := x
  dsimp only at HFIN ⊢
  have HK0 : Hid (Kept No w (w.alloc (.cells #[.int .i64 x0, .int .i64 x1] 126))) := (Kept.refl No w).alloc _
  have HB : Hid ((w.alloc (.cells #[.int .i64 x0, .int .i64 x1] 126)).heap[w.heap.size]? = some (.cells #[.int .i64 x0, .int .i64 x1] 126 (0, 0))) := heap_alloc_new w _
  go_enter Tryz.func94, Tryz.ntmps94
  go_upto_region 1 with fail
  generalize hW0 : (w.alloc (.cells #[.int .i64 x0, .int .i64 x1] 126)) = w0 at *
  have HW0 : Hid (WrDid F p bs e w0 w0) := WrDid.still (HW.out.kept HK0.out (fun _ _ h => h)) (Kept.refl _ _)
  have HS0 : Hid (bs.length ≤ 1000000000000) := hsz
  clear hsz
  obtain ⟨F0, hw0, hwe0⟩ := HW0.out
  have hb0 : w0.heap[w.heap.size]? = some (.cells #[.int .i64 x0, .int .i64 x1] 126 (0, 0)) := hwe0.1.at' HB.out (fun hf => Nat.lt_irrefl _ (HF.out _ hf))
  have r0_0 : w0.cell? ⟨w.heap.size, 0, none⟩ = some (.int .i64 x0) := by simp [World.cell?, hb0]
  have r0_1 : w0.cell? ⟨w.heap.size, 1, none⟩ = some (.int .i64 x1) := by simp [World.cell?, hb0]
  have hlit0 := Zs.lit w0 3 [x0, x1] (by simp)
  have hk0 : Kept No w0 (w0.alloc (.cells #[.int .i64 x0, .int .i64 x1] 3)) := (Kept.refl No _).alloc _
  have hfl0 : ∀ k, F0 k → k < w0.heap.size := by obtain ⟨v, hv⟩ := hw0; exact hv.flt
  have cp := putNumbers_any F0 _ p bs e _ _ _ [x0, x1] (w0.alloc (.cells #[.int .i64 x0, .int .i64 x1] 3)) (hw0.kept hk0 (fun _ _ h => h)) hlit0 (fun k hk hf => by have := hfl0 k hf; omega) (by simp) (by have := HS0.out; omega)
  have HKL0 : Hid (Kept No w0 (w0.alloc (.cells #[.int .i64 x0, .int .i64 x1] 3))) := hk0
  have HWE0 : Hid (Went F w0 w0 F0) := hwe0
  clear hb0 hw0 hwe0 hlit0 hk0 hfl0
  go_wp2_with (go_at_call 42; refine cp.mono ?_; rintro ex w1 ⟨rfl, hd0⟩)
  go_end0
  refine ⟨rfl, ?_⟩
  rw [HFIN.out]
  exact (WrDid.trans F0 HWE0.out (hd0.ahead HKL0.out)).ahead HK0.out
set_option maxHeartbeats 2000000 in
theorem tellBf (F G : Nat → Prop) (p : Nat) (bs : List Nat) (e : Int) (x : Bf) (w : World) (h : Wr w F p bs e) (hE : elBf w G [.int .i64 x.sz, .int .i64 x.dp] x) (hG : ∀ k, G k → ¬ F k ∧ k < w.heap.size) (hsz : bs.length ≤ 1000000000000) :
    Calls Tryz.prog 98 #[.pointer (some ⟨p, 0, none⟩), .agg #[.int .i64 x.sz, .int .i64 x.dp]] w fun ex w' => ex = .returned (.tuple #[]) ∧ WrDid F p (tlBf (bs, e) x).1 (tlBf (bs, e) x).2 w w' := by
  have HW : Hid (Wr w F p bs e) := h
  have hflt : ∀ k, F k → k < w.heap.size := by obtain ⟨v, hv⟩ := h; exact hv.flt
  have HF : Hid (∀ k, F k → k < w.heap.size) := hflt
  obtain ⟨fin, hfin⟩ : ∃ fin, fin = tlBf (bs, e) x := ⟨_, rfl⟩
  have HFIN : Hid (fin = tlBf (bs, e) x) := hfin
  rw [← hfin]
  clear h hE hG hflt hfin
  obtain ⟨x0, x1⟩ := x
  dsimp only at HFIN ⊢
  have HK0 : Hid (Kept No w (w.alloc (.cells #[.int .i64 x0, .int .i64 x1] 128))) := (Kept.refl No w).alloc _
  have HB : Hid ((w.alloc (.cells #[.int .i64 x0, .int .i64 x1] 128)).heap[w.heap.size]? = some (.cells #[.int .i64 x0, .int .i64 x1] 128 (0, 0))) := heap_alloc_new w _
  go_enter Tryz.func98, Tryz.ntmps98
  go_upto_region 1 with fail
  generalize hW0 : (w.alloc (.cells #[.int .i64 x0, .int .i64 x1] 128)) = w0 at *
  have HW0 : Hid (WrDid F p bs e w0 w0) := WrDid.still (HW.out.kept HK0.out (fun _ _ h => h)) (Kept.refl _ _)
  have HS0 : Hid (bs.length ≤ 1000000000000) := hsz
  clear hsz
  obtain ⟨F0, hw0, hwe0⟩ := HW0.out
  have hb0 : w0.heap[w.heap.size]? = some (.cells #[.int .i64 x0, .int .i64 x1] 128 (0, 0)) := hwe0.1.at' HB.out (fun hf => Nat.lt_irrefl _ (HF.out _ hf))
  have r0_0 : w0.cell? ⟨w.heap.size, 0, none⟩ = some (.int .i64 x0) := by simp [World.cell?, hb0]
  have r0_1 : w0.cell? ⟨w.heap.size, 1, none⟩ = some (.int .i64 x1) := by simp [World.cell?, hb0]
  have hlit0 := Zs.lit w0 3 [x0, x1] (by simp)
  have hk0 : Kept No w0 (w0.alloc (.cells #[.int .i64 x0, .int .i64 x1] 3)) := (Kept.refl No _).alloc _
  have hfl0 : ∀ k, F0 k → k < w0.heap.size := by obtain ⟨v, hv⟩ := hw0; exact hv.flt
  have cp := putNumbers_any F0 _ p bs e _ _ _ [x0, x1] (w0.alloc (.cells #[.int .i64 x0, .int .i64 x1] 3)) (hw0.kept hk0 (fun _ _ h => h)) hlit0 (fun k hk hf => by have := hfl0 k hf; omega) (by simp) (by have := HS0.out; omega)
  have HKL0 : Hid (Kept No w0 (w0.alloc (.cells #[.int .i64 x0, .int .i64 x1] 3))) := hk0
  have HWE0 : Hid (Went F w0 w0 F0) := hwe0
  clear hb0 hw0 hwe0 hlit0 hk0 hfl0
  go_wp2_with (go_at_call 42; refine cp.mono ?_; rintro ex w1 ⟨rfl, hd0⟩)
  go_end0
  refine ⟨rfl, ?_⟩
  rw [HFIN.out]
  exact (WrDid.trans F0 HWE0.out (hd0.ahead HKL0.out)).ahead HK0.out
set_option maxHeartbeats 2000000 in
theorem tellPrc (F G : Nat → Prop) (p : Nat) (bs : List Nat) (e : Int) (x : Prc) (w : World) (h : Wr w F p bs e) (hE : elPrc w G [.int .i64 x.en, .int .i64 x.pr, .int .i64 x.pe, .int .i64 x.li, .int .i64 x.ca, .bool x.auto] x) (hG : ∀ k, G k → ¬ F k ∧ k < w.heap.size) (hsz : bs.length ≤ 1000000000000) :
    Calls Tryz.prog 92 #[.pointer (some ⟨p, 0, none⟩), .agg #[.int .i64 x.en, .int .i64 x.pr, .int .i64 x.pe, .int .i64 x.li, .int .i64 x.ca, .bool x.auto]] w fun ex w' => ex = .returned (.tuple #[]) ∧ WrDid F p (tlPrc (bs, e) x).1 (tlPrc (bs, e) x).2 w w' := by
  have HW : Hid (Wr w F p bs e) := h
  have hflt : ∀ k, F k → k < w.heap.size := by obtain ⟨v, hv⟩ := h; exact hv.flt
  have HF : Hid (∀ k, F k → k < w.heap.size) := hflt
  obtain ⟨fin, hfin⟩ : ∃ fin, fin = tlPrc (bs, e) x := ⟨_, rfl⟩
  have HFIN : Hid (fin = tlPrc (bs, e) x) := hfin
  rw [← hfin]
  clear h hE hG hflt hfin
  obtain ⟨x0, x1, x2, x3, x4, x5⟩ := x
  dsimp only at HFIN ⊢
  have HK0 : Hid (Kept No w (w.alloc (.cells #[.int .i64 x0, .int .i64 x1, .int .i64 x2, .int .i64 x3, .int .i64 x4, .bool x5] 124))) := (Kept.refl No w).alloc _
  have HB : Hid ((w.alloc (.cells #[.int .i64 x0, .int .i64 x1, .int .i64 x2, .int .i64 x3, .int .i64 x4, .bool x5] 124)).heap[w.heap.size]? = some (.cells #[.int .i64 x0, .int .i64 x1, .int .i64 x2, .int .i64 x3, .int .i64 x4, .bool x5] 124 (0, 0))) := heap_alloc_new w _
  go_enter Tryz.func92, Tryz.ntmps92
  go_upto_region 1 with fail
  generalize hW0 : (w.alloc (.cells #[.int .i64 x0, .int .i64 x1, .int .i64 x2, .int .i64 x3, .int .i64 x4, .bool x5] 124)) = w0 at *
  have HW0 : Hid (WrDid F p bs e w0 w0) := WrDid.still (HW.out.kept HK0.out (fun _ _ h => h)) (Kept.refl _ _)
  have HS0 : Hid (bs.length ≤ 1000000000000) := hsz
  clear hsz
  obtain ⟨F0, hw0, hwe0⟩ := HW0.out
  have hb0 : w0.heap[w.heap.size]? = some (.cells #[.int .i64 x0, .int .i64 x1, .int .i64 x2, .int .i64 x3, .int .i64 x4, .bool x5] 124 (0, 0)) := hwe0.1.at' HB.out (fun hf => Nat.lt_irrefl _ (HF.out _ hf))
  have r0_0 : w0.cell? ⟨w.heap.size, 0, none⟩ = some (.int .i64 x0) := by simp [World.cell?, hb0]
  have r0_1 : w0.cell? ⟨w.heap.size, 1, none⟩ = some (.int .i64 x1) := by simp [World.cell?, hb0]
  have r0_2 : w0.cell? ⟨w.heap.size, 2, none⟩ = some (.int .i64 x2) := by simp [World.cell?, hb0]
  have r0_3 : w0.cell? ⟨w.heap.size, 3, none⟩ = some (.int .i64 x3) := by simp [World.cell?, hb0]
  have r0_4 : w0.cell? ⟨w.heap.size, 4, none⟩ = some (.int .i64 x4) := by simp [World.cell?, hb0]
  have hlit0 := Zs.lit w0 3 [x0, x1, x2, x3, x4] (by simp)
  have hk0 : Kept No w0 (w0.alloc (.cells #[.int .i64 x0, .int .i64 x1, .int .i64 x2, .int .i64 x3, .int .i64 x4] 3)) := (Kept.refl No _).alloc _
  have hfl0 : ∀ k, F0 k → k < w0.heap.size := by obtain ⟨v, hv⟩ := hw0; exact hv.flt
  have cp := putNumbers_any F0 _ p bs e _ _ _ [x0, x1, x2, x3, x4] (w0.alloc (.cells #[.int .i64 x0, .int .i64 x1, .int .i64 x2, .int .i64 x3, .int .i64 x4] 3)) (hw0.kept hk0 (fun _ _ h => h)) hlit0 (fun k hk hf => by have := hfl0 k hf; omega) (by simp) (by have := HS0.out; omega)
  have HKL0 : Hid (Kept No w0 (w0.alloc (.cells #[.int .i64 x0, .int .i64 x1, .int .i64 x2, .int .i64 x3, .int .i64 x4] 3))) := hk0
  have HWE0 : Hid (Went F w0 w0 F0) := hwe0
  clear hb0 hw0 hwe0 hlit0 hk0 hfl0
  go_upto_region 2 with (go_at_call 42; refine cp.mono ?_; rintro ex w1 ⟨rfl, hd0⟩)
  have HW1 : Hid (WrDid F p ([x0, x1, x2, x3, x4].foldl tlI (bs, e)).1 ([x0, x1, x2, x3, x4].foldl tlI (bs, e)).2 w0 w1) := WrDid.trans F0 HWE0.out (hd0.ahead HKL0.out)
  have HS1 : Hid (([x0, x1, x2, x3, x4].foldl tlI (bs, e)).1.length ≤ 1000000001000) := by have h1 := fold_flat tfI [x0, x1, x2, x3, x4] (bs, e); have h2 := HS0.out; show (([x0, x1, x2, x3, x4].foldl tlI (bs, e)).1).length ≤ _; simp only [List.length_cons, List.length_nil] at h1; omega
  clear cp hd0 r0_0 r0_1 r0_2 r0_3 r0_4
  obtain ⟨F1, hw1, hwe1⟩ := HW1.out
  have hb1 : w1.heap[w.heap.size]? = some (.cells #[.int .i64 x0, .int .i64 x1, .int .i64 x2, .int .i64 x3, .int .i64 x4, .bool x5] 124 (0, 0)) := hwe1.1.at' HB.out (fun hf => Nat.lt_irrefl _ (HF.out _ hf))
  have r1_5 : w1.cell? ⟨w.heap.size, 5, none⟩ = some (.bool x5) := by simp [World.cell?, hb1]
  have cp := bool_any F1 p ([x0, x1, x2, x3, x4].foldl tlI (bs, e)).1 ([x0, x1, x2, x3, x4].foldl tlI (bs, e)).2 x5 w1 hw1 (by have := HS1.out; omega)
  have HWE1 : Hid (Went F w0 w1 F1) := hwe1
  clear hb1 hw1 hwe1
  go_wp2_with (go_at_call 49; refine cp.mono ?_; rintro ex w2 ⟨rfl, hd1⟩)
  go_end0
  refine ⟨rfl, ?_⟩
  rw [HFIN.out]
  exact (WrDid.trans F1 HWE1.out hd1).ahead HK0.out
set_option maxHeartbeats 2000000 in
theorem tellPo (F G : Nat → Prop) (p : Nat) (bs : List Nat) (e : Int) (x : Po) (w : World) (h : Wr w F p bs e) (hE : elPo w G [.int .i64 x.pt, .int .i64 x.kd, .bool x.out, .int .i64 x.sz, .int .i64 x.dp, .int .i64 x.rf] x) (hG : ∀ k, G k → ¬ F k ∧ k < w.heap.size) (hsz : bs.length ≤ 1000000000000) :
    Calls Tryz.prog 52 #[.pointer (some ⟨p, 0, none⟩), .agg #[.int .i64 x.pt, .int .i64 x.kd, .bool x.out, .int .i64 x.sz, .int .i64 x.dp, .int .i64 x.rf]] w fun ex w' => ex = .returned (.tuple #[]) ∧ WrDid F p (tlPo (bs, e) x).1 (tlPo (bs, e) x).2 w w' := by
  have HW : Hid (Wr w F p bs e) := h
  have hflt : ∀ k, F k → k < w.heap.size := by obtain ⟨v, hv⟩ := h; exact hv.flt
  have HF : Hid (∀ k, F k → k < w.heap.size) := hflt
  obtain ⟨fin, hfin⟩ : ∃ fin, fin = tlPo (bs, e) x := ⟨_, rfl⟩
  have HFIN : Hid (fin = tlPo (bs, e) x) := hfin
  rw [← hfin]
  clear h hE hG hflt hfin
  obtain ⟨x0, x1, x2, x3, x4, x5⟩ := x
  dsimp only at HFIN ⊢
  have HK0 : Hid (Kept No w (w.alloc (.cells #[.int .i64 x0, .int .i64 x1, .bool x2, .int .i64 x3, .int .i64 x4, .int .i64 x5] 70))) := (Kept.refl No w).alloc _
  have HB : Hid ((w.alloc (.cells #[.int .i64 x0, .int .i64 x1, .bool x2, .int .i64 x3, .int .i64 x4, .int .i64 x5] 70)).heap[w.heap.size]? = some (.cells #[.int .i64 x0, .int .i64 x1, .bool x2, .int .i64 x3, .int .i64 x4, .int .i64 x5] 70 (0, 0))) := heap_alloc_new w _
  go_enter Tryz.func52, Tryz.ntmps52
  go_upto_region 1 with fail
  generalize hW0 : (w.alloc (.cells #[.int .i64 x0, .int .i64 x1, .bool x2, .int .i64 x3, .int .i64 x4, .int .i64 x5] 70)) = w0 at *
  have HW0 : Hid (WrDid F p bs e w0 w0) := WrDid.still (HW.out.kept HK0.out (fun _ _ h => h)) (Kept.refl _ _)
  have HS0 : Hid (bs.length ≤ 1000000000000) := hsz
  clear hsz
  obtain ⟨F0, hw0, hwe0⟩ := HW0.out
  have hb0 : w0.heap[w.heap.size]? = some (.cells #[.int .i64 x0, .int .i64 x1, .bool x2, .int .i64 x3, .int .i64 x4, .int .i64 x5] 70 (0, 0)) := hwe0.1.at' HB.out (fun hf => Nat.lt_irrefl _ (HF.out _ hf))
  have r0_0 : w0.cell? ⟨w.heap.size, 0, none⟩ = some (.int .i64 x0) := by simp [World.cell?, hb0]
  have r0_1 : w0.cell? ⟨w.heap.size, 1, none⟩ = some (.int .i64 x1) := by simp [World.cell?, hb0]
  have hlit0 := Zs.lit w0 3 [x0, x1] (by simp)
  have hk0 : Kept No w0 (w0.alloc (.cells #[.int .i64 x0, .int .i64 x1] 3)) := (Kept.refl No _).alloc _
  have hfl0 : ∀ k, F0 k → k < w0.heap.size := by obtain ⟨v, hv⟩ := hw0; exact hv.flt
  have cp := putNumbers_any F0 _ p bs e _ _ _ [x0, x1] (w0.alloc (.cells #[.int .i64 x0, .int .i64 x1] 3)) (hw0.kept hk0 (fun _ _ h => h)) hlit0 (fun k hk hf => by have := hfl0 k hf; omega) (by simp) (by have := HS0.out; omega)
  have HKL0 : Hid (Kept No w0 (w0.alloc (.cells #[.int .i64 x0, .int .i64 x1] 3))) := hk0
  have HWE0 : Hid (Went F w0 w0 F0) := hwe0
  clear hb0 hw0 hwe0 hlit0 hk0 hfl0
  go_upto_region 2 with (go_at_call 42; refine cp.mono ?_; rintro ex w1 ⟨rfl, hd0⟩)
  have HW1 : Hid (WrDid F p ([x0, x1].foldl tlI (bs, e)).1 ([x0, x1].foldl tlI (bs, e)).2 w0 w1) := WrDid.trans F0 HWE0.out (hd0.ahead HKL0.out)
  have HS1 : Hid (([x0, x1].foldl tlI (bs, e)).1.length ≤ 1000000001000) := by have h1 := fold_flat tfI [x0, x1] (bs, e); have h2 := HS0.out; show (([x0, x1].foldl tlI (bs, e)).1).length ≤ _; simp only [List.length_cons, List.length_nil] at h1; omega
  clear cp hd0 r0_0 r0_1
  obtain ⟨F1, hw1, hwe1⟩ := HW1.out
  have hb1 : w1.heap[w.heap.size]? = some (.cells #[.int .i64 x0, .int .i64 x1, .bool x2, .int .i64 x3, .int .i64 x4, .int .i64 x5] 70 (0, 0)) := hwe1.1.at' HB.out (fun hf => Nat.lt_irrefl _ (HF.out _ hf))
  have r1_2 : w1.cell? ⟨w.heap.size, 2, none⟩ = some (.bool x2) := by simp [World.cell?, hb1]
  have cp := bool_any F1 p ([x0, x1].foldl tlI (bs, e)).1 ([x0, x1].foldl tlI (bs, e)).2 x2 w1 hw1 (by have := HS1.out; omega)
  have HWE1 : Hid (Went F w0 w1 F1) := hwe1
  clear hb1 hw1 hwe1
  go_upto_region 3 with (go_at_call 49; refine cp.mono ?_; rintro ex w2 ⟨rfl, hd1⟩)
  have HW2 : Hid (WrDid F p (layBs ([x0, x1].foldl tlI (bs, e)).1 ([x0, x1].foldl tlI (bs, e)).2 (flagB x2)) ([x0, x1].foldl tlI (bs, e)).2 w0 w2) := WrDid.trans F1 HWE1.out hd1
  have HS2 : Hid ((layBs ([x0, x1].foldl tlI (bs, e)).1 ([x0, x1].foldl tlI (bs, e)).2 (flagB x2)).length ≤ 1000000002000) := by have h1 := layBs_len ([x0, x1].foldl tlI (bs, e)).1 ([x0, x1].foldl tlI (bs, e)).2 (flagB x2); have h2 := HS1.out; rw [flagB_len] at h1; show ((layBs ([x0, x1].foldl tlI (bs, e)).1 ([x0, x1].foldl tlI (bs, e)).2 (flagB x2))).length ≤ _; omega
  clear cp hd1 r1_2
  obtain ⟨F2, hw2, hwe2⟩ := HW2.out
  have hb2 : w2.heap[w.heap.size]? = some (.cells #[.int .i64 x0, .int .i64 x1, .bool x2, .int .i64 x3, .int .i64 x4, .int .i64 x5] 70 (0, 0)) := hwe2.1.at' HB.out (fun hf => Nat.lt_irrefl _ (HF.out _ hf))
  have r2_3 : w2.cell? ⟨w.heap.size, 3, none⟩ = some (.int .i64 x3) := by simp [World.cell?, hb2]
  have r2_4 : w2.cell? ⟨w.heap.size, 4, none⟩ = some (.int .i64 x4) := by simp [World.cell?, hb2]
  have r2_5 : w2.cell? ⟨w.heap.size, 5, none⟩ = some (.int .i64 x5) := by simp [World.cell?, hb2]
  have hlit2 := Zs.lit w2 3 [x3, x4, x5] (by simp)
  have hk2 : Kept No w2 (w2.alloc (.cells #[.int .i64 x3, .int .i64 x4, .int .i64 x5] 3)) := (Kept.refl No _).alloc _
  have hfl2 : ∀ k, F2 k → k < w2.heap.size := by obtain ⟨v, hv⟩ := hw2; exact hv.flt
  have cp := putNumbers_any F2 _ p (layBs ([x0, x1].foldl tlI (bs, e)).1 ([x0, x1].foldl tlI (bs, e)).2 (flagB x2)) ([x0, x1].foldl tlI (bs, e)).2 _ _ _ [x3, x4, x5] (w2.alloc (.cells #[.int .i64 x3, .int .i64 x4, .int .i64 x5] 3)) (hw2.kept hk2 (fun _ _ h => h)) hlit2 (fun k hk hf => by have := hfl2 k hf; omega) (by simp) (by have := HS2.out; omega)
  have HKL2 : Hid (Kept No w2 (w2.alloc (.cells #[.int .i64 x3, .int .i64 x4, .int .i64 x5] 3))) := hk2
  have HWE2 : Hid (Went F w0 w2 F2) := hwe2
  clear hb2 hw2 hwe2 hlit2 hk2 hfl2
  go_wp2_with (go_at_call 42; refine cp.mono ?_; rintro ex w3 ⟨rfl, hd2⟩)
  go_end0
  refine ⟨rfl, ?_⟩
  rw [HFIN.out]
  exact (WrDid.trans F2 HWE2.out (hd2.ahead HKL2.out)).ahead HK0.out
end Go.Proofs.YtolmhoenjcinjaaGreat
