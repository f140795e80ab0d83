/-
  The closure that tells an instruction.
-/
import Derived.Test.YtolmhoenjcinjaaGreatIIsa
import Derived.Test.YtolmhoenjcinjaaGreatITells
namespace Go.Proofs.YtolmhoenjcinjaaGreat
open Go.RowKit
set_option linter.unusedVariables false
set_option maxRecDepth 100000

theorem enc8 (x : Ins) (h : okIns x) : ∃ y0 y1 y2 y3 y4 y5 y6 y7 : Nat, encIns x = [y0, y1, y2, y3, y4, y5, y6, y7] ∧
    encV x.op x.a x.b x.c x.imm = .agg #[.int .u8 y0, .int .u8 y1, .int .u8 y2, .int .u8 y3, .int .u8 y4, .int .u8 y5, .int .u8 y6, .int .u8 y7] := by
  obtain ⟨h1, h2, h3, h4, h5⟩ := h
  obtain ⟨o, a, b, c, n⟩ := x
  dsimp only at h1 h2 h3 h4 h5
  have e1 : (((n % 4294967296).toNat / 16777216 % 256 : Nat) : Int) = n % 4294967296 / 16777216 := by omega
  have e2 : (((n % 4294967296).toNat / 65536 % 256 : Nat) : Int) = n % 4294967296 / 65536 % 256 := by omega
  have e3 : (((n % 4294967296).toNat / 256 % 256 : Nat) : Int) = n % 4294967296 / 256 % 256 := by omega
  have e4 : (((n % 4294967296).toNat % 256 : Nat) : Int) = n % 256 := by omega
  refine ⟨_, _, _, _, _, _, _, _, by unfold encIns; rw [be4]; rfl, ?_⟩
  rw [e1, e2, e3, e4]
  simp only [Int.toNat_of_nonneg h1.1, Int.toNat_of_nonneg h2.1, Int.toNat_of_nonneg h3.1, Int.toNat_of_nonneg h4.1]
  rfl

set_option maxHeartbeats 2000000 in
theorem tellIns (F G : Nat → Prop) (p : Nat) (bs : List Nat) (e : Int) (x : Ins) (w : World) (h : Wr w F p bs e) (hE : elIns w G [.int .u8 x.op, .int .u8 x.a, .int .u8 x.b, .int .u8 x.c, .int .i32 x.imm] x) (hG : ∀ k, G k → ¬ F k ∧ k < w.heap.size) (hsz : bs.length ≤ 1000000000000) :
    Calls Tryz.prog 89 #[.pointer (some ⟨p, 0, none⟩), .agg #[.int .u8 x.op, .int .u8 x.a, .int .u8 x.b, .int .u8 x.c, .int .i32 x.imm]] w fun ex w' => ex = .returned (.tuple #[]) ∧ WrDid F p (tlIns (bs, e) x).1 (tlIns (bs, e) x).2 w w' := by
  have HW : Hid (Wr w F p bs e) := h
  have hflt : ∀ k, F k → k < w.heap.size := by obtain ⟨v, hv⟩ := h; exact hv.flt
  have HF : Hid (∀ k, F k → k < w.heap.size) := hflt
  have hok := hE.2
  have hlt := dcIns.lt x hok
  obtain ⟨y0, y1, y2, y3, y4, y5, y6, y7, hy, hv⟩ := enc8 x hok
  have hfin : tlIns (bs, e) x = (layBs bs e (encIns x), e) := rfl
  rw [hfin, hy]
  rw [hy] at hlt
  have ce := fun w => encode_any x.op x.a x.b x.c x.imm hok.2.2.2.2 w
  rw [hv] at ce
  unfold insV at ce
  have HLT : Hid (∀ b ∈ [y0, y1, y2, y3, y4, y5, y6, y7], b < 256) := hlt
  clear h hE hG hflt hfin hlt hy hv hok
  obtain ⟨x0, x1, x2, x3, x4⟩ := x
  dsimp only at ce ⊢
  have HK0 : Hid (Kept No w (w.alloc (.cells #[.int .u8 x0, .int .u8 x1, .int .u8 x2, .int .u8 x3, .int .i32 x4] 122))) := (Kept.refl No w).alloc _
  have HB : Hid ((w.alloc (.cells #[.int .u8 x0, .int .u8 x1, .int .u8 x2, .int .u8 x3, .int .i32 x4] 122)).heap[w.heap.size]? = some (.cells #[.int .u8 x0, .int .u8 x1, .int .u8 x2, .int .u8 x3, .int .i32 x4] 122 (0, 0))) := heap_alloc_new w _
  go_enter Tryz.func89, Tryz.ntmps89
  go_upto_region 1 with fail
  generalize hW0 : w.alloc (.cells #[.int .u8 x0, .int .u8 x1, .int .u8 x2, .int .u8 x3, .int .i32 x4] 122) = w0 at *
  have r0 : w0.cell? ⟨w.heap.size, 0, none⟩ = some (.int .u8 x0) := by simp [World.cell?, HB.out]
  have r1 : w0.cell? ⟨w.heap.size, 1, none⟩ = some (.int .u8 x1) := by simp [World.cell?, HB.out]
  have r2 : w0.cell? ⟨w.heap.size, 2, none⟩ = some (.int .u8 x2) := by simp [World.cell?, HB.out]
  have r3 : w0.cell? ⟨w.heap.size, 3, none⟩ = some (.int .u8 x3) := by simp [World.cell?, HB.out]
  have r4 : w0.cell? ⟨w.heap.size, 4, none⟩ = some (.int .i32 x4) := by simp [World.cell?, HB.out]
  have c0 := ce w0
  go_upto_region 2 with (go_at_call 90; refine c0.mono ?_; rintro ex w1 ⟨rfl, hb1⟩)
  clear c0 ce r0 r1 r2 r3 r4
  have hk1 : Kept No w0 (w1.alloc (.cells #[.int .u8 y0, .int .u8 y1, .int .u8 y2, .int .u8 y3, .int .u8 y4, .int .u8 y5, .int .u8 y6, .int .u8 y7] 146)) := (Kept.of_below hb1).alloc _
  have hbs : Bs (w1.alloc (.cells #[.int .u8 y0, .int .u8 y1, .int .u8 y2, .int .u8 y3, .int .u8 y4, .int .u8 y5, .int .u8 y6, .int .u8 y7] 146)) (fun k => k = w1.heap.size) (some ⟨w1.heap.size, 0, none⟩) 8 8 [y0, y1, y2, y3, y4, y5, y6, y7] := by
    refine ⟨rfl, Nat.le_refl _, by omega, fun h => (by cases h), fun i hi => ⟨w1.heap.size, 0, rfl, rfl, ?_⟩, HLT.out⟩
    have h := heap_alloc_new w1 (.cells #[.int .u8 y0, .int .u8 y1, .int .u8 y2, .int .u8 y3, .int .u8 y4, .int .u8 y5, .int .u8 y6, .int .u8 y7] 146)
    unfold World.cell?
    simp only [h, Nat.zero_add]
    match i, hi with
    | 0, _ => rfl
    | 1, _ => rfl
    | 2, _ => rfl
    | 3, _ => rfl
    | 4, _ => rfl
    | 5, _ => rfl
    | 6, _ => rfl
    | 7, _ => rfl
  have cp := bytes_any F _ p bs e _ _ _ _ _ ((HW.out.kept HK0.out (fun _ _ h => h)).kept hk1 (fun _ _ h => h)) hbs (by omega)
  have HK1 : Hid (Kept No w0 (w1.alloc (.cells #[.int .u8 y0, .int .u8 y1, .int .u8 y2, .int .u8 y3, .int .u8 y4, .int .u8 y5, .int .u8 y6, .int .u8 y7] 146))) := hk1
  clear hk1 hbs hb1
  go_wp2_with (go_at_call 59; refine cp.mono ?_; rintro ex w2 ⟨rfl, hd⟩)
  go_end0
  exact ⟨rfl, (hd.ahead HK1.out).ahead HK0.out⟩

end Go.Proofs.YtolmhoenjcinjaaGreat
