/-
  lives: an event is told and read.
-/
import Derived.Test.YtjhhldgbllbbhaaGreatDoorVRd
namespace Go.Proofs.YtjhhldgbllbbhaaGreatDoor
open Go.RowKit
set_option linter.unusedVariables false
set_option linter.unusedSimpArgs false
set_option maxRecDepth 100000

def L0 : ByteArray := ⟨#[49, 55, 32, 50, 32, 99, 97, 108, 108, 32, 51, 32, 49, 54, 32, 48]⟩
def x0 : Ev := ⟨17, 2, 1, 3, 16, 0, []⟩
theorem toks_L0 : toks L0 = [⟨#[49, 55]⟩, ⟨#[50]⟩, ⟨#[99, 97, 108, 108]⟩, ⟨#[51]⟩, ⟨#[49, 54]⟩, ⟨#[48]⟩] := by kernel_rfl
theorem itoa17 : Lib.itoa 17 = [49, 55] := by simp [Lib.itoa, Lib.decDigits]
theorem itoa2 : Lib.itoa 2 = [50] := by simp [Lib.itoa, Lib.decDigits]
theorem itoa3 : Lib.itoa 3 = [51] := by simp [Lib.itoa, Lib.decDigits]
theorem itoa16 : Lib.itoa 16 = [49, 54] := by simp [Lib.itoa, Lib.decDigits]
theorem itoa0 : Lib.itoa 0 = [48] := by simp [Lib.itoa, Lib.decDigits]
theorem line_x0 : lineB x0 = L0 := by
  simp only [lineB, x0, Ev.fls, Ev.six, List.map_nil, List.append_nil, List.map_cons, Fl.tok, Fl.i, Fl.w, Fl.k, tokI, itoa17, itoa2, itoa3, itoa16, itoa0]
  rfl
theorem x0_go : x0.Go := by decide
theorem x0_fit : x0.Fit := ⟨⟨by decide, by decide⟩, ⟨by decide, by decide⟩, fun z hz => by cases hz⟩
theorem x0_ir (w : World) (F : Nat → Prop) : Ir w F x0 none 0 := ⟨Zs.none w F, by show 0 ≤ 17592186044416; omega, ⟨by show (-9223372036854775808 : Int) ≤ 17; omega, by show (17 : Int) ≤ 9223372036854775807; omega⟩⟩
theorem results_ct {P : Program} {fn : Func} {p u : Tmp} {ty : TypeId} (h : fn.results = #[.cell p ty, .tmp u]) (tmps : Array Value) (w : World) (g : Nat) (v : Value)
    (hp : tmps.getD p undef = .pointer (some ⟨g, 0, none⟩)) (hl : (loadVar ty ⟨g, 0, none⟩).run P w = .ok v w) : (results fn tmps).run P w = .ok (.tuple #[v, tmps.getD u undef]) w := by
  have hp' : tmps[p]?.getD undef = .pointer (some ⟨g, 0, none⟩) := by simpa using hp
  simp [results, h, hp', asAddr, hl]
set_option maxHeartbeats 8000000 in
theorem read_x0 (w : World) (en : En w) : Calls Tryz.prog 8 #[.string L0] w fun r w' => r = .returned (.tuple #[.agg (x0.val none 0), .int .i64 0]) ∧ Kept No w w' := by
  obtain ⟨w2, e2⟩ : ∃ w2, w2 = w.alloc (.cells #[.int .i64 0, .int .i64 0, .int .i64 0, .int .i64 0, .int .i64 0, .int .i64 0, .slice none 0 0] 25) := ⟨_, rfl⟩
  have K1 : Kept No w w2 := by rw [e2]; exact (Kept.refl No w).alloc _
  have BR : w2.heap[w.heap.size]? = some (.cells Z7 25) := by rw [e2]; exact alloc_new w _
  have SP := split_any L0 w2 (by decide)
  rw [toks_L0] at SP
  have SP2 : Calls Tryz.prog 18 #[.string L0, .string sp1] w2 fun e w' => ∃ g, e = .returned (.slice (some ⟨g, 0, none⟩) 6 6) ∧ Kept No w2 w' ∧ w'.cell? ⟨g, 0 + 0, none⟩ = some (.string ⟨#[49, 55]⟩) ∧ w'.cell? ⟨g, 0 + 1, none⟩ = some (.string ⟨#[50]⟩) ∧ w'.cell? ⟨g, 0 + 2, none⟩ = some (.string ⟨#[99, 97, 108, 108]⟩) ∧ w'.cell? ⟨g, 0 + 3, none⟩ = some (.string ⟨#[51]⟩) ∧ w'.cell? ⟨g, 0 + 4, none⟩ = some (.string ⟨#[49, 54]⟩) ∧ w'.cell? ⟨g, 0 + 5, none⟩ = some (.string ⟨#[48]⟩) := SP.mono (by
    rintro e w' ⟨rfl, rfl⟩
    have b := alloc_new w2 (.cells (([⟨#[49, 55]⟩, ⟨#[50]⟩, ⟨#[99, 97, 108, 108]⟩, ⟨#[51]⟩, ⟨#[49, 54]⟩, ⟨#[48]⟩] : List ByteArray).map Value.string).toArray 9)
    exact ⟨w2.heap.size, rfl, (Kept.refl No w2).alloc _, (cell_blk b 0).trans rfl, (cell_blk b 1).trans rfl, (cell_blk b 2).trans rfl, (cell_blk b 3).trans rfl, (cell_blk b 4).trans rfl, (cell_blk b 5).trans rfl⟩)
  have HH := hid (And.intro K1 BR)
  have HSH : Hid (∀ W, Kept No w2 W → Calls Tryz.prog 7 #[.agg (x0.val none 0)] W fun r w' => r = .returned (.tuple #[.string L0, .bool true]) ∧ Kept No W w') := fun W q => by
    have := show_any W (x0_ir W An) x0_go x0_fit (en.keep (K1.trans q (fun _ e => e.elim)))
    rw [line_x0] at this
    exact this
  have HEV : Hid (∀ W g, Kept No w2 W → W.cell? ⟨g, 0 + 0, none⟩ = some (.string ⟨#[49, 55]⟩) → W.cell? ⟨g, 0 + 1, none⟩ = some (.string ⟨#[50]⟩) → W.cell? ⟨g, 0 + 2, none⟩ = some (.string ⟨#[99, 97, 108, 108]⟩) → W.cell? ⟨g, 0 + 3, none⟩ = some (.string ⟨#[51]⟩) → W.cell? ⟨g, 0 + 4, none⟩ = some (.string ⟨#[49, 54]⟩) → W.cell? ⟨g, 0 + 5, none⟩ = some (.string ⟨#[48]⟩) → Calls Tryz.prog 17 #[.slice (some ⟨g, 0, none⟩) 6 6] W fun r w' => r = .returned (.agg (x0.val none 0)) ∧ Kept No W w') := fun W g q h0 h1 h2 h3 h4 h5 =>
    event_six (kd := 1) W (en.keep (K1.trans q (fun _ e => e.elim))) h0 h1 h2 h3 h4 h5 (n0 := 17) (n1 := 2) (n3 := 3) (n4 := 16) (n5 := 0) (by kernel_rfl) (by kernel_rfl) (by kernel_rfl) (by kernel_rfl) (by kernel_rfl) (by decide) (by decide) (by kernel_rfl)
  have hsz : (L0.size : Int) = 16 := rfl
  have hLL : (L0.toList == L0.toList) = true := by simp
  clear SP en K1 BR
  have hsp : (⟨#[32]⟩ : ByteArray) = sp1 := rfl
  generalize L0 = l0 at *
  go_enter Tryz.func8, Tryz.ntmps8
  go_upto_region 1 with fail
  rw [← e2]
  clear e2
  go_upto_region 3 with fail
  have ho : (x0.val none 0).all (·.oneCell') = true := x0.val_one none 0
  go_upto_region 4 with (first
    | (go_at_call 18; refine SP2.mono ?_; rintro r w3 ⟨g, rfl, k3, h0, h1, h2, h3, h4, h5⟩; have EC := HEV.out w3 g k3 h0 h1 h2 h3 h4 h5; have H3 := hid k3; clear k3 h0 h1 h2 h3 h4 h5 SP2 HEV)
    | (go_at_call 17; refine EC.mono ?_; rintro r w4 ⟨rfl, k4⟩; have H4 := hid (H3.out.trans k4 (fun _ e => e.elim)); clear k4 EC)
    | (refine l_make 4 rfl rfl (er_alI rfl) ?_)
    | (refine l_turn rfl rfl (er_stI _ _ rfl w4.heap.size (x0.val none 0) _ rfl rfl (alloc_new w4 _) rfl rfl ho) ?_))
  obtain ⟨w5, e5⟩ : ∃ w5, w5 = (w4.alloc (.cells Z7 25)).setRow w4.heap.size (x0.val none 0) := ⟨_, rfl⟩
  have K5 : Kept No w2 w5 := by rw [e5]; exact (H4.out.alloc _).setRow (.inr H4.out.size) _
  have B5 : w5.heap[w4.heap.size]? = some (.cells (x0.val none 0) 25) := by rw [e5]; exact setRow_heap _ _ _ _ _ (0, 0) (alloc_new w4 _)
  rw [← e5]
  clear e5
  have LD : Hid (∀ W, Kept No w5 W → (Instr.loadAt 25 (.pointer (some ⟨w4.heap.size, 0, none⟩))).run Tryz.prog W = .ok (.agg (x0.val none 0)) W) := fun W q => ldI (o := 0) (x := x0) (da := none) (dc := 0) (fun j v hv => by rw [Nat.zero_add]; exact q.cell (by rw [cell_blk B5, ← Array.getElem?_toList]; exact hv) (fun e => e))
  have SC := HSH.out w5 K5
  have H5 := hid K5
  clear K5 B5 HSH H3 H4
  go_upto_region 5 with (first
    | (refine l_take 15 rfl rfl (er_ldX 25 (.tmp 4) rfl (.pointer (some ⟨w4.heap.size, 0, none⟩)) (.agg (x0.val none 0)) rfl (LD.out _ (Kept.refl _ _))) ?_)
    | (go_at_call 7; refine SC.mono ?_; rintro r w6 ⟨rfl, k6⟩; have H6 := hid k6; clear k6 SC))
  have B6 := H6.out.at' (H5.out.at' HH.out.2 (fun e => e)) (fun e => e)
  have HB6 := hid B6
  clear B6
  go_wp2_with (first
    | (refine l_take 27 rfl rfl (er_ldX 25 (.tmp 4) rfl (.pointer (some ⟨w4.heap.size, 0, none⟩)) (.agg (x0.val none 0)) rfl (LD.out _ H6.out)) ?_)
    | (refine l_turn rfl rfl (er_stI _ _ rfl w.heap.size (x0.val none 0) _ rfl rfl HB6.out rfl rfl ho) ?_))
  have hfin := setRow_heap w6 w.heap.size Z7 (x0.val none 0) 25 (0, 0) HB6.out
  refine bodyPost_ret (results_ct rfl _ _ w.heap.size (.agg (x0.val none 0)) rfl (run_loadVar_row (P := Tryz.prog) _ w.heap.size 25 25 _ (0, 0) _ hfin Tryz.underlying25 rfl (by kernel_rfl))) rfl ?_
  exact ⟨rfl, ((HH.out.1.trans H5.out (fun _ e => e.elim)).trans H6.out (fun _ e => e.elim)).setRow (.inr (Nat.le_refl _)) _⟩
set_option maxHeartbeats 8000000 in
theorem same_x0 (w : World) : Calls Tryz.prog 9 #[.agg (x0.val none 0), .agg (x0.val none 0)] w fun r w' => r = .returned (.bool true) ∧ Kept No w w' := by
  obtain ⟨w2, e2, K1, _, _, BA, BR⟩ := one_boxes w (x0_ir w An) (x0_ir w An)
  have x0 : w2.cell? ⟨w.heap.size, 0, none⟩ = some (.int .i64 17) := (cell_blk BA 0).trans rfl
  have x1 : w2.cell? ⟨w.heap.size, 1, none⟩ = some (.int .i64 2) := (cell_blk BA 1).trans rfl
  have x2 : w2.cell? ⟨w.heap.size, 2, none⟩ = some (.int .i64 1) := (cell_blk BA 2).trans rfl
  have x3 : w2.cell? ⟨w.heap.size, 3, none⟩ = some (.int .i64 3) := (cell_blk BA 3).trans rfl
  have x4 : w2.cell? ⟨w.heap.size, 4, none⟩ = some (.int .i64 16) := (cell_blk BA 4).trans rfl
  have x5 : w2.cell? ⟨w.heap.size, 5, none⟩ = some (.int .i64 0) := (cell_blk BA 5).trans rfl
  have x6 : w2.cell? ⟨w.heap.size, 6, none⟩ = some (.slice none 0 0) := (cell_blk BA 6).trans rfl
  have y0 : w2.cell? ⟨w.heap.size + 1, 0, none⟩ = some (.int .i64 17) := (cell_blk BR 0).trans rfl
  have y1 : w2.cell? ⟨w.heap.size + 1, 1, none⟩ = some (.int .i64 2) := (cell_blk BR 1).trans rfl
  have y2 : w2.cell? ⟨w.heap.size + 1, 2, none⟩ = some (.int .i64 1) := (cell_blk BR 2).trans rfl
  have y3 : w2.cell? ⟨w.heap.size + 1, 3, none⟩ = some (.int .i64 3) := (cell_blk BR 3).trans rfl
  have y4 : w2.cell? ⟨w.heap.size + 1, 4, none⟩ = some (.int .i64 16) := (cell_blk BR 4).trans rfl
  have y5 : w2.cell? ⟨w.heap.size + 1, 5, none⟩ = some (.int .i64 0) := (cell_blk BR 5).trans rfl
  have y6 : w2.cell? ⟨w.heap.size + 1, 6, none⟩ = some (.slice none 0 0) := (cell_blk BR 6).trans rfl
  have HH := hid K1
  clear K1 BA BR
  have e3 : w2 = (w.alloc (.cells #[.int .i64 17, .int .i64 2, .int .i64 1, .int .i64 3, .int .i64 16, .int .i64 0, .slice none 0 0] 25)).alloc (.cells #[.int .i64 17, .int .i64 2, .int .i64 1, .int .i64 3, .int .i64 16, .int .i64 0, .slice none 0 0] 25) := e2
  clear e2
  show Calls Tryz.prog 9 #[.agg #[.int .i64 17, .int .i64 2, .int .i64 1, .int .i64 3, .int .i64 16, .int .i64 0, .slice none 0 0], .agg #[.int .i64 17, .int .i64 2, .int .i64 1, .int .i64 3, .int .i64 16, .int .i64 0, .slice none 0 0]] w _
  go_enter Tryz.func9, Tryz.ntmps9
  go_upto_region 1 with fail
  rw [← e3]
  clear e3
  go_wp2
  go_loopw [5] (fun u5 wr => u5 = .int .i64 0 ∧ wr = w2) (fun _ _ => 0)
  case atStart => exact ⟨rfl, rfl⟩
  case round =>
    obtain ⟨rfl, rfl⟩ := hrel
    go_wp2
    go_ret
    exact ⟨rfl, HH.out⟩
set_option maxHeartbeats 8000000 in
theorem lives_yes (w : World) (en : En w) : Calls Tryz.prog 5 #[] w fun r w' => r = .returned (.bool true) ∧ Kept No w w' := by
  have ho : (x0.val none 0).all (·.oneCell') = true := x0.val_one none 0
  obtain ⟨w2, e2⟩ : ∃ w2, w2 = (w.alloc (.cells Z7 25)).setRow w.heap.size (x0.val none 0) := ⟨_, rfl⟩
  have K1 : Kept No w w2 := by rw [e2]; exact ((Kept.refl No w).alloc _).setRow (.inr (Nat.le_refl _)) _
  have B1 : w2.heap[w.heap.size]? = some (.cells (x0.val none 0) 25) := by rw [e2]; exact setRow_heap _ _ _ _ _ (0, 0) (alloc_new w _)
  have LD : Hid (∀ W, Kept No w2 W → (Instr.loadAt 25 (.pointer (some ⟨w.heap.size, 0, none⟩))).run Tryz.prog W = .ok (.agg (x0.val none 0)) W) := fun W q => ldI (o := 0) (x := x0) (da := none) (dc := 0) (fun j v hv => by rw [Nat.zero_add]; exact q.cell (by rw [cell_blk B1, ← Array.getElem?_toList]; exact hv) (fun e => e))
  have SC := show_any w2 (x0_ir w2 An) x0_go x0_fit (en.keep K1)
  rw [line_x0] at SC
  have HRD : Hid (∀ W, Kept No w2 W → Calls Tryz.prog 8 #[.string L0] W fun r w' => r = .returned (.tuple #[.agg (x0.val none 0), .int .i64 0]) ∧ Kept No W w') := fun W q => read_x0 W (en.keep (K1.trans q (fun _ e => e.elim)))
  have hL0 : (⟨#[49, 55, 32, 50, 32, 99, 97, 108, 108, 32, 51, 32, 49, 54, 32, 48]⟩ : ByteArray) = L0 := rfl
  have hLL : (L0.toList == L0.toList) = true := by simp
  have HK := hid K1
  clear K1 B1 en
  have HBL := hid (show Tryz.prog.built 25 [(0, .int .i64 17), (1, .int .i64 2), (2, .int .i64 1), (3, .int .i64 3), (4, .int .i64 16)] = some (x0.val none 0) by kernel_rfl)
  go_enter Tryz.func5, Tryz.ntmps5
  go_upto_region 2 with (first
    | (refine l_take 6 rfl rfl (er_build _ _ rfl [(0, .int .i64 17), (1, .int .i64 2), (2, .int .i64 1), (3, .int .i64 3), (4, .int .i64 16)] (by kernel_rfl) (x0.val none 0) HBL.out) ?_)
    | (refine l_make 1 rfl rfl (er_alI rfl) ?_)
    | (refine l_turn rfl rfl (er_stI _ _ rfl w.heap.size (x0.val none 0) _ rfl rfl (alloc_new w _) rfl rfl ho) ?_))
  rw [← e2]
  clear e2 HBL
  go_upto_region 3 with (first
    | (refine l_take 8 rfl rfl (er_ldX 25 (.tmp 1) rfl (.pointer (some ⟨w.heap.size, 0, none⟩)) (.agg (x0.val none 0)) rfl (LD.out _ (Kept.refl _ _))) ?_)
    | (go_at_call 7; refine SC.mono ?_; rintro r w3 ⟨rfl, k3⟩; have H3 := hid k3; clear k3 SC))
  have RC := HRD.out w3 H3.out
  go_upto_region 4 with (first
    | (go_at_call 8; refine RC.mono ?_; rintro r w4 ⟨rfl, k4⟩; have H4 := hid (H3.out.trans k4 (fun _ e => e.elim)); clear k4 RC)
    | (refine l_make 4 rfl rfl (er_alI rfl) ?_)
    | (refine l_turn rfl rfl (er_stI _ _ rfl w4.heap.size (x0.val none 0) _ rfl rfl (alloc_new w4 _) rfl rfl ho) ?_))
  obtain ⟨w5, e5⟩ : ∃ w5, w5 = (w4.alloc (.cells Z7 25)).setRow w4.heap.size (x0.val none 0) := ⟨_, rfl⟩
  have K5 : Kept No w2 w5 := by rw [e5]; exact (H4.out.alloc _).setRow (.inr H4.out.size) _
  have B5 : w5.heap[w4.heap.size]? = some (.cells (x0.val none 0) 25) := by rw [e5]; exact setRow_heap _ _ _ _ _ (0, 0) (alloc_new w4 _)
  rw [← e5]
  clear e5
  have LD4 := hid (ldI (w := w5) (b := w4.heap.size) (o := 0) (x := x0) (da := none) (dc := 0) (fun j v hv => by rw [Nat.zero_add, cell_blk B5, ← Array.getElem?_toList]; exact hv))
  have SM := same_x0 w5
  have H5 := hid K5
  clear K5 B5 H3 H4 HRD
  generalize L0 = l0 at *
  go_wp2_with (first
    | (refine l_take 26 rfl rfl (er_ldX 25 (.tmp 1) rfl (.pointer (some ⟨w.heap.size, 0, none⟩)) (.agg (x0.val none 0)) rfl (LD.out _ H5.out)) ?_)
    | (refine l_take 27 rfl rfl (er_ldX 25 (.tmp 4) rfl (.pointer (some ⟨w4.heap.size, 0, none⟩)) (.agg (x0.val none 0)) rfl LD4.out) ?_)
    | (go_at_call 9; refine SM.mono ?_; rintro r w6 ⟨rfl, k6⟩; have H6 := hid k6; clear k6 SM))
  go_ret
  exact ⟨rfl, (HK.out.trans H5.out (fun _ e => e.elim)).trans H6.out (fun _ e => e.elim)⟩
end Go.Proofs.YtjhhldgbllbbhaaGreatDoor
