/-
  trace: Read of what Show tells.
-/
import Derived.Test.YtjhhldgbllbbhaaGreatDoorVEv
import Derived.Test.YtjhhldgbllbbhaaGreatDoorVLv
namespace Go.Proofs.YtjhhldgbllbbhaaGreatDoor
open Go.RowKit
set_option linter.unusedVariables false
set_option linter.unusedSimpArgs false
set_option maxRecDepth 100000

theorem tokI_size {n : Int} (h : T6 n) : (tokI n).size ≤ 21 := Lib.itoa_length_le n h.1 h.2
theorem num_tok {n : Int} (h : T6 n) (W : World) : Calls Tryz.prog 36 #[.string (tokI n)] W fun e w' => e = .returned (.int .i64 n) ∧ Kept No W w' :=
  number_ok (tokI n) n (by show Lib.parseIntB 64 (Lib.itoa n).toArray.toList = _; simpa using parse_itoa h) (by have := tokI_size h; omega) W
theorem event_any {x : Ev} {g : Nat} (w : World) (en : En w) (hg : x.Go) (hf : x.Fit) (hb : w.heap[g]? = some (.cells ((x.fls.map Fl.tok).map Value.string).toArray 9)) :
    Calls Tryz.prog 17 #[.slice (some ⟨g, 0, none⟩) (6 + x.d.length) (6 + x.d.length)] w fun r w' => ∃ ya yc, r = .returned (.agg (x.val ya yc)) ∧ Ir w' (fun k => w.heap.size ≤ k) x ya yc ∧ Kept No w w' := by
  have hd : x.d.length ≤ 16 := by have := hg.2.2.2.2.2.2.2.2; omega
  rw [fls_tok] at hb
  obtain ⟨h0, h1, h2, h3, h4, h5, h6, h7, h8⟩ := hg
  have ht : T6 x.tk := ⟨by omega, by omega⟩
  have hc : ∀ j t, ((tokI x.tk :: tokI x.pt :: NMS.getD x.kd.toNat ⟨#[]⟩ :: tokI x.pr :: tokI x.ea :: tokI x.eb :: x.d.map tokI : List ByteArray))[j]? = some t → w.cell? ⟨g, 0 + j, none⟩ = some (.string t) := fun j t h => by
    rw [Nat.zero_add, cell_blk hb]
    simp only [List.getElem?_toArray, List.getElem?_map, h]
    rfl
  refine (ev_gen (n2 := x.kd) (zs := x.d) (tz := fun j => tokI (x.d.getD j 0)) w rfl hd (hc 0 _ rfl) (hc 1 _ rfl) (hc 2 _ rfl) (hc 3 _ rfl) (hc 4 _ rfl) (hc 5 _ rfl) (fun j hj => ?_)
    (fun W _ => num_tok (n := x.tk) ht W) (fun W _ => num_tok (n := x.pt) ⟨by omega, by omega⟩ W) (fun W z => ?_) (fun W _ => num_tok (n := x.pr) ⟨by omega, by omega⟩ W) (fun W _ => num_tok hf.1 W) (fun W _ => num_tok hf.2.1 W) (fun j hj W _ => ?_)).mono ?_
  · have := hc (6 + j) (tokI (x.d.getD j 0)) (by
      rw [show 6 + j = j + 1 + 1 + 1 + 1 + 1 + 1 by omega]
      simp only [List.getElem?_cons_succ, List.getElem?_map]
      rw [List.getD, List.getElem?_eq_getElem hj]
      rfl)
    rw [Nat.zero_add] at this
    exact this
  · have := kind_ok x.kd.toNat (by omega) W (en.keep z)
    rw [show ((x.kd.toNat : Nat) : Int) = x.kd by omega] at this
    exact this
  · refine num_tok (hf.2.2 _ ?_) W
    rw [List.getD, List.getElem?_eq_getElem hj]
    exact List.getElem_mem _
  · rintro r w' ⟨ya, yc, rfl, own, k⟩
    obtain ⟨a', c', e, hz⟩ := Zs.of_owns own
    injection e with e1 _ e3
    subst e1 e3
    exact ⟨ya, yc, rfl, ⟨hz.mono (fun g hg => (owns_blk own hg).1), by omega, ht⟩, k⟩
def ReadsAs (x : Ev) (r : Ending) (w' : World) : Prop := ∃ ya yc, r = .returned (.tuple #[.agg (x.val ya yc), .int .i64 0]) ∧ Ir w' An x ya yc
set_option maxHeartbeats 8000000 in
theorem read_any {x : Ev} (w : World) (en : En w) (hg : x.Go) (hf : x.Fit) : Calls Tryz.prog 8 #[.string (lineB x)] w fun r w' => ReadsAs x r w' ∧ Kept No w w' := by
  obtain ⟨w2, e2⟩ : ∃ w2, w2 = w.alloc (.cells #[.int .i64 0, .int .i64 0, .int .i64 0, .int .i64 0, .int .i64 0, .int .i64 0, .slice none 0 0] 25) := ⟨_, rfl⟩
  have K1 : Kept No w w2 := by rw [e2]; exact (Kept.refl No w).alloc _
  have BR : w2.heap[w.heap.size]? = some (.cells Z7 25) := by rw [e2]; exact alloc_new w _
  have hd : x.d.length ≤ 16 := by have := hg.2.2.2.2.2.2.2.2; omega
  have hsm : (lineB x).size ≤ 500 := join_small (Ev.fls_ok hg hf) (by rw [x.fls_len]; omega)
  have SP := split_any (lineB x) w2 (by omega)
  rw [toks_line hg hf, List.length_map, x.fls_len] at SP
  have SP2 : Calls Tryz.prog 18 #[.string (lineB x), .string sp1] w2 fun e w' => ∃ g, e = .returned (.slice (some ⟨g, 0, none⟩) (6 + x.d.length) (6 + x.d.length)) ∧ Kept No w2 w' ∧ w'.heap[g]? = some (.cells ((x.fls.map Fl.tok).map Value.string).toArray 9) := SP.mono (by
    rintro e w' ⟨rfl, rfl⟩
    exact ⟨w2.heap.size, rfl, (Kept.refl No w2).alloc _, alloc_new w2 _⟩)
  have HH := hid (And.intro K1 BR)
  have HLT := hid (heap_lt BR)
  have HSH : Hid (∀ ya yc W, Kept No w2 W → Ir W An x ya yc → Calls Tryz.prog 7 #[.agg (x.val ya yc)] W fun r w' => r = .returned (.tuple #[.string (lineB x), .bool true]) ∧ Kept No W w') := fun ya yc W q ir => show_any W ir hg hf (en.keep (K1.trans q (fun _ e => e.elim)))
  have HEV : Hid (∀ W g, Kept No w2 W → W.heap[g]? = some (.cells ((x.fls.map Fl.tok).map Value.string).toArray 9) → Calls Tryz.prog 17 #[.slice (some ⟨g, 0, none⟩) (6 + x.d.length) (6 + x.d.length)] W fun r w' => ∃ ya yc, r = .returned (.agg (x.val ya yc)) ∧ Ir w' (fun k => W.heap.size ≤ k) x ya yc ∧ Kept No W w') := fun W g q hb => event_any W (en.keep (K1.trans q (fun _ e => e.elim))) hg hf hb
  have hsz : ((lineB x).size : Int) ≤ 512 := by omega
  have hLL : ((lineB x).toList == (lineB x).toList) = true := by simp
  clear SP en K1 BR hg hf hsm
  generalize lineB x = l0 at *
  generalize x.fls = fl at *
  go_enter Tryz.func8, Tryz.ntmps8
  go_upto_region 1 with fail
  rw [← e2]
  clear e2
  go_upto_region 3 with fail
  go_upto_region 4 with (first
    | (go_at_call 18; refine SP2.mono ?_; rintro r w3 ⟨g, rfl, k3, hb3⟩; have EC := HEV.out w3 g k3 hb3; have H3 := hid k3; clear k3 hb3 SP2 HEV)
    | (go_at_call 17; refine EC.mono ?_; rintro r w4 ⟨ya, yc, rfl, ir4, k4⟩; have H4 := hid (And.intro ir4 (H3.out.trans k4 (fun _ e => e.elim))); clear k4 ir4 EC)
    | (refine l_make 4 rfl rfl (er_alI rfl) ?_)
    | (refine l_turn rfl rfl (er_stI _ _ rfl w4.heap.size (x.val ya yc) _ rfl rfl (alloc_new w4 _) rfl rfl (x.val_one ya yc)) ?_))
  obtain ⟨w5, e5⟩ : ∃ w5, w5 = (w4.alloc (.cells Z7 25)).setRow w4.heap.size (x.val ya yc) := ⟨_, rfl⟩
  have K45 : Kept No w4 w5 := by rw [e5]; exact ((Kept.refl No w4).alloc _).setRow (.inr (Nat.le_refl _)) _
  have B5 : w5.heap[w4.heap.size]? = some (.cells (x.val ya yc) 25) := by rw [e5]; exact setRow_heap _ _ _ _ _ (0, 0) (alloc_new w4 _)
  rw [← e5]
  clear e5
  have K5 := H4.out.2.trans K45 (fun _ e => e.elim)
  have LD : Hid (∀ W, Kept No w5 W → (Instr.loadAt 25 (.pointer (some ⟨w4.heap.size, 0, none⟩))).run Tryz.prog W = .ok (.agg (x.val ya yc)) W) := fun W q => ldI (o := 0) (x := x) (da := ya) (dc := yc) (fun j v hv => by rw [Nat.zero_add]; exact q.cell (by rw [cell_blk B5, ← Array.getElem?_toList]; exact hv) (fun e => e))
  have SC := HSH.out ya yc w5 K5 (H4.out.1.keep K45).any
  have H5 := hid (And.intro K5 (And.intro (H4.out.1.keep K45) H3.out.size))
  clear K5 B5 HSH H3 H4 K45
  go_upto_region 5 with (first
    | (refine l_take 15 rfl rfl (er_ldX 25 (.tmp 4) rfl (.pointer (some ⟨w4.heap.size, 0, none⟩)) (.agg (x.val ya yc)) rfl (LD.out _ (Kept.refl _ _))) ?_)
    | (go_at_call 7; refine SC.mono ?_; rintro r w6 ⟨rfl, k6⟩; have H6 := hid k6; clear k6 SC))
  have HB6 := hid (H6.out.at' (H5.out.1.at' HH.out.2 (fun e => e)) (fun e => e))
  go_wp2_with (first
    | (refine l_take 27 rfl rfl (er_ldX 25 (.tmp 4) rfl (.pointer (some ⟨w4.heap.size, 0, none⟩)) (.agg (x.val ya yc)) rfl (LD.out _ H6.out)) ?_)
    | (refine l_turn rfl rfl (er_stI _ _ rfl w.heap.size (x.val ya yc) _ rfl rfl HB6.out rfl rfl (x.val_one ya yc)) ?_))
  have hfin := setRow_heap w6 w.heap.size Z7 (x.val ya yc) 25 (0, 0) HB6.out
  have kq : Kept (fun b => b = w.heap.size) w6 (w6.setRow w.heap.size (x.val ya yc)) := (Kept.refl (fun b => b = w.heap.size) w6).setRow (.inl rfl) _
  refine bodyPost_ret (results_ct rfl _ _ w.heap.size (.agg (x.val ya yc)) rfl (run_loadVar_row (P := Tryz.prog) _ w.heap.size 25 25 _ (0, 0) _ hfin Tryz.underlying25 rfl (by kernel_rfl))) rfl ?_
  exact ⟨⟨ya, yc, rfl, ((H5.out.2.1.keep H6.out).kept kq (fun b hb e => by have h1 := HLT.out; have h2 := H5.out.2.2; have h3 : w3.heap.size ≤ b := hb; omega)).any⟩, ((HH.out.1.trans H5.out.1 (fun _ e => e.elim)).trans H6.out (fun _ e => e.elim)).setRow (.inr (Nat.le_refl _)) _⟩
end Go.Proofs.YtjhhldgbllbbhaaGreatDoor
