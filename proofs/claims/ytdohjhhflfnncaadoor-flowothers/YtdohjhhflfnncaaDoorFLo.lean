/-
  FlowOthers.
-/
import Derived.Test.YtdohjhhflfnncaaDoorFLq
namespace Go.Proofs.YtdohjhhflfnncaaDoor
open Go.RowKit
set_option linter.unusedVariables false
set_option linter.unusedSimpArgs false
set_option maxRecDepth 100000

set_option maxHeartbeats 16000000 in
theorem others_law {F : Nat → Prop} {a0 a1 a2 : Option Addr} {n0 c0 n1 c1 n c : Nat} {pts : List Pn} {ps : List Po} {L : List Ch} (w : World) (en : En w) (p q : Int) (hp : I6 p) (hq' : I6 q) (hpt : Ls 21 elPn w F a0 n0 c0 pts) (hq : Ls 6 elPo w F a1 n1 c1 ps) (hc : Ls 5 elCh w F a2 n c L) (hFl : ∀ k, F k → k < w.heap.size) (W : Array Value) (hW : W.size = 21) (hW1 : W.all (·.oneCell') = true) (hbd : ∀ x ∈ pts, (x.code.length + 1) * 8 ≤ 140737488355328) :
    Calls Tryd.prog 3 #[.agg #[.slice a0 n0 c0, .slice a1 n1 c1, .slice a2 n c], .int .i64 p, .int .i64 q, .agg W] w fun e w' => e = .returned (.bool true) ∧ Kept No w w' := by
  have k0 : Kept No w ((w.alloc (.cells #[.slice a0 n0 c0, .slice a1 n1 c1, .slice a2 n c] 26)).alloc (.cells W 37)) := ((Kept.refl No w).alloc _).alloc _
  have hb1 := three (((Kept.refl No _).alloc (.cells W 37)).at' (alloc_new w (.cells #[.slice a0 n0 c0, .slice a1 n1 c1, .slice a2 n c] 26)) (fun h => h))
  have hbW : ((w.alloc (.cells #[.slice a0 n0 c0, .slice a1 n1 c1, .slice a2 n c] 26)).alloc (.cells W 37)).heap[w.heap.size + 1]? = some (.cells W 37) := by
    have := alloc_new (w.alloc (.cells #[.slice a0 n0 c0, .slice a1 n1 c1, .slice a2 n c] 26)) (.cells W 37)
    rw [World.size_alloc] at this
    exact this
  obtain ⟨x0, x1, x2⟩ := hb1
  have cT := trimmed_any _ hpt.cap hpt.max hpt.nil (hq.kept k0 (fun _ _ h => h) (elPo_kept k0 (fun _ _ h => h))) (hc.kept k0 (fun _ _ h => h) (elCh_kept k0 (fun _ _ h => h))) (fun k h => by have := hFl k h; have := k0.size; omega)
  obtain ⟨N, hN⟩ : ∃ N, min n0 40 = N := ⟨_, rfl⟩
  have hN40 : N ≤ 40 := by omega
  obtain ⟨AS, hAS, hel⟩ := each_A (hpt.take (m := N) (by omega))
  have HA : Hid (Ls 21 elA w F a0 N c0 AS ∧ ∀ (i : Nat) (A : Array Value), AS[i]? = some A → ∃ x, elPn w F A.toList x ∧ (x.code.length + 1) * 8 ≤ 140737488355328) := ⟨hAS, fun i A hA => by obtain ⟨x, hx, hE⟩ := hel i A hA; exact ⟨x, hE, hbd x (List.mem_of_mem_take hx)⟩⟩
  have HP : Hid (I6 p ∧ I6 q) := ⟨hp, hq'⟩
  have HW : Hid (W.size = 21 ∧ W.all (·.oneCell') = true) := ⟨hW, hW1⟩
  have HE0 : Hid (En w ∧ Kept No w ((w.alloc (.cells #[.slice a0 n0 c0, .slice a1 n1 c1, .slice a2 n c] 26)).alloc (.cells W 37)) ∧ ((w.alloc (.cells #[.slice a0 n0 c0, .slice a1 n1 c1, .slice a2 n c] 26)).alloc (.cells W 37)).heap[w.heap.size + 1]? = some (.cells W 37) ∧ (∀ k, F k → k < w.heap.size)) := ⟨en, k0, hbW, hFl⟩
  clear hq hc hFl en k0 hbW hp hq' hpt hAS hel hbd hW hW1
  go_enter Tryd.func3, Tryd.ntmps3
  go_upto_region 2 with (go_at_call 4; refine cT.mono ?_; rintro e w1 ⟨b2, m2, d2, rfl, hq1, hc1, k1⟩; have HT := hid (⟨hq1, hc1, HE0.out.2.1.trans k1 (fun _ h => .inl h), k1.at' HE0.out.2.2.1 (fun h => h)⟩ : _ ∧ _ ∧ Kept No w w1 ∧ w1.heap[w.heap.size + 1]? = some (.cells W 37)); clear hq1 hc1 k1 cT x0 x1 x2)
  obtain ⟨M1, hM1⟩ : ∃ M1, min n1 70 = M1 := ⟨_, rfl⟩
  rw [hM1] at HT
  rw [hM1]
  clear hN hM1
  have rd1 := trm_rd HT.out.1 HT.out.2.1 hN40
  have k2 : Kept No w1 (w1.alloc (.cells #[.slice a0 N c0, .slice a1 M1 c1, .slice b2 m2 d2] 26)) := (Kept.refl No w1).alloc _
  have hb2 := alloc_new w1 (.cells #[.slice a0 N c0, .slice a1 M1 c1, .slice b2 m2 d2] 26)
  have rd2 := rd1.kept k2 (fun _ _ h => h)
  obtain ⟨bx, hbx⟩ : ∃ bx, w1.heap.size = bx := ⟨_, rfl⟩
  obtain ⟨bw, hbw⟩ : ∃ bw, w.heap.size + 1 = bw := ⟨_, rfl⟩
  have hlo : w.heap.size ≤ bx := by rw [← hbx]; exact HT.out.2.2.1.size
  have hne : bw ≠ bx := fun e => by have := (Array.getElem?_eq_some_iff.1 HT.out.2.2.2).1; omega
  rw [hbx] at hb2
  rw [hbw] at HT ⊢
  rw [hbx]
  have HC : Hid (Rd (w1.alloc (.cells #[.slice a0 N c0, .slice a1 M1 c1, .slice b2 m2 d2] 26)) (fun k => F k ∨ ((w.alloc (.cells #[.slice a0 n0 c0, .slice a1 n1 c1, .slice a2 n c] 26)).alloc (.cells W 37)).heap.size ≤ k) a1 M1 c1 b2 m2 d2 N (ps.take 70) (trmL L) ∧ Kept No w (w1.alloc (.cells #[.slice a0 N c0, .slice a1 M1 c1, .slice b2 m2 d2] 26)) ∧ (w1.alloc (.cells #[.slice a0 N c0, .slice a1 M1 c1, .slice b2 m2 d2] 26)).heap[bx]? = some (.cells #[.slice a0 N c0, .slice a1 M1 c1, .slice b2 m2 d2] 26) ∧ (w1.alloc (.cells #[.slice a0 N c0, .slice a1 M1 c1, .slice b2 m2 d2] 26)).heap[bw]? = some (.cells W 37) ∧ En w ∧ w.heap.size + 1 = bw ∧ (∀ k, F k → k < w.heap.size)) := ⟨rd2, HT.out.2.2.1.trans k2 (fun _ h => .inl h), hb2, k2.at' HT.out.2.2.2 (fun h => h), HE0.out.1, hbw, HE0.out.2.2.2⟩
  generalize w1.alloc (.cells #[.slice a0 N c0, .slice a1 M1 c1, .slice b2 m2 d2] 26) = w2 at *
  clear rd1 rd2 k2 hb2 HE0 HT hbw hbx w1
  obtain ⟨x0, x1, x2⟩ := three HC.out.2.2.1
  have hcapN := HA.out.1.cap
  by_cases hin : (1 ≤ p ∧ p ≤ (N : Int)) ∧ (1 ≤ q ∧ q ≤ (N : Int))
  · obtain ⟨⟨hp1, hp2⟩, hq1, hq2⟩ := hin
    obtain ⟨I, hI⟩ : ∃ I : Nat, p = (I : Int) + 1 := ⟨(p - 1).toNat, by omega⟩
    obtain ⟨J, hJ⟩ : ∃ J : Nat, q = (J : Int) + 1 := ⟨(q - 1).toNat, by omega⟩
    subst hI hJ
    have hIN : I < N := by omega
    have hJN : J < N := by omega
    have t1 : ¬ (I : Int) + 1 < 1 := by omega
    have t2 : ¬ (I : Int) + 1 > (N : Int) := by omega
    have t3 : ¬ (J : Int) + 1 < 1 := by omega
    have t4 : ¬ (J : Int) + 1 > (N : Int) := by omega
    have cS := sources_yes (a0 := a0) (c0 := c0) (i := I) w2 HC.out.1 hIN
    have hin := srcL_in (E := edg N (ps.take 70) (trmL L)) (n := N) (i := I)
    obtain ⟨zs, hzs⟩ : ∃ zs, srcL (edg N (ps.take 70) (trmL L)) N I = zs := ⟨_, rfl⟩
    rw [hzs] at cS hin
    go_upto_region 8 with (go_at_call 6; refine cS.mono ?_; rintro e w3 ⟨va, vc, rfl, ho, k3⟩; have HZ := hid (⟨ho, k3⟩ : _ ∧ Kept No w2 w3); clear ho k3 cS x0 x1 x2)
    obtain ⟨va', vc', hv', hZs⟩ := Zs.of_owns HZ.out.1
    injection hv' with e1 e2 e3
    subst e1 e3
    clear e2
    have hzc := hZs.cap
    have hzm := hZs.max
    go_loopw [13, 14] (fun y z wr => ∃ i : Nat, y = .bool ((zs.take i).any (· == (J : Int) + 1)) ∧ z = .int .i64 i ∧ i ≤ zs.length ∧ wr = w3) (fun y z _ => zs.length - (intOf z).toNat)
    case atStart => exact ⟨0, by simp, rfl, Nat.zero_le _, rfl⟩
    case round =>
      obtain ⟨i, rfl, rfl, hi, rfl⟩ := hrel
      by_cases hlt : i < zs.length
      · have hiz : (i : Int) < (zs.length : Int) := by omega
        obtain ⟨vb, vo, rfl, _, hcell⟩ := hZs.at' i hlt
        rw [iv] at hcell
        have hstep : (zs.take (i + 1)).any (· == (J : Int) + 1) = ((zs.take i).any (· == (J : Int) + 1) || (zs.getD i 0 == (J : Int) + 1)) := by
          rw [List.take_add_one, List.any_append, List.getElem?_eq_getElem hlt]
          simp [List.getD, List.getElem?_eq_getElem hlt]
        obtain ⟨S0, hS0⟩ : ∃ S0, (zs.take i).any (· == (J : Int) + 1) = S0 := ⟨_, rfl⟩
        rw [hS0] at hstep ⊢
        obtain ⟨z, hz⟩ : ∃ z, zs.getD i 0 = z := ⟨_, rfl⟩
        rw [hz] at hstep hcell
        clear hz hS0
        have HS := hid hstep
        clear hstep
        cases S0 with
        | true =>
          go_wp2
          go_roundw
          case rel => exact ⟨i + 1, by rw [HS.out]; rfl, by go_num, by omega, by first | rfl | trivial⟩
          case measure => simp [intOf]; omega
        | false =>
          by_cases hzq : z = (J : Int) + 1
          · go_wp2
            go_roundw
            case rel => exact ⟨i + 1, by rw [HS.out]; simp [hzq], by go_num, by omega, by first | rfl | trivial⟩
            case measure => simp [intOf]; omega
          · go_wp2
            go_roundw
            case rel => exact ⟨i + 1, by rw [HS.out]; simp [hzq], by go_num, by omega, by first | rfl | trivial⟩
            case measure => simp [intOf]; omega
      · have hiz : ¬ (i : Int) < (zs.length : Int) := by omega
        have hie : i = zs.length := by omega
        rw [hie, List.take_length]
        rw [hie] at hiz
        clear hlt hi hie i
        obtain ⟨S, hS⟩ : ∃ S, zs.any (· == (J : Int) + 1) = S := ⟨_, rfl⟩
        rw [hS]
        have hbx3 := HZ.out.2.at' HC.out.2.2.1 (fun h => h)
        have k4 : Kept No wr (wr.alloc (.cells #[.slice a0 N c0, .slice a1 M1 c1, .slice b2 m2 d2] 26)) := (Kept.refl No wr).alloc _
        have hb4 := alloc_new wr (.cells #[.slice a0 N c0, .slice a1 M1 c1, .slice b2 m2 d2] 26)
        obtain ⟨x0, x1, x2⟩ := three hbx3
        obtain ⟨by', hby⟩ : ∃ b, wr.heap.size = b := ⟨_, rfl⟩
        rw [hby] at hb4
        have hy2 : w2.heap.size ≤ by' := by rw [← hby]; exact HZ.out.2.size
        have hyx : by' ≠ bx := fun e => by have := (Array.getElem?_eq_some_iff.1 hbx3).1; omega
        have hyw : by' ≠ bw := fun e => by have := (Array.getElem?_eq_some_iff.1 (HZ.out.2.at' HC.out.2.2.2.1 (fun h => h))).1; omega
        go_upto_region 13 with fail
        have kw4 := (HC.out.2.1.trans HZ.out.2 (fun _ h => .inl h)).trans k4 (fun _ h => .inl h)
        have H4 : Hid ((wr.alloc (.cells #[.slice a0 N c0, .slice a1 M1 c1, .slice b2 m2 d2] 26)).heap[bx]? = some (.cells #[.slice a0 N c0, .slice a1 M1 c1, .slice b2 m2 d2] 26) ∧ (wr.alloc (.cells #[.slice a0 N c0, .slice a1 M1 c1, .slice b2 m2 d2] 26)).heap[by']? = some (.cells #[.slice a0 N c0, .slice a1 M1 c1, .slice b2 m2 d2] 26) ∧ (wr.alloc (.cells #[.slice a0 N c0, .slice a1 M1 c1, .slice b2 m2 d2] 26)).heap[bw]? = some (.cells W 37) ∧ Kept No w (wr.alloc (.cells #[.slice a0 N c0, .slice a1 M1 c1, .slice b2 m2 d2] 26)) ∧ Kept No w2 (wr.alloc (.cells #[.slice a0 N c0, .slice a1 M1 c1, .slice b2 m2 d2] 26))) := ⟨k4.at' hbx3 (fun h => h), hb4, k4.at' (HZ.out.2.at' HC.out.2.2.2.1 (fun h => h)) (fun h => h), kw4, HZ.out.2.trans k4 (fun _ h => .inl h)⟩
        generalize wr.alloc (.cells #[.slice a0 N c0, .slice a1 M1 c1, .slice b2 m2 d2] 26) = w4 at *
        clear hbx3 k4 hb4 x0 x1 x2 kw4 hby HZ hZs
        obtain ⟨x0, x1, x2⟩ := three H4.out.1
        go_upto_region 14 with (refine wpList_appP rfl (.tmp 69) (.tmp 71) rfl rfl a0 N c0 AS rfl (HA.out.1.kept H4.out.2.2.2.1 (fun _ _ h => h) (elA_kept H4.out.2.2.2.1 (fun _ _ h => h))) (by omega) (by omega) ?_; intro g cap w5 hR hg hca hcb hK)
        have H5 : Hid (w5.heap[bx]? = some (.cells #[.slice a0 N c0, .slice a1 M1 c1, .slice b2 m2 d2] 26) ∧ w5.heap[by']? = some (.cells #[.slice a0 N c0, .slice a1 M1 c1, .slice b2 m2 d2] 26) ∧ w5.heap[bw]? = some (.cells W 37) ∧ Kept No w w5 ∧ Kept No w2 w5 ∧ Rws w5 g AS) := ⟨hK.out.at' H4.out.1 (fun h => h), hK.out.at' H4.out.2.1 (fun h => h), hK.out.at' H4.out.2.2.1 (fun h => h), H4.out.2.2.2.1.trans hK.out (fun _ h => .inl h), H4.out.2.2.2.2.trans hK.out (fun _ h => .inl h), hR.out⟩
        have hgx : bx < g := Nat.lt_of_lt_of_le (Array.getElem?_eq_some_iff.1 H4.out.1).1 hg
        have hgy : by' < g := Nat.lt_of_lt_of_le (Array.getElem?_eq_some_iff.1 H4.out.2.1).1 hg
        have hgw : bw < g := Nat.lt_of_lt_of_le (Array.getElem?_eq_some_iff.1 H4.out.2.2.1).1 hg
        have hg2 : w2.heap.size ≤ g := Nat.le_trans H4.out.2.2.2.2.size hg
        have hg5 : g < w5.heap.size := by
          obtain ⟨u, hu⟩ := Option.isSome_iff_exists.1 (hR.out.thereAt (j := J) (by rw [HA.out.1.len]; exact hJN) 0 (by omega)).1
          exact World.block_lt_of_cell? w5 _ hu
        obtain ⟨A, hA⟩ : ∃ A, AS[J]? = some A := ⟨_, List.getElem?_eq_getElem (by rw [HA.out.1.len]; exact hJN)⟩
        obtain ⟨hrA, hsA, hoA⟩ := H5.out.2.2.2.2.2.row J A hA
        clear hR hK hg H4 x0 x1 x2
        cases S with
        | true =>
          have LA : Hid ((Instr.loadAt 37 (.pointer (some ⟨g, J * 21, none⟩))).run Tryd.prog w5 = .ok (.agg A) w5) := ldA hrA hsA
          have HJ : Hid (AS[J]? = some A ∧ A.size = 21 ∧ A.all (·.oneCell') = true) := ⟨hA, hsA, hoA⟩
          clear hA hrA hsA hoA
          go_upto_region 16 with (first
            | (refine l_take 78 rfl rfl (er_ldX 37 (.tmp 77) rfl (.pointer (some ⟨g, J * 21, none⟩)) (.agg A) rfl LA.out) ?_)
            | (refine l_make 17 rfl rfl (er_alP rfl) ?_)
            | (refine wpList_store_row rfl 37 (.tmp 17) (.tmp 78) rfl w5.heap.size A rfl rfl _ Z21 (alloc_new w5 _) (by rw [HJ.out.2.1]; exact Tryd.infoPt) (by rw [HJ.out.2.1]; rfl) HJ.out.2.2 ?_))
          obtain ⟨xn, hxn, hbn⟩ := HA.out.2 J A HJ.out.1
          obtain ⟨⟨ca0, cn0, cc0, ca, cn, cc, ca2, cn2, cc2, ca3, cn3, cc3, ca4, cn4, cc4, ca5, cn5, cc5, hl, _, hcode, _⟩, _⟩ := id hxn
          have hA7 : A[7]? = some (.slice ca cn cc) := arr_at hl 7
          have hcn := hcode.len
          clear hl
          have k6 : Kept No w5 ((w5.alloc (.cells Z21 37)).setRow w5.heap.size A) := ((Kept.refl No w5).alloc _).setRow (.inr (Nat.le_refl _)) _
          have b6 : ((w5.alloc (.cells Z21 37)).setRow w5.heap.size A).heap[w5.heap.size]? = some (.cells A 37) := setRow_heap _ _ Z21 _ _ (0, 0) (alloc_new w5 _)
          obtain ⟨q, hq⟩ : ∃ q, w5.heap.size = q := ⟨_, rfl⟩
          rw [hq] at k6 b6 ⊢
          generalize (w5.alloc (.cells Z21 37)).setRow q A = w6 at *
          have kw6 := H5.out.2.2.2.1.trans k6 (fun _ h => .inl h)
          have x7 : w6.cell? ⟨q, 7, none⟩ = some (.slice ca cn cc) := by rw [cell_blk b6]; exact hA7
          have HL := hid (hcode.kept kw6 (fun _ _ h => h) (elIns_kept kw6 (fun _ _ h => h)))
          have H6 : Hid (Kept No w5 w6 ∧ w6.heap[q]? = some (.cells A 37) ∧ elPn w F A.toList xn ∧ A[7]? = some (.slice ca cn cc)) := ⟨k6, b6, hxn, hA7⟩
          have hq6 : q < w6.heap.size := (Array.getElem?_eq_some_iff.1 b6).1
          clear k6 b6 hxn kw6 hcode LA hA7
          go_upto_region 18 with (refine wpList_appI0 rfl (.tmp 79) (.tmp 81) rfl rfl ca cn cc xn.code rfl HL.out (by omega) ?_; intro ya yc us w7 hO hK7)
          have kI : Kept No w7 (w7.alloc (.cells #[.int .u8 1, .int .u8 0, .int .u8 0, .int .u8 0, .int .i32 0] 45)) := (Kept.refl No w7).alloc _
          have hO' := hid (kI.owns hO.out (fun _ _ h => h))
          have hs7 : w6.heap.size ≤ (w7.alloc (.cells #[.int .u8 1, .int .u8 0, .int .u8 0, .int .u8 0, .int .i32 0] 45)).heap.size := by have := kI.size; have := hK7.out.size; omega
          have hne7 : ∀ k, (Value.slice ya cn yc).ownBlock = some k → w6.heap.size ≤ k := fun k e => (owns_at hO.out e).1
          go_upto_region 19 with (first
            | (refine wpList_appI1 rfl (.tmp 83) (.tmp 85) rfl w6.heap.size (.slice ya cn yc) cn us rfl hO'.out hs7 #[.int .u8 1, .int .u8 0, .int .u8 0, .int .u8 0, .int .i32 0] ⟨w7.heap.size, 0, none⟩ rfl rfl (news_alloc w7 _ _) (by simp [Value.oneCell']) (by omega) ?_; intro za zc w8 hK8; have b8 : w8.heap[q]? = some (.cells A 37) := hK8.out.at' (kI.at' (hK7.out.at' H6.out.2.1 (fun h => h)) (fun h => h)) (fun e => by have := hne7 q e; omega); have y7 : w8.cell? ⟨q, 7, none⟩ = some (.slice ca cn cc) := (by rw [cell_blk b8]; exact H6.out.2.2.2); have f7 : w8.frozen? ⟨q, 7, none⟩ = false := fz_blk b8 _))
          have b9 := set_blk b8 7 (.slice za (cn + 1) zc)
          have k9 : Kept No w5 (w8.setCell ⟨q, 7, none⟩ (.slice za (cn + 1) zc)) := ((((H6.out.1.trans hK7.out (fun _ h => .inl h)).trans kI (fun _ h => .inl h)).trans hK8.out (fun k e => .inr (by have := hne7 k e; have := H6.out.1.size; omega))).setCell (p := ⟨q, 7, none⟩) (.inr (by rw [hq]; exact Nat.le_refl _)) _)
          obtain ⟨A', hA'⟩ : ∃ A', A.setIfInBounds 7 (.slice za (cn + 1) zc) = A' := ⟨_, rfl⟩
          have hs' : A'.size = 21 := by rw [← hA', Array.size_setIfInBounds]; exact HJ.out.2.1
          have ho' : A'.all (·.oneCell') = true := by
            rw [← hA']
            refine Array.all_eq_true_iff_forall_mem.2 fun v hv => ?_
            rcases Array.mem_or_eq_of_mem_setIfInBounds hv with h | h
            · exact Array.all_eq_true_iff_forall_mem.1 HJ.out.2.2 v h
            · rw [h]; rfl
          have hTw : Tw w F A A' xn := ⟨HJ.out.2.1, hs', H6.out.2.2.1, fun k hk => by rw [← hA', Array.getElem?_setIfInBounds_ne (Ne.symm hk)]⟩
          have h7' : A'[7]? = some (.slice za (cn + 1) zc) := by rw [← hA', Array.getElem?_setIfInBounds_self_of_lt (by rw [HJ.out.2.1]; omega)]
          rw [hA'] at b9
          clear hA'
          generalize w8.setCell ⟨q, 7, none⟩ (.slice za (cn + 1) zc) = w9 at *
          have R9 := H5.out.2.2.2.2.2.kept k9 (fun h => h)
          have hJA : J < AS.length := by rw [HA.out.1.len]; exact hJN
          have H9 : Hid (Kept No w5 w9 ∧ w9.heap[q]? = some (.cells A' 37) ∧ A'.size = 21 ∧ A'.all (·.oneCell') = true ∧ Tw w F A A' xn ∧ A'[7]? = some (.slice za (cn + 1) zc) ∧ Rws w9 g AS) := ⟨k9, b9, hs', ho', hTw, h7', R9⟩
          have t9 : Hid (w9.there g (J * 21) A'.size) := by rw [hs']; exact R9.thereAt hJA
          clear k9 b9 hs' ho' hTw h7' R9 hO hO' hK7 hK8 b8 y7 f7 kI hs7 hne7 x7 HL H6
          go_upto_region 22 with (first
            | (refine l_take 91 rfl rfl (er_ldP _ rfl q A' rfl H9.out.2.1 H9.out.2.2.1) ?_)
            | (refine wpList_store_mid rfl 37 (.tmp 92) (.tmp 91) rfl g (J * 21) A' rfl rfl t9.out (by rw [H9.out.2.2.1]; kernel_rfl) H9.out.2.2.2.1 ?_))
          have k10 : Kept (fun k => k = g) w9 (w9.setCells g (J * 21) A'.toList) := setCells_keptB _ _ _ _
          have R10 := H9.out.2.2.2.2.2.2.set hJA H9.out.2.2.1 H9.out.2.2.2.1
          have b10x := k10.at' (H9.out.1.at' H5.out.1 (fun h => h)) (fun e => by omega)
          have b10y := k10.at' (H9.out.1.at' H5.out.2.1 (fun h => h)) (fun e => by omega)
          have kw10 := (H5.out.2.2.2.1.trans H9.out.1 (fun _ h => .inl h)).trans k10 (fun k e => .inr (by omega))
          have kv10 := (H5.out.2.2.2.2.1.trans H9.out.1 (fun _ h => .inl h)).trans k10 (fun k e => .inr (by omega))
          have h7' : (A'[7]? = some (.slice za (cn + 1) zc)) ∧ cn + 1 ≠ xn.code.length ∧ AS[J]? = some A ∧ Tw w F A A' xn := ⟨H9.out.2.2.2.2.2.1, by omega, HJ.out.1, H9.out.2.2.2.2.1⟩
          have HSV := hid h7'
          clear h7' k10 t9 H9 H5 HJ
          generalize w9.setCells g (J * 21) A'.toList = w10 at *
          have y0 : w10.cell? ⟨by', 0, none⟩ = some (.slice a0 N c0) := (three b10y).1
          have fy : w10.frozen? ⟨by', 0, none⟩ = false := fz_blk b10y _
          go_upto_region 23 with fail
          have b11y := set_blk b10y 0 (.slice (some ⟨g, 0, none⟩) N cap)
          have k11 : Kept (fun k => k = by') w10 (w10.setCell ⟨by', 0, none⟩ (.slice (some ⟨g, 0, none⟩) N cap)) := (Kept.refl (fun k => k = by') w10).setCell (p := ⟨by', 0, none⟩) (.inl rfl) _
          have R11 := R10.kept k11 (fun e => by omega)
          have kw11 := kw10.trans k11 (fun k e => .inr (by have := HC.out.2.1.size; omega))
          have kv11 := kv10.trans k11 (fun k e => .inr (by omega))
          have b11x := k11.at' b10x (fun e => by omega)
          generalize w10.setCell ⟨by', 0, none⟩ (.slice (some ⟨g, 0, none⟩) N cap) = w11 at *
          rw [show (#[.slice a0 N c0, .slice a1 M1 c1, .slice b2 m2 d2] : Array Value).setIfInBounds 0 (.slice (some ⟨g, 0, none⟩) N cap) = #[.slice (some ⟨g, 0, none⟩) N cap, .slice a1 M1 c1, .slice b2 m2 d2] from rfl] at b11y
          have hl11 := R11.ls (c := cap) (by rw [List.length_set, HA.out.1.len]; exact hca) hcb
          rw [List.length_set, HA.out.1.len] at hl11
          have H11 : Hid (w11.heap[bx]? = some (.cells #[.slice a0 N c0, .slice a1 M1 c1, .slice b2 m2 d2] 26) ∧ w11.heap[by']? = some (.cells #[.slice (some ⟨g, 0, none⟩) N cap, .slice a1 M1 c1, .slice b2 m2 d2] 26) ∧ Kept No w w11 ∧ Kept No w2 w11 ∧ Ls 21 elA w11 (fun k => k = g) (some ⟨g, 0, none⟩) N cap (AS.set J A')) := ⟨b11x, b11y, kw11, kv11, hl11⟩
          clear b10x b10y b11x b11y kw10 kv10 kw11 kv11 k11 R10 R11 hl11 y0 fy
          have cv1 := fun (v : World) (K : Kept No w11 v) => alike_self (I := I) (w := v) (HA.out.1.kept (H11.out.2.2.1.trans K (fun _ h => .inl h)) (fun _ _ h => h) (elA_kept (H11.out.2.2.1.trans K (fun _ h => .inl h)) (fun _ _ h => h))) (fun i B hB => by obtain ⟨x, hx, _⟩ := HA.out.2 i B hB; exact ⟨x, elPn_kept (H11.out.2.2.1.trans K (fun _ h => .inl h)) (fun _ _ h => h) _ _ hx⟩) (HC.out.1.kept (H11.out.2.2.2.1.trans K (fun _ h => .inl h)) (fun _ _ h => h)) hIN
          have cv2 := fun (v : World) (K : Kept No w11 v) => alike_set (I := I) (J := J) (C := A') (w := v) (HA.out.1.kept (H11.out.2.2.1.trans K (fun _ h => .inl h)) (fun _ _ h => h) (elA_kept (H11.out.2.2.1.trans K (fun _ h => .inl h)) (fun _ _ h => h))) (fun i B hB => by obtain ⟨x, hx, _⟩ := HA.out.2 i B hB; exact ⟨x, elPn_kept (H11.out.2.2.1.trans K (fun _ h => .inl h)) (fun _ _ h => h) _ _ hx⟩) (H11.out.2.2.2.2.kept K (fun _ _ h => h) (elA_kept K (fun _ _ h => h))) (HC.out.1.kept (H11.out.2.2.2.1.trans K (fun _ h => .inl h)) (fun _ _ h => h)) hIN
            (fun B hB W' K' => by rw [HSV.out.2.2.1] at hB; injection hB with hB; subst hB; exact (HSV.out.2.2.2.kept ((H11.out.2.2.1.trans K (fun _ h => .inl h)).trans K' (fun _ h => .inl h))).server)
            (fun _ B hB W' K' => by rw [HSV.out.2.2.1] at hB; injection hB with hB; subst hB; exact samePart_no W' (HSV.out.2.2.2.kept ((H11.out.2.2.1.trans K (fun _ h => .inl h)).trans K' (fun _ h => .inl h))) HSV.out.1 HSV.out.2.1)
          have cv3 := fun (v : World) (K : Kept No w11 v) => alike_setr (I := I) (J := J) (C := A') (w := v) (HA.out.1.kept (H11.out.2.2.1.trans K (fun _ h => .inl h)) (fun _ _ h => h) (elA_kept (H11.out.2.2.1.trans K (fun _ h => .inl h)) (fun _ _ h => h))) (fun i B hB => by obtain ⟨x, hx, _⟩ := HA.out.2 i B hB; exact ⟨x, elPn_kept (H11.out.2.2.1.trans K (fun _ h => .inl h)) (fun _ _ h => h) _ _ hx⟩) (H11.out.2.2.2.2.kept K (fun _ _ h => h) (elA_kept K (fun _ _ h => h))) (HC.out.1.kept (H11.out.2.2.2.1.trans K (fun _ h => .inl h)) (fun _ _ h => h)) hIN
            (fun B hB W' K' => by rw [HSV.out.2.2.1] at hB; injection hB with hB; subst hB; exact (HSV.out.2.2.2.kept ((H11.out.2.2.1.trans K (fun _ h => .inl h)).trans K' (fun _ h => .inl h))).serverr)
            (fun _ B hB W' K' => by rw [HSV.out.2.2.1] at hB; injection hB with hB; subst hB; exact samePart_nor W' (HSV.out.2.2.2.kept ((H11.out.2.2.1.trans K (fun _ h => .inl h)).trans K' (fun _ h => .inl h))) HSV.out.1 HSV.out.2.1)
          rw [hzs, hS] at cv2 cv3
          obtain ⟨x0, x1, x2⟩ := three H11.out.1
          have c1' := cv1 w11 (Kept.refl _ _)
          go_upto_region 24 with (go_at_call 7; refine c1'.mono ?_; rintro e w12 ⟨rfl, k12⟩; have H12 : Hid (Kept No w11 w12) := k12; clear k12 c1' cv1 x0 x1 x2)
          obtain ⟨x0, x1, x2⟩ := three (H12.out.at' H11.out.1 (fun h => h))
          obtain ⟨y0, y1, y2⟩ := three (H12.out.at' H11.out.2.1 (fun h => h))
          have c2' := cv2 w12 H12.out
          go_upto_region 25 with (go_at_call 7; refine c2'.mono ?_; rintro e w13 ⟨rfl, k13⟩; have H13 : Hid (Kept No w11 w13) := H12.out.trans k13 (fun _ h => .inl h); clear k13 c2' cv2 x0 x1 x2 y0 y1 y2)
          obtain ⟨x0, x1, x2⟩ := three (H13.out.at' H11.out.1 (fun h => h))
          obtain ⟨y0, y1, y2⟩ := three (H13.out.at' H11.out.2.1 (fun h => h))
          have c3' := cv3 w13 H13.out
          go_upto_region 26 with (go_at_call 7; refine c3'.mono ?_; rintro e w14 ⟨rfl, k14⟩; have H14 : Hid (Kept No w w14) := (H11.out.2.2.1.trans H13.out (fun _ h => .inl h)).trans k14 (fun _ h => .inl h); clear k14 c3' cv3 x0 x1 x2 y0 y1 y2)
          have cW := works_any w14 (HC.out.2.2.2.2.1.keep H14.out)
          go_wp2_with (go_at_call 5; refine cW.mono ?_; rintro e w15 ⟨rfl, k15⟩; have HK15 := hid (H14.out.trans k15 (fun _ h => .inl h)); clear k15 cW)
          go_ret
          exact ⟨rfl, HK15.out⟩
        | false =>
          have hJA : J < AS.length := by rw [HA.out.1.len]; exact hJN
          obtain ⟨xn, hxn, hbn⟩ := HA.out.2 J A hA
          have rW : w5.rangeAt bw 0 W.toList := fun j v hv => by rw [Nat.zero_add, cell_blk H5.out.2.2.1]; simpa using hv
          have tW : w5.there bw 0 4 := fun j hj => ⟨by rw [Nat.zero_add, cell_blk H5.out.2.2.1, Array.getElem?_eq_getElem (by rw [HW.out.1]; omega)]; rfl, fz_blk H5.out.2.2.1 _⟩
          have h4 : (A.toList.take 4).length = 4 := by rw [List.length_take, Array.length_toList, hsA]; rfl
          have L4 : Hid ((Instr.loadAt 28 (.pointer (some ⟨g, J * 21, none⟩))).run Tryd.prog w5 = .ok (.agg (A.toList.take 4).toArray) w5) := run_loadAt_mid (P := Tryd.prog) w5 g (J * 21) 28 (A.toList.take 4) _ (rangeAt_take hrA 4) Tryd.underlying28 rfl (by rw [h4]; kernel_rfl)
          have V4 : Hid ((A.toList.take 4).toArray.size = 4 ∧ (A.toList.take 4).toArray.all (·.oneCell') = true ∧ w5.there bw 0 (A.toList.take 4).toArray.size) := ⟨by rw [List.size_toArray]; exact h4, all_oneCell_toArray (fun v hv => Array.all_eq_true_iff_forall_mem.1 hoA v (by simpa using List.mem_of_mem_take hv)), by rw [List.size_toArray, h4]; exact tW⟩
          have R6 : (w5.setCells bw 0 (A.toList.take 4)).rangeAt bw 0 (srv A W).toList := by
            rw [show (srv A W).toList = A.toList.take 4 ++ W.toList.drop 4 from rfl]
            refine rangeAt_two (World.rangeAt_setCells_same _ _ _ _ (by rw [h4]; exact tW)) ?_
            rw [h4]
            exact World.rangeAt_setCells_apart (rangeAt_drop rW 4) _ _ _ (.inr (.inr (by rw [h4]; omega)))
          have k6 : Kept (fun k => k = bw) w5 (w5.setCells bw 0 (A.toList.take 4)) := setCells_keptB _ _ _ _
          have HJ : Hid (AS[J]? = some A ∧ A.size = 21 ∧ (srv A W).size = 21 ∧ (srv A W).all (·.oneCell') = true ∧ elPn w F A.toList xn) := ⟨hA, hsA, srv_size hsA HW.out.1, srv_one hoA HW.out.2, hxn⟩
          clear hA hrA hsA hoA hxn hbn rW tW h4
          generalize hV4 : (A.toList.take 4) = v4 at *
          clear hV4
          go_upto_region 21 with (first
            | (refine l_take 98 rfl rfl (er_ldX 28 (.tmp 97) rfl (.pointer (some ⟨g, J * 21, none⟩)) (.agg v4.toArray) rfl L4.out) ?_)
            | (refine wpList_store_mid rfl 28 (.tmp 99) (.tmp 98) rfl bw 0 v4.toArray rfl rfl V4.out.2.2 (by rw [V4.out.1]; kernel_rfl) V4.out.2.1 ?_))
          have b6x := k6.at' H5.out.1 (fun e => by omega)
          have b6y := k6.at' H5.out.2.1 (fun e => by omega)
          have kw6 := H5.out.2.2.2.1.trans k6 (fun k e => .inr (by have := HC.out.2.2.2.2.2.1; omega))
          have kv6 := (H5.out.2.2.2.2.1.mono (G := fun k => k = bw) (fun k h => absurd h (fun h => h))).trans k6 (fun k e => .inl e)
          have R6g := H5.out.2.2.2.2.2.kept k6 (fun e => by omega)
          generalize w5.setCells bw 0 v4 = w6 at *
          have LW : Hid ((Instr.loadAt 37 (.pointer (some ⟨bw, 0, none⟩))).run Tryd.prog w6 = .ok (.agg (srv A W)) w6) := ldA R6 HJ.out.2.2.1
          have t6 : Hid (w6.there g (J * 21) (srv A W).size) := by rw [HJ.out.2.2.1]; exact R6g.thereAt hJA
          have H6 : Hid (w6.heap[bx]? = some (.cells #[.slice a0 N c0, .slice a1 M1 c1, .slice b2 m2 d2] 26) ∧ w6.heap[by']? = some (.cells #[.slice a0 N c0, .slice a1 M1 c1, .slice b2 m2 d2] 26) ∧ Kept No w w6 ∧ Kept (fun k => k = bw) w2 w6 ∧ Rws w6 g AS) := ⟨b6x, b6y, kw6, kv6, R6g⟩
          clear b6x b6y kw6 kv6 R6g R6 k6 L4 V4 H5
          obtain ⟨A', hA'⟩ : ∃ A', srv A W = A' := ⟨_, rfl⟩
          rw [hA'] at LW t6 HJ
          go_upto_region 22 with (first
            | (refine l_take 103 rfl rfl (er_ldX 37 (.tmp 7) rfl (.pointer (some ⟨bw, 0, none⟩)) (.agg A') rfl LW.out) ?_)
            | (refine wpList_store_mid rfl 37 (.tmp 104) (.tmp 103) rfl g (J * 21) A' rfl rfl t6.out (by rw [HJ.out.2.2.1]; kernel_rfl) HJ.out.2.2.2.1 ?_))
          have k10 : Kept (fun k => k = g) w6 (w6.setCells g (J * 21) A'.toList) := setCells_keptB _ _ _ _
          have R10 := H6.out.2.2.2.2.set hJA HJ.out.2.2.1 HJ.out.2.2.2.1
          have b10x := k10.at' H6.out.1 (fun e => by omega)
          have b10y := k10.at' H6.out.2.1 (fun e => by omega)
          have kw10 := H6.out.2.2.1.trans k10 (fun k e => .inr (by omega))
          have kv10 := H6.out.2.2.2.1.trans k10 (fun k e => .inr (by omega))
          clear k10 t6 LW H6
          generalize w6.setCells g (J * 21) A'.toList = w10 at *
          have y0 : w10.cell? ⟨by', 0, none⟩ = some (.slice a0 N c0) := (three b10y).1
          have fy : w10.frozen? ⟨by', 0, none⟩ = false := fz_blk b10y _
          go_upto_region 23 with fail
          have b11y := set_blk b10y 0 (.slice (some ⟨g, 0, none⟩) N cap)
          have k11 : Kept (fun k => k = by') w10 (w10.setCell ⟨by', 0, none⟩ (.slice (some ⟨g, 0, none⟩) N cap)) := (Kept.refl (fun k => k = by') w10).setCell (p := ⟨by', 0, none⟩) (.inl rfl) _
          have R11 := R10.kept k11 (fun e => by omega)
          have kw11 := kw10.trans k11 (fun k e => .inr (by have := HC.out.2.1.size; omega))
          have kv11 := kv10.trans k11 (fun k e => .inr (by omega))
          have b11x := k11.at' b10x (fun e => by omega)
          generalize w10.setCell ⟨by', 0, none⟩ (.slice (some ⟨g, 0, none⟩) N cap) = w11 at *
          rw [show (#[.slice a0 N c0, .slice a1 M1 c1, .slice b2 m2 d2] : Array Value).setIfInBounds 0 (.slice (some ⟨g, 0, none⟩) N cap) = #[.slice (some ⟨g, 0, none⟩) N cap, .slice a1 M1 c1, .slice b2 m2 d2] from rfl] at b11y
          have hl11 := R11.ls (c := cap) (by rw [List.length_set, HA.out.1.len]; exact hca) hcb
          rw [List.length_set, HA.out.1.len] at hl11
          have rd11 := HC.out.1.kept kv11 (fun k h e => by
            have h1 := HC.out.2.2.2.2.2.1
            rcases h with h | h
            · have := HC.out.2.2.2.2.2.2 k h; omega
            · rw [World.size_alloc, World.size_alloc] at h; omega)
          have H11 : Hid (w11.heap[bx]? = some (.cells #[.slice a0 N c0, .slice a1 M1 c1, .slice b2 m2 d2] 26) ∧ w11.heap[by']? = some (.cells #[.slice (some ⟨g, 0, none⟩) N cap, .slice a1 M1 c1, .slice b2 m2 d2] 26) ∧ Kept No w w11 ∧ Rd w11 (fun k => F k ∨ ((w.alloc (.cells #[.slice a0 n0 c0, .slice a1 n1 c1, .slice a2 n c] 26)).alloc (.cells W 37)).heap.size ≤ k) a1 M1 c1 b2 m2 d2 N (ps.take 70) (trmL L) ∧ Ls 21 elA w11 (fun k => k = g) (some ⟨g, 0, none⟩) N cap (AS.set J A')) := ⟨b11x, b11y, kw11, rd11, hl11⟩
          clear b10x b10y b11x b11y kw10 kv10 kw11 kv11 k11 R10 R11 hl11 y0 fy rd11
          have cv1 := fun (v : World) (K : Kept No w11 v) => alike_self (I := I) (w := v) (HA.out.1.kept (H11.out.2.2.1.trans K (fun _ h => .inl h)) (fun _ _ h => h) (elA_kept (H11.out.2.2.1.trans K (fun _ h => .inl h)) (fun _ _ h => h))) (fun i B hB => by obtain ⟨x, hx, _⟩ := HA.out.2 i B hB; exact ⟨x, elPn_kept (H11.out.2.2.1.trans K (fun _ h => .inl h)) (fun _ _ h => h) _ _ hx⟩) (H11.out.2.2.2.1.kept K (fun _ _ h => h)) hIN
          have cv2 := fun (v : World) (K : Kept No w11 v) => alike_set (I := I) (J := J) (C := A') (w := v) (HA.out.1.kept (H11.out.2.2.1.trans K (fun _ h => .inl h)) (fun _ _ h => h) (elA_kept (H11.out.2.2.1.trans K (fun _ h => .inl h)) (fun _ _ h => h))) (fun i B hB => by obtain ⟨x, hx, _⟩ := HA.out.2 i B hB; exact ⟨x, elPn_kept (H11.out.2.2.1.trans K (fun _ h => .inl h)) (fun _ _ h => h) _ _ hx⟩) (H11.out.2.2.2.2.kept K (fun _ _ h => h) (elA_kept K (fun _ _ h => h))) (H11.out.2.2.2.1.kept K (fun _ _ h => h)) hIN
            (fun B hB W' K' => by rw [HJ.out.1] at hB; injection hB with hB; subst hB; rw [← hA']; exact srv_server (elPn_kept ((H11.out.2.2.1.trans K (fun _ h => .inl h)).trans K' (fun _ h => .inl h)) (fun _ _ h => h) _ _ HJ.out.2.2.2.2) HJ.out.2.1)
            (fun h => by rw [hzs, hS] at h; cases h)
          have cv3 := fun (v : World) (K : Kept No w11 v) => alike_setr (I := I) (J := J) (C := A') (w := v) (HA.out.1.kept (H11.out.2.2.1.trans K (fun _ h => .inl h)) (fun _ _ h => h) (elA_kept (H11.out.2.2.1.trans K (fun _ h => .inl h)) (fun _ _ h => h))) (fun i B hB => by obtain ⟨x, hx, _⟩ := HA.out.2 i B hB; exact ⟨x, elPn_kept (H11.out.2.2.1.trans K (fun _ h => .inl h)) (fun _ _ h => h) _ _ hx⟩) (H11.out.2.2.2.2.kept K (fun _ _ h => h) (elA_kept K (fun _ _ h => h))) (H11.out.2.2.2.1.kept K (fun _ _ h => h)) hIN
            (fun B hB W' K' => by rw [HJ.out.1] at hB; injection hB with hB; subst hB; rw [← hA']; exact srv_serverr (elPn_kept ((H11.out.2.2.1.trans K (fun _ h => .inl h)).trans K' (fun _ h => .inl h)) (fun _ _ h => h) _ _ HJ.out.2.2.2.2) HJ.out.2.1)
            (fun h => by rw [hzs, hS] at h; cases h)
          rw [hzs, hS] at cv2 cv3
          obtain ⟨x0, x1, x2⟩ := three H11.out.1
          have c1' := cv1 w11 (Kept.refl _ _)
          go_upto_region 24 with (go_at_call 7; refine c1'.mono ?_; rintro e w12 ⟨rfl, k12⟩; have H12 : Hid (Kept No w11 w12) := k12; clear k12 c1' cv1 x0 x1 x2)
          obtain ⟨x0, x1, x2⟩ := three (H12.out.at' H11.out.1 (fun h => h))
          obtain ⟨y0, y1, y2⟩ := three (H12.out.at' H11.out.2.1 (fun h => h))
          have c2' := cv2 w12 H12.out
          go_upto_region 25 with (go_at_call 7; refine c2'.mono ?_; rintro e w13 ⟨rfl, k13⟩; have H13 : Hid (Kept No w11 w13) := H12.out.trans k13 (fun _ h => .inl h); clear k13 c2' cv2 x0 x1 x2 y0 y1 y2)
          obtain ⟨x0, x1, x2⟩ := three (H13.out.at' H11.out.1 (fun h => h))
          obtain ⟨y0, y1, y2⟩ := three (H13.out.at' H11.out.2.1 (fun h => h))
          have c3' := cv3 w13 H13.out
          go_upto_region 26 with (go_at_call 7; refine c3'.mono ?_; rintro e w14 ⟨rfl, k14⟩; have H14 : Hid (Kept No w w14) := (H11.out.2.2.1.trans H13.out (fun _ h => .inl h)).trans k14 (fun _ h => .inl h); clear k14 c3' cv3 x0 x1 x2 y0 y1 y2)
          have cW := works_any w14 (HC.out.2.2.2.2.1.keep H14.out)
          go_wp2_with (go_at_call 5; refine cW.mono ?_; rintro e w15 ⟨rfl, k15⟩; have HK15 := hid (H14.out.trans k15 (fun _ h => .inl h)); clear k15 cW)
          go_ret
          exact ⟨rfl, HK15.out⟩
  · have cW := works_any w2 (HC.out.2.2.2.2.1.keep HC.out.2.1)
    have fin : ∀ {e : Ending} {w' : World}, (e = .returned (.bool true) ∧ Kept No w2 w') → e = .returned (.bool true) ∧ Kept No w w' := fun h => ⟨h.1, HC.out.2.1.trans h.2 (fun _ h => .inl h)⟩
    have hh : p < 1 ∨ (¬ p < 1 ∧ p > (N : Int)) ∨ (¬ p < 1 ∧ ¬ p > (N : Int) ∧ q < 1) ∨ (¬ p < 1 ∧ ¬ p > (N : Int) ∧ ¬ q < 1 ∧ q > (N : Int)) := by omega
    rcases hh with t1 | ⟨t1, t2⟩ | ⟨t1, t2, t3⟩ | ⟨t1, t2, t3, t4⟩
    all_goals (
      go_wp2_with (go_at_call 5; refine cW.mono ?_; rintro e w3 ⟨rfl, k3⟩; have HK3 := hid (HC.out.2.1.trans k3 (fun _ h => .inl h)); clear k3 cW)
      go_ret
      exact ⟨rfl, HK3.out⟩)
end Go.Proofs.YtdohjhhflfnncaaDoor
