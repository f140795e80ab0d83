/-
  Show: the program's: a legal instruction.
-/
import Derived.Test.YtkmhpbjegkhabaaDoorShow
import Derived.Deep.DeepFit
namespace Go.Proofs.YtkmhpbjegkhabaaDoor
open Go.RowKit
set_option linter.unusedVariables false

set_option maxHeartbeats 8000000 in
set_option maxRecDepth 100000 in
theorem show_yes (o a b c n : Int) (ho : 0 ≤ o ∧ o < 256) (ha : 0 ≤ a ∧ a < 256) (hb : 0 ≤ b ∧ b < 256) (hc : 0 ≤ c ∧ c < 256) (hn : -2147483648 ≤ n ∧ n ≤ 2147483647) (w : World) (hO : Ops w)
    (hT : Lib.TabIs Tryd.prog w "internal/strconv.uint64pow10" .u64 Lib.pow10Tab) (hl : lg o a b c n = true) (NM S : ByteArray) (hNM : NM = nmV o) (hS : S = shV o) (hNs : NM.size ≤ 4) (hSs : S.size ≤ 3) (hN0 : 0 < NM.size) (hk : kn o = true) :
    Calls Tryd.prog 21 #[insV o a b c n] w fun ex w' => ex = .returned (.tuple #[.string ⟨(NM.data.toList ++ tail a b c n S.data.toList).toArray⟩, .bool true]) ∧ Below w.heap.size w w' := by
  obtain ⟨i0, hi, hz0, hz1, hz2⟩ := info_parts infoByte
  have hbx : Below w.heap.size w (box w o a b c n) := (Below.refl _ w).alloc (Nat.le_refl _) _
  have c20 := via (legal_any o a b c n ho ha hb hc (box w o a b c n) (hO.below hbx hO.pos)) (Below.refl (w.heap.size + 1) (box w o a b c n)) (by simp)
  rw [hl] at c20
  have c8 := fun w0 (hb : Below w.heap.size w w0) => name_any o ho w0 (hO.below hb hO.pos)
  have c10 := fun w0 (hb : Below w.heap.size w w0) => shape_any o ho w0 (hO.below hb hO.pos)
  rw [← hNM, hk] at c8
  rw [← hS, hk] at c10
  have HLEN : Hid (∀ ch, (opd a b c n ch).length ≤ 22) := opd_len a b c n ha hb hc hn
  have hcell : ∀ w0, Below (w.heap.size + 1) (box w o a b c n) w0 → w0.heap[w.heap.size]? = some (.cells #[.int .u8 o, .int .u8 a, .int .u8 b, .int .u8 c, .int .i32 n] 26) := fun w0 h => (h.block w.heap.size (by omega)).trans (heap_alloc_new w _)
  have HCELL : Hid (∀ w0, Below (w.heap.size + 1) (box w o a b c n) w0 → w0.heap[w.heap.size]? = some (.cells #[.int .u8 o, .int .u8 a, .int .u8 b, .int .u8 c, .int .i32 n] 26)) := hcell
  have HBX : Hid (Below w.heap.size w (box w o a b c n)) := hbx
  have HTB : Hid (Lib.TabBelow Tryd.prog w.heap.size w "internal/strconv.uint64pow10" .u64 Lib.pow10Tab) := Lib.tabBelow_of_tabIs hT
  unfold insV at *
  clear hO hT hl hNM hS hk hcell hbx
  go_enter Tryd.func21, Tryd.ntmps21
  go_upto_region 5 with (first
    | (go_at_call 20; refine c20.mono ?_; rintro ex w1 ⟨rfl, b1⟩; have bw1 := HBX.out.trans (b1.mono (Nat.le_succ _)); obtain ⟨r0, r1, r2, r3, r4⟩ := cells5 (HCELL.out w1 b1))
    | (go_at_call 8; refine (c8 _ (by assumption)).mono ?_; rintro ex w2 ⟨rfl, hw⟩; obtain rfl := hw.symm)
    | (go_at_call 10; refine (c10 _ (by assumption)).mono ?_; rintro ex w2 ⟨rfl, hw⟩; obtain rfl := hw.symm))
  have hcap1 : NM.size ≤ grownCap w1 NM.size 0 5 := grownCap_ge w1 NM.size 0 5
  have hcap2 : grownCap w1 NM.size 0 5 ≤ maxLen := grownCap_le_maxLen w1 NM.size 0 5 (by unfold maxLen; omega)
  have hcv := run_bytes_of_string (P := Tryd.prog) w1 9 49 5 NM Tryd.underlying9 Tryd.underlying49 Tryd.underlying5
  have own0 := (ownsM_bytes w1.drew 5 NM w1.heap.size (Nat.le_refl _) (grownCap w1 NM.size 0 5) hcap1 hcap2)
  have bel0 : Below w1.heap.size w1 (w1.drew.alloc (.cells (bytesRow NM (grownCap w1 NM.size 0 5)) 5 ((bytesRow NM (grownCap w1 NM.size 0 5)).size, (bytesRow NM (grownCap w1 NM.size 0 5)).size + 1))) := (Below.refl _ w1).drew.alloc (Nat.le_refl _) _
  obtain ⟨C, hC⟩ : ∃ C, C = grownCap w1 NM.size 0 5 := ⟨_, rfl⟩
  rw [← hC] at hcv own0 bel0
  obtain ⟨W2, hW2⟩ : ∃ W2, W2 = w1.drew.alloc (.cells (bytesRow NM C) 5 ((bytesRow NM C).size, (bytesRow NM C).size + 1)) := ⟨_, rfl⟩
  rw [← hW2] at hcv own0 bel0
  obtain ⟨B, hB⟩ : ∃ B, B = w1.heap.size := ⟨_, rfl⟩
  have own1 : ownsM W2 B 5 (.slice (some ⟨w1.heap.size, 0, none⟩) NM.size C) NM.size (Lib.byteCells NM.data.toList) := by rw [hB]; exact own0
  rw [← hB] at bel0 hcv own1
  have HB : Hid (B = w1.heap.size) := hB
  have HBQ : Hid (w.heap.size + 1 ≤ B) := (show w.heap.size + 1 ≤ B by rw [hB]; have := b1.size; simpa using this)
  have HOWN : Hid (ownsM W2 B 5 (.slice (some ⟨B, 0, none⟩) NM.size C) NM.size (Lib.byteCells NM.data.toList)) := own1
  have HBEL : Hid (Below B w1 W2) := bel0
  have HB1 : Hid (Below (w.heap.size + 1) (box w o a b c n) w1) := b1
  have HBW1 : Hid (Below w.heap.size w w1) := bw1
  clear hcap1 hcap2 own0 own1 bel0 hC hW2 hB b1 bw1 c8 c10 c20
  go_wp2
  go_loopw [8, 30] (fun l i wr => ∃ k : Nat, k ≤ S.size ∧ i = .int .i64 k ∧ ownsM wr B 5 l (NM.data.toList ++ tail a b c n (S.data.toList.take k)).length (Lib.byteCells (NM.data.toList ++ tail a b c n (S.data.toList.take k))) ∧ (NM.data.toList ++ tail a b c n (S.data.toList.take k)).length ≤ 4 + 23 * k ∧ Below B w1 wr) (fun _ i _ => S.size - (intOf i).toNat)
  case atStart =>
    refine ⟨0, by omega, rfl, ?_, ?_, HBEL.out⟩
    · have e : NM.data.toList ++ tail a b c n (S.data.toList.take 0) = NM.data.toList := by simp [tail]
      rw [e]
      exact HOWN.out
    · simp [tail]; exact hNs
  case round =>
    obtain ⟨k, hks, rfl, hown, hlen, hbel⟩ := hrel
    obtain ⟨L, hL⟩ : ∃ L, L = NM.data.toList ++ tail a b c n (S.data.toList.take k) := ⟨_, rfl⟩
    rw [← hL] at hown hlen
    have hbr : Below (w.heap.size + 1) (box w o a b c n) wr := HB1.out.trans (hbel.mono HBQ.out)
    have HBEL2 : Hid (Below B w1 wr) := hbel
    have HBR : Hid (Below (w.heap.size + 1) (box w o a b c n) wr) := hbr
    have hBr : B ≤ wr.heap.size := by have := hbel.size; rw [HB.out]; exact this
    by_cases hlt : k < S.size
    · have hkl : k < S.data.toList.length := by simpa using hlt
      have hstep := tail_step a b c n S.data.toList k hkl
      have hch : S.data.toList[k]'hkl = S[k]'hlt := by simp; rfl
      rw [hch] at hstep
      have hl2 := HLEN.out (S[k]'hlt)
      have HL : Hid (L = NM.data.toList ++ tail a b c n (S.data.toList.take k)) := hL
      have HSTEP : Hid (tail a b c n (List.take (k + 1) S.data.toList) = tail a b c n (List.take k S.data.toList) ++ 32 :: opd a b c n (S[k]'hlt)) := hstep
      obtain ⟨N, hN⟩ : ∃ N, N = L.length := ⟨_, rfl⟩
      rw [← hN] at hlen hown
      have HN : Hid (N = L.length) := hN
      have HOWN2 : Hid (ownsM wr B 5 u8 N (Lib.byteCells L)) := hown
      rcases letters w.heap.size a b c n (S[k]'hlt) with ⟨j, x, hR, hop, hjx⟩ | ⟨hR, hop⟩
      · have c28 : ∀ w0 : World, w0.heap[w.heap.size]? = some (.cells #[.int .u8 o, .int .u8 a, .int .u8 b, .int .u8 c, .int .i32 n] 26) → Calls Tryd.prog 28 #[.pointer (some ⟨w.heap.size, 0, none⟩), .int .u8 ((S[k]'hlt).toNat : Int)] w0 fun ex w' => ex = .returned (.pointer (some ⟨w.heap.size, j, none⟩)) ∧ w' = w0 := fun w0 h => by
          have := register_any w.heap.size (S[k]'hlt).toNat w0 26 _ _ h
          rwa [hR] at this
        have HX : Hid (∀ w0 : World, w0.heap[w.heap.size]? = some (.cells #[.int .u8 o, .int .u8 a, .int .u8 b, .int .u8 c, .int .i32 n] 26) → w0.cell? ⟨w.heap.size, j, none⟩ = some (.int .u8 x)) := (fun w0 h => by
          obtain ⟨_, s1, s2, s3, _⟩ := cells5 h
          rcases hjx with ⟨rfl, rfl⟩ | ⟨rfl, rfl⟩ | ⟨rfl, rfl⟩
          · exact s1
          · exact s2
          · exact s3)
        have hx0 : 0 ≤ x := by rcases hjx with ⟨_, rfl⟩ | ⟨_, rfl⟩ | ⟨_, rfl⟩ <;> omega
        have hx1 : x < 256 := by rcases hjx with ⟨_, rfl⟩ | ⟨_, rfl⟩ | ⟨_, rfl⟩ <;> omega
        rw [hop, List.length_cons] at hl2
        have HOP : Hid (opd a b c n (S[k]'hlt) = 114 :: Lib.itoa x) := hop
        clear hstep hch hL hop hR hbel hbr hN hkl hown hjx
        go_upto_region 12 with (first
          | (at_builtin; refine wpM _ rfl _ _ 49 rfl B 5 i0 (.int .u8 0) Tryd.underlying49 hi hz0 hz1 hz2 rfl _ _ _ rfl (HOWN2.out.alloc _) ⟨wr.heap.size, 0, none⟩ 1 1 [.int .u8 32] rfl rfl (cell_one wr _ _) (one_one _ _) (by unfold maxLen; omega) (by omega) (by simp; omega) ?_; intro v3 w3 own3 grow3; have b3 : Below B wr w3 := ((Below.refl B wr).alloc hBr _).grown grow3 (by simp; omega) (fun g hg => (HOWN2.out.lt g hg).1); have hq3 := HCELL.out w3 (HBR.out.trans (b3.mono HBQ.out)))
          | (go_at_call 28; refine (c28 _ (by assumption)).mono ?_; rintro ex w4 ⟨rfl, hw⟩; obtain rfl := hw.symm))
        have hx3 := HX.out w3 hq3
        have hwx : IntKind.i64.wrap x = x := by rw [IntKind.wrap_i64]; omega
        have bw3 : Below w.heap.size w w3 := HBW1.out.trans ((HBEL2.out.mono (Nat.le_of_succ_le HBQ.out)).trans (b3.mono (Nat.le_of_succ_le HBQ.out)))
        have hB3 : B ≤ w3.heap.size := Nat.le_trans hBr b3.size
        have HO3 : Hid (ownsM w3 B 5 v3 (N + 1) (Lib.byteCells L ++ [Value.int .u8 32])) := own3
        have HBW3 : Hid (Below w.heap.size w w3) := bw3
        have HB3 : Hid (Below B wr w3) := b3
        have HBR3 : Hid (Below (w.heap.size + 1) (box w o a b c n) w3) := HBR.out.trans (b3.mono HBQ.out)
        have hx4 : (w3.alloc (.cells #[.int .u8 114] 5)).cell? ⟨w.heap.size, j, none⟩ = some (.int .u8 x) := (((Below.refl B w3).alloc hB3 _).cell (p := ⟨w.heap.size, j, none⟩) HBQ.out).trans hx3
        clear own3 bw3 b3 c28 hq3
        go_region_law (first
          | (refine stepM rfl (.tmp 42) (.tmp 43) 49 rfl B 5 i0 (.int .u8 0) Tryd.underlying49 hi hz0 hz1 hz2 rfl v3 _ _ rfl ((HO3.out.drew).alloc _) ⟨w3.heap.size, 0, none⟩ 1 1 [.int .u8 114] rfl rfl (cell_one w3.drew _ _) (one_one _ _) (by unfold maxLen; omega) (by omega) (Nat.le_trans hB3 (by simp)) ?_; intro v5 w5 own5 grow5; have b5 : Below B w3 w5 := (((Below.refl B w3).drew).alloc hB3 _).grown grow5 (Nat.le_trans hB3 (by simp)) (fun g hg => (HO3.out.lt g hg).1); have hx5 := HX.out w5 (HCELL.out w5 (HBR3.out.trans (b5.mono HBQ.out))); have t5 := tab_mono (HTB.out.on (HBW3.out.trans (b5.mono (Nat.le_of_succ_le HBQ.out)))) (Nat.le_of_succ_le HBQ.out); have HT5 : Hid (Lib.TabBelow Tryd.prog B w5 "internal/strconv.uint64pow10" .u64 Lib.pow10Tab) := t5; clear t5 grow5)
          | (go_simp; try go_at_call 29; refine (appendInt_any B (N + 1 + 1) x (by omega) (by omega) v5 _ w5 own5 (Nat.le_trans hB3 b5.size) (by omega) HT5.out).mono ?_; rintro ex w6 ⟨v6, rfl, own6, b6⟩))
        all_goals
          go_wp2
          go_roundw
          case rel =>
            refine ⟨k + 1, by omega, by go_num, fin2 own6 HN.out (by rw [HL.out, HSTEP.out, HOP.out]; simp), ?_, HBEL2.out.trans (HB3.out.trans (b5.trans b6))⟩
            rw [HSTEP.out, HOP.out, ← List.append_assoc, ← HL.out, List.length_append, ← HN.out, List.length_cons, List.length_cons]
            omega
          case measure => simp [intOf]; omega
      · have c28 : ∀ w0 : World, w0.heap[w.heap.size]? = some (.cells #[.int .u8 o, .int .u8 a, .int .u8 b, .int .u8 c, .int .i32 n] 26) → Calls Tryd.prog 28 #[.pointer (some ⟨w.heap.size, 0, none⟩), .int .u8 ((S[k]'hlt).toNat : Int)] w0 fun ex w' => ex = .returned (.pointer none) ∧ w' = w0 := fun w0 h => by
          have := register_any w.heap.size (S[k]'hlt).toNat w0 26 _ _ h
          rwa [hR] at this
        rw [hop] at hl2
        have HOP : Hid (opd a b c n (S[k]'hlt) = Lib.itoa n) := hop
        clear hstep hch hL hop hR hbel hbr hN hkl hown
        go_wp2_with (first
          | (at_builtin; refine wpM _ rfl _ _ 49 rfl B 5 i0 (.int .u8 0) Tryd.underlying49 hi hz0 hz1 hz2 rfl _ _ _ rfl (HOWN2.out.alloc _) ⟨wr.heap.size, 0, none⟩ 1 1 [.int .u8 32] rfl rfl (cell_one wr _ _) (one_one _ _) (by unfold maxLen; omega) (by omega) (by simp; omega) ?_; intro v3 w3 own3 grow3; have b3 : Below B wr w3 := ((Below.refl B wr).alloc hBr _).grown grow3 (by simp; omega) (fun g hg => (HOWN2.out.lt g hg).1); have hq3 := HCELL.out w3 (HBR.out.trans (b3.mono HBQ.out)); obtain ⟨r0, r1, r2, r3, r4⟩ := cells5 hq3; have t3 := tab_mono (HTB.out.on (HBW1.out.trans ((HBEL2.out.mono (Nat.le_of_succ_le HBQ.out)).trans (b3.mono (Nat.le_of_succ_le HBQ.out))))) (Nat.le_of_succ_le HBQ.out))
          | (go_at_call 28; refine (c28 _ (by assumption)).mono ?_; rintro ex w4 ⟨rfl, hw⟩; obtain rfl := hw.symm)
          | (go_at_call 29; refine (appendInt_any B (N + 1) n (by omega) (by omega) v3 _ w3 own3 (Nat.le_trans hBr b3.size) (by omega) t3).mono ?_; rintro ex w5 ⟨v5, rfl, own5, b5⟩))
        go_roundw
        case rel =>
          refine ⟨k + 1, by omega, by go_num, fin1 own5 HN.out (by rw [HL.out, HSTEP.out, HOP.out]; simp), ?_, HBEL2.out.trans (b3.trans b5)⟩
          rw [HSTEP.out, HOP.out, ← List.append_assoc, ← HL.out, List.length_append, ← HN.out, List.length_cons]
          omega
        case measure => simp [intOf]; omega
    · have hkS : k = S.size := by omega
      subst hkS
      have hfull : S.data.toList.take S.size = S.data.toList := List.take_of_length_le (by simp)
      rw [hfull] at hL
      have hNMl : NM.data.toList.length = NM.size := by simp
      have hLp : 0 < L.length := by rw [hL, List.length_append]; omega
      have HBW : Hid (Below w.heap.size w wr) := HBW1.out.trans (hbel.mono (Nat.le_of_succ_le HBQ.out))
      obtain ⟨_, g, cap, cur, fz, hv, _⟩ := id hown
      subst hv
      have hcv2 := run_convert_bytes_back (P := Tryd.prog) wr 49 9 5 ⟨g, 0, none⟩ cap L Tryd.underlying49 Tryd.underlying5 Tryd.underlying9 (fun j hj => hown.cells (g := g) rfl j _ (by simp [Lib.byteCells, hj]))
      have HL : Hid (L = NM.data.toList ++ tail a b c n S.data.toList) := hL
      clear hL hown hbel hbr hlen
      go_wp2
      go_ret2
      refine ⟨?_, HBW.out⟩
      rw [← HL.out]
      rfl

end Go.Proofs.YtkmhpbjegkhabaaDoor
