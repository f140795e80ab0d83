/-
  SlotsBytes: its walk.
-/
import Derived.Test.YtkmpgcgdamcikaaGreatDoorGY
import Derived.Deep.DeepCutAuto
namespace Go.Proofs.YtkmpgcgdamcikaaGreatDoor
open Go.RowKit Go.Shelf Plain
set_option linter.unusedVariables false
set_option maxRecDepth 100000

theorem enc_yes {P C : List (Int × Int)} (hy : hyF P C ≠ 0) (hl : ¬ encLong P C) : encX P C = sealed 2 (bodyB P C) ∧ encE P C = 0 := by
  unfold encX encE
  rw [if_neg hy, if_neg hy, if_neg hl, if_neg hl]
  exact ⟨rfl, rfl⟩
/-- Encode of a table that goes and is not too long -/
theorem encode_own {F G : Nat → Prop} {a0 a1 : Option Addr} {n0 c0 n1 c1 : Nat} {P C : List (Int × Int)} (w : World) (h : Sl w F a0 n0 c0 P) (hF : ∀ k, F k → k < w.heap.size) (h' : Sl w G a1 n1 c1 C) (hG : ∀ k, G k → k < w.heap.size) (hy : hyF P C ≠ 0) (hl : ¬ encLong P C) :
    Calls Tryz.prog 9 #[.agg #[.slice a0 n0 c0, .slice a1 n1 c1]] w fun e w' => ∃ a c, e = .returned (.tuple #[.slice a (sealed 2 (bodyB P C)).length c, .int .i64 0]) ∧ Bs w' (fun k => k < w'.heap.size) a (sealed 2 (bodyB P C)).length c (sealed 2 (bodyB P C)) ∧ Kept No w w' := by
  have ec := encode_any w h hF h' hG
  obtain ⟨e1, e2⟩ := enc_yes hy hl
  rw [e1, e2] at ec
  refine ec.mono ?_
  rintro e w' ⟨a, c, rfl, ho, hk⟩
  refine ⟨a, c, rfl, ?_, hk⟩
  have hb := Bs.row ho rfl (sealed_lt (by decide) (bodyB_lt P C))
  exact hb.mono (fun k e => (ho.lt k e).2)
theorem valid_own {F G : Nat → Prop} {a0 a1 : Option Addr} {n0 c0 n1 c1 : Nat} {P C : List (Int × Int)} (w : World) (h : Sl w F a0 n0 c0 P) (hF : ∀ k, F k → k < w.heap.size) (h' : Sl w G a1 n1 c1 C) (hG : ∀ k, G k → k < w.heap.size) (hy : hyF P C ≠ 0) :
    Calls Tryz.prog 10 #[.agg #[.slice a0 n0 c0, .slice a1 n1 c1]] w fun e w' => e = .returned (.int .i64 0) ∧ Kept No w w' := by
  have va := valid_any w h hF h' hG
  rw [if_neg hy] at va
  exact va
theorem dc_le {xs : List Nat} (hx : ∀ x ∈ xs, x < 256) : (dcP xs).length ≤ 2097152 ∧ (dcC xs).length ≤ 2097152 := by
  by_cases h : dcE xs = 0
  · obtain ⟨h1, h2, _⟩ := dc_told hx h
    unfold encLong at h2
    rw [zl_len, zl_len] at h2
    omega
  · unfold dcP dcC
    rw [if_neg h, if_neg h]
    simp
theorem tk_app (xs : List Nat) : (xs ++ [90]).take xs.length = xs := by simp
theorem gd_app (xs : List Nat) : (xs ++ [90]).getD xs.length 0 = 90 := by simp [List.getD]
theorem trn_app (xs : List Nat) (k : Nat) (hk : k ≤ xs.length) : (trn (xs ++ [90]) k).take xs.length = trn xs k := by
  unfold trn
  rw [List.take_append_of_le_length hk, List.drop_append_of_le_length hk, ← List.append_assoc]
  apply List.take_left'
  simp
  omega

set_option maxHeartbeats 40000000 in
theorem sbytes_law {G : Nat → Prop} {ba : Option Addr} {n bc : Nat} {xs : List Nat} (w : World) (hg : Gl w) (hb : Bs w G ba n bc xs) (hG : ∀ k, G k → k < w.heap.size) (hn : n ≤ 140737488351232) :
    Calls Tryz.prog 3 #[.slice ba n bc] w fun e w' => e = .returned (.bool true) ∧ Below w.heap.size w w' := by
  have HS : Hid (Gl w ∧ Bs w G ba n bc xs ∧ (∀ k, G k → k < w.heap.size)) := ⟨hg, hb, hG⟩
  have hlen := hb.len
  have hcap := hb.cap
  have hmax := hb.max
  have HLT : Hid (∀ x ∈ xs, x < 256) := hb.lt
  have HLEN : Hid (xs.length = n) := hlen
  have hnz : (n : Int) ≤ 140737488351232 := by omega
  obtain ⟨p1, p2⟩ := dc_le hb.lt
  have HD0 : Hid (dcE xs = 0 → hyF (zl (dcP xs)) (zl (dcC xs)) ≠ 0 ∧ ¬ encLong (zl (dcP xs)) (zl (dcC xs)) ∧ sealed 2 (bodyB (zl (dcP xs)) (zl (dcC xs))) = xs) := dc_told hb.lt
  have HDC : Hid (∀ (F : Nat → Prop) (a : Option Addr) (c : Nat) (W : World), Bs W F a n c xs → Calls Tryz.prog 4 #[.slice a n c] W fun e w' => ∃ a0 a1, e = .returned (.tuple #[.agg #[.slice a0 (dcP xs).length (dcP xs).length, .slice a1 (dcC xs).length (dcC xs).length], .int .i64 (dcE xs)]) ∧ Tq w' W.heap.size w'.heap.size a0 (dcP xs).length a1 (dcC xs).length (dcP xs) (dcC xs) ∧ Wq w' W.heap.size w'.heap.size a0 a1 (dcP xs).length (dcC xs).length ∧ Kept No W w') := fun F a c W h => decode_ex W h
  have HRD : Hid (∀ (F : Nat → Prop) (a : Option Addr) (c : Nat) (W : World), Bs W F a n c xs → Calls Tryz.prog 5 #[.slice a n c] W fun e w' => ∃ a0 c0 a1 c1, e = .returned (.tuple #[.agg #[.slice a0 (dcP xs).length c0, .slice a1 (dcC xs).length c1], .int .i64 (dcE xs)]) ∧ Tq w' W.heap.size w'.heap.size a0 c0 a1 c1 (dcP xs) (dcC xs) ∧ Kept No W w') := fun F a c W h => rdecode_ex W h
  generalize dcP xs = P at *
  generalize dcC xs = C at *
  generalize dcE xs = E at *
  clear hg hb hG hlen
  go_enter Tryz.func3, Tryz.ntmps3
  go_upto_region 2 with (first
    | (at_builtin; refine wpList_copy rfl _ _ rfl w.heap.size _ rfl (made0b w) (by rw [World.size_alloc]; omega) _ n bc rfl _ xs (HS.out.2.1.kept ((Kept.refl No _).alloc _) (fun _ _ h => h)) (by omega) ?_; intro ya yc w1 o1 g1)
    | (at_builtin; refine wpList_app rfl _ _ rfl w.heap.size (.slice ya n yc) rfl n xs (o1.out.alloc _) (by have := g1.out.size; rw [World.size_alloc] at this; rw [World.size_alloc]; omega) _ 1 1 rfl _ [90] (Bs.lit w1 [90] (by simp) (by simp)) (by omega) (by omega) ?_; intro za zc w2 o2 g2))
  have hx90 : ∀ x ∈ xs ++ [90], x < 256 := fun x hx => by
    rcases List.mem_append.1 hx with h | h
    · exact HLT.out x h
    · simp at h; omega
  obtain ⟨g, hza, hgB, mn⟩ := Mn.of_owns (L := xs ++ [90]) (by rw [List.map_append]; exact o2.out) (by rw [List.length_append, HLEN.out]; rfl) hx90 (by omega)
  subst hza
  have HX90 : Hid (∀ x ∈ xs ++ [90], x < 256) := hx90
  have k2 : Kept No w w2 := ((((Kept.refl No w).alloc _).trans g1.out (fun k e => .inr (by injection e with e; subst e; exact Nat.le_refl _))).alloc _).trans g2.out (fun k e => .inr (own_at o1.out k e))
  have H2 : Hid (Mn w2 g zc (xs ++ [90]) ∧ Kept No w w2 ∧ w.heap.size ≤ g) := ⟨mn, k2, hgB⟩
  have hzc : n + 1 ≤ zc := by have := mn.cap; rw [List.length_append, HLEN.out] at this; exact this
  have hzm := mn.max
  clear hx90 hgB mn k2 o1 o2 g1 g2
  have HB2 : Hid (∀ W, Mn W g zc (xs ++ [90]) → Bs W (fun k => k = g) (some ⟨g, 0, none⟩) n zc xs) := fun W m => by
    have := m.bs n (by rw [List.length_append, HLEN.out]; omega)
    rw [← HLEN.out, tk_app] at this
    rw [HLEN.out] at this
    exact this
  have dc := HDC.out _ _ _ w2 (HB2.out w2 H2.out.1)
  go_upto_region 3 with (go_at_call 4; refine dc.mono ?_; rintro e w3 ⟨a0, a1, rfl, t3, v3, k3⟩; clear dc)
  have H3 : Hid (Mn (w3.alloc (.cells #[.slice a0 P.length P.length, .slice a1 C.length C.length] 25)) g zc (xs ++ [90]) ∧ Kept No w (w3.alloc (.cells #[.slice a0 P.length P.length, .slice a1 C.length C.length] 25)) ∧ w.heap.size ≤ g ∧ Tq (w3.alloc (.cells #[.slice a0 P.length P.length, .slice a1 C.length C.length] 25)) (g + 1) w3.heap.size a0 P.length a1 C.length P C ∧ Wq (w3.alloc (.cells #[.slice a0 P.length P.length, .slice a1 C.length C.length] 25)) (g + 1) w3.heap.size a0 a1 P.length C.length ∧ (w3.alloc (.cells #[.slice a0 P.length P.length, .slice a1 C.length C.length] 25)).heap[w3.heap.size]? = some (.cells #[.slice a0 P.length P.length, .slice a1 C.length C.length] 25) ∧ g < w3.heap.size ∧ w3.heap.size < (w3.alloc (.cells #[.slice a0 P.length P.length, .slice a1 C.length C.length] 25)).heap.size) := by
    have ka : Kept No w3 (w3.alloc (.cells #[.slice a0 P.length P.length, .slice a1 C.length C.length] 25)) := (Kept.refl No w3).alloc _
    have hb := World.alloc_heap_new w3 (.cells #[.slice a0 P.length P.length, .slice a1 C.length C.length] 25)
    have hgs := H2.out.1.hi
    have hs := k3.size
    exact ⟨(H2.out.1.kept k3 (fun h => h)).kept ka (fun h => h), (H2.out.2.1.trans k3 (fun _ h => h.elim)).trans ka (fun _ h => h.elim), H2.out.2.2, (t3.keep ka).wide (by omega) (Nat.le_refl _), (v3.keep ka).wide (by omega) (Nat.le_refl _), hb, by omega, heap_lt hb⟩
  clear t3 v3 k3 H2
  generalize (w3.alloc (.cells #[.slice a0 P.length P.length, .slice a1 C.length C.length] 25)) = w4 at *
  generalize w3.heap.size = B3 at *
  have dr := HRD.out _ _ _ w4 (HS.out.2.1.kept H3.out.2.1 (fun _ _ h => h))
  go_upto_region 4 with (go_at_call 5; refine dr.mono ?_; rintro e w5 ⟨b0, c0, b1, c1, rfl, t5, k5⟩; clear dr)
  have H5 : Hid (Mn (w5.alloc (.cells #[.slice b0 P.length c0, .slice b1 C.length c1] 25)) g zc (xs ++ [90]) ∧ Al w (w5.alloc (.cells #[.slice b0 P.length c0, .slice b1 C.length c1] 25)) G ba n bc xs g P C a0 a1 b0 b1 c0 c1 w4.heap.size w5.heap.size B3 w5.heap.size) := by
    have ka : Kept No w5 (w5.alloc (.cells #[.slice b0 P.length c0, .slice b1 C.length c1] 25)) := (Kept.refl No w5).alloc _
    have hb := World.alloc_heap_new w5 (.cells #[.slice b0 P.length c0, .slice b1 C.length c1] 25)
    have q := H3.out
    have hs := k5.size
    have kk := k5.trans ka (fun _ h => h.elim)
    refine ⟨q.1.kept kk (fun h => h), ⟨(HS.out.2.1.kept (q.2.1.trans kk (fun _ h => h.elim)) (fun _ _ h => h)), HS.out.2.2, (q.2.2.2.1.keep kk).wide (Nat.le_refl _) (by omega), (q.2.2.2.2.1.keep kk).wide (Nat.le_refl _) (by omega), t5.keep ka, kk.at' q.2.2.2.2.2.1 (fun h => h), hb, q.2.1.trans kk (fun _ h => h.elim), q.2.2.1, by omega, hs, Nat.le_of_lt (heap_lt hb), by omega, by omega⟩⟩
  clear t5 k5 H3
  generalize (w5.alloc (.cells #[.slice b0 P.length c0, .slice b1 C.length c1] 25)) = w6 at *
  generalize w5.heap.size = B4 at *
  generalize w4.heap.size = h1 at *
  have HST : Hid (∀ W, Al w W G ba n bc xs g P C a0 a1 b0 b1 c0 c1 h1 B4 B3 B4 → Calls Tryz.prog 6 #[.agg #[.slice a0 P.length P.length, .slice a1 C.length C.length], .agg #[.slice b0 P.length c0, .slice b1 C.length c1]] W fun e w' => e = .returned (.bool true) ∧ Kept No W w') := fun W al => sameT_yes W al.t.p al.u.p al.t.c al.u.c
  have s1 := HST.out w6 H5.out.2
  have HLV : Hid (∀ W, Kept No w W → Calls Tryz.prog 8 #[] W fun e w' => e = .returned (.bool true) ∧ Kept No W w') := fun W k => lives_any W (HS.out.1.kept k)
  obtain ⟨d0, d1⟩ := bx2 H5.out.2.x3
  obtain ⟨d2, d3⟩ := bx2 H5.out.2.x4
  have H6 : Hid (∀ W, Kept No w6 W → W.cell? ⟨g, n, none⟩ = some (.int .u8 90)) := fun W k => by
    have := (H5.out.1.kept k (fun h => h)).at' n (by rw [List.length_append, HLEN.out]; show n < n + 1; omega)
    rw [← HLEN.out, gd_app, HLEN.out] at this
    exact this
  go_upto_region 6 with (first
    | (go_at_call 6; refine s1.mono ?_; rintro e w7 ⟨rfl, k7⟩; have K7 : Hid (Kept No w6 w7) := k7; have sb := sameB_yes w7 (HB2.out w7 (H5.out.1.kept k7 (fun h => h))) (H5.out.2.keep k7).arg; clear s1 k7 d0 d1 d2 d3)
    | (go_at_call 7; refine sb.mono ?_; rintro e w8 ⟨rfl, k8⟩; have K8 : Hid (Kept No w6 w8) := K7.out.trans k8 (fun _ h => h.elim); have c90 := H6.out w8 K8.out; have lv := HLV.out w8 ((H5.out.2.keep K8.out).kp); clear sb k8)
    | (go_at_call 8; refine lv.mono ?_; rintro e w9 ⟨rfl, k9⟩; have K9 : Hid (Kept No w6 w9) := K8.out.trans k9 (fun _ h => h.elim); clear lv k9 c90))
  have H9 : Hid (Mn w9 g zc (xs ++ [90]) ∧ Al w w9 G ba n bc xs g P C a0 a1 b0 b1 c0 c1 h1 B4 B3 B4 ∧ B4 < w9.heap.size) := ⟨H5.out.1.kept K9.out (fun h => h), H5.out.2.keep K9.out, heap_lt (H5.out.2.keep K9.out).x4⟩
  clear H5 H6 K7 K8 K9
  have dc := HDC.out _ _ _ w9 (HB2.out w9 H9.out.1)
  go_upto_region 7 with (go_at_call 4; refine dc.mono ?_; rintro e w10 ⟨r0, r1, rfl, t10, v10, k10⟩; clear dc v10)
  have H11 : Hid (Mn (w10.alloc (.cells #[.slice r0 P.length P.length, .slice r1 C.length C.length] 25)) g zc (xs ++ [90]) ∧ Al w (w10.alloc (.cells #[.slice r0 P.length P.length, .slice r1 C.length C.length] 25)) G ba n bc xs g P C a0 a1 b0 b1 c0 c1 h1 B4 B3 B4 ∧ Tq (w10.alloc (.cells #[.slice r0 P.length P.length, .slice r1 C.length C.length] 25)) (B4 + 1) w10.heap.size r0 P.length r1 C.length P C ∧ (w10.alloc (.cells #[.slice r0 P.length P.length, .slice r1 C.length C.length] 25)).heap[w10.heap.size]? = some (.cells #[.slice r0 P.length P.length, .slice r1 C.length C.length] 25) ∧ B4 < w10.heap.size) := by
    have ka : Kept No w10 (w10.alloc (.cells #[.slice r0 P.length P.length, .slice r1 C.length C.length] 25)) := (Kept.refl No w10).alloc _
    have hb := World.alloc_heap_new w10 (.cells #[.slice r0 P.length P.length, .slice r1 C.length C.length] 25)
    have kk := k10.trans ka (fun _ h => h.elim)
    have hs := k10.size
    have hs2 := H9.out.2.2
    exact ⟨H9.out.1.kept kk (fun h => h), H9.out.2.1.keep kk, (t10.keep ka).wide (by omega) (Nat.le_refl _), hb, by omega⟩
  clear t10 k10 H9
  generalize (w10.alloc (.cells #[.slice r0 P.length P.length, .slice r1 C.length C.length] 25)) = w11 at *
  generalize w10.heap.size = B6 at *
  go_wp2_with fail
  go_loopw [10] (fun x wr => ∃ k : Nat, k ≤ n ∧ x = .int .i64 k ∧ Mn wr g zc (trn (xs ++ [90]) k) ∧ Kept (fun j => j = g) w11 wr) (fun x _ => n - (intOf x).toNat)
  case atStart => exact ⟨0, Nat.zero_le _, rfl, by rw [trn_zero]; exact H11.out.1, Kept.refl _ _⟩
  case round =>
    obtain ⟨k, hk, rfl, hmn, hkr⟩ := hrel
    by_cases hlt : k < n
    · have hltz : (k : Int) < (n : Int) := by omega
      have hkl : k < (xs ++ [90]).length := by rw [List.length_append, HLEN.out]; omega
      have ck := hmn.at' k (by rw [trn_len]; exact hkl)
      rw [trn_get _ _ hkl] at ck
      unfold bv at ck
      have fk := hmn.fz k
      have hy : (xs ++ [90]).getD k 0 < 256 := by
        have e : (xs ++ [90]).getD k 0 = (xs ++ [90])[k] := by simp only [List.getD, List.getElem?_eq_getElem hkl]; rfl
        rw [e]; exact HX90.out _ (List.getElem_mem hkl)
      have hxr := xor255 _ hy
      have hy2 : (xs ++ [90]).getD k 0 ^^^ 255 < 256 := Nat.xor_lt_two_pow (n := 8) hy (by decide)
      have HN : Hid (Mn (wr.setCell ⟨g, k, none⟩ (.int .u8 (((xs ++ [90]).getD k 0 ^^^ 255 : Nat) : Int))) g zc (trn (xs ++ [90]) (k + 1)) ∧ Kept (fun j => j = g) w11 (wr.setCell ⟨g, k, none⟩ (.int .u8 (((xs ++ [90]).getD k 0 ^^^ 255 : Nat) : Int)))) := by
        have hp := hmn.put k ((xs ++ [90]).getD k 0 ^^^ 255) (by rw [trn_len]; exact hkl) hy2
        rw [trn_succ _ _ hkl] at hp
        exact ⟨hp, hkr.trans (Kept.setCell (F := fun j => j = g) (p := ⟨g, k, none⟩) (Kept.refl _ wr) (.inl rfl) _) (fun _ h => .inl h)⟩
      clear hmn hkr hkl hy hy2
      generalize (xs ++ [90]).getD k 0 = y at *
      go_wp2
      go_roundw
      case rel => exact ⟨k + 1, by omega, by go_num, HN.out⟩
      case measure => simp [intOf]; omega
    · have hltz : ¬ (k : Int) < (n : Int) := by omega
      obtain rfl : k = n := by omega
      have hbz : Bs wr (fun j => j = g) (some ⟨g, 0, none⟩) k zc (trn xs k) := by
        have := hmn.bs k (by rw [trn_len, List.length_append, HLEN.out]; omega)
        rw [show (trn (xs ++ [90]) k).take k = trn xs k by have := trn_app xs k (by rw [HLEN.out]; omega); rw [HLEN.out] at this; exact this] at this
        exact this
      have H12 : Hid (Bs wr (fun j => j = g) (some ⟨g, 0, none⟩) k zc (trn xs k) ∧ Al w wr G ba k bc xs g P C a0 a1 b0 b1 c0 c1 h1 B4 B3 B4 ∧ Tq wr (B4 + 1) B6 r0 P.length r1 C.length P C ∧ wr.heap[B6]? = some (.cells #[.slice r0 P.length P.length, .slice r1 C.length C.length] 25) ∧ B4 < B6) := by
        have q := H11.out
        have e4 := q.2.1.s4
        exact ⟨hbz, q.2.1.kept hkr, q.2.2.1.kept hkr (fun b h1 h2 e => by omega), hkr.at' q.2.2.2.1 (fun e => by have := q.2.2.2.2; omega), q.2.2.2.2⟩
      have HZL : Hid (∀ x ∈ trn xs k, x < 256) := trn_lt HLT.out k
      have HZN : Hid ((trn xs k).length = k) := by show _ = _; rw [trn_len]; exact HLEN.out
      have HDC2 : Hid (∀ (F : Nat → Prop) (a : Option Addr) (c : Nat) (W : World), Bs W F a k c (trn xs k) → Calls Tryz.prog 4 #[.slice a k c] W fun e w' => ∃ a0 a1, e = .returned (.tuple #[.agg #[.slice a0 (dcP (trn xs k)).length (dcP (trn xs k)).length, .slice a1 (dcC (trn xs k)).length (dcC (trn xs k)).length], .int .i64 (dcE (trn xs k))]) ∧ Kept No W w') := fun F a c W h => (decode_ex W h).mono (fun e w' ⟨a0, a1, e1, _, _, e2⟩ => ⟨a0, a1, e1, e2⟩)
      have HRD2 : Hid (∀ (F : Nat → Prop) (a : Option Addr) (c : Nat) (W : World), Bs W F a k c (trn xs k) → Calls Tryz.prog 5 #[.slice a k c] W fun e w' => ∃ a0 c0 a1 c1, e = .returned (.tuple #[.agg #[.slice a0 (dcP (trn xs k)).length c0, .slice a1 (dcC (trn xs k)).length c1], .int .i64 (dcE (trn xs k))]) ∧ Kept No W w') := fun F a c W h => (rdecode_ex W h).mono (fun e w' ⟨a0, c0, a1, c1, e1, _, e2⟩ => ⟨a0, c0, a1, c1, e1, e2⟩)
      have HWZ : Hid (Bs wr (fun j => j = g) (some ⟨g, 0, none⟩) k zc (trn xs k)) := hbz
      clear hmn hkr H11 hbz hk
      generalize dcP (trn xs k) = P2 at *
      generalize dcC (trn xs k) = C2 at *
      generalize dcE (trn xs k) = E2 at *
      generalize trn xs k = zs at *
      generalize wr = w12 at *
      go_upto_region 12 with (at_builtin; refine wpList_copy rfl _ _ rfl w12.heap.size _ rfl (made0b w12) (by rw [World.size_alloc]; omega) _ k zc rfl _ zs (HWZ.out.kept ((Kept.refl No _).alloc _) (fun _ _ h => h)) (by omega) ?_; intro oa oc w13 o13 g13)
      have H13 : Hid (Bs w13 (fun j => (Value.slice oa k oc).ownBlock = some j) oa k oc zs ∧ Kept No w12 w13) := ⟨Bs.row o13.out HZN.out HZL.out, ((Kept.refl No w12).alloc _).trans g13.out (fun j e => .inr (by injection e with e; subst e; exact Nat.le_refl _))⟩
      have hoc := H13.out.1.cap
      have hom := H13.out.1.max
      clear o13 g13
      have dc := HDC2.out _ _ _ w13 (HWZ.out.kept H13.out.2 (fun _ _ h => h))
      go_upto_region 13 with (go_at_call 4; refine dc.mono ?_; rintro e w14 ⟨m0, m1, rfl, k14⟩; clear dc)
      have H15 : Hid (Kept No w13 (w14.alloc (.cells #[.slice m0 P2.length P2.length, .slice m1 C2.length C2.length] 25))) := k14.alloc _
      clear k14
      generalize (w14.alloc (.cells #[.slice m0 P2.length P2.length, .slice m1 C2.length C2.length] 25)) = w15 at *
      generalize w14.heap.size = B14 at *
      have dr := HRD2.out _ _ _ w15 (H13.out.1.kept H15.out (fun _ _ h => h))
      go_upto_region 14 with (go_at_call 5; refine dr.mono ?_; rintro e w16 ⟨q0, e0, q1, e1, rfl, k16⟩; clear dr)
      have H17 : Hid (Kept No w13 (w16.alloc (.cells #[.slice q0 P2.length e0, .slice q1 C2.length e1] 25))) := (H15.out.trans k16 (fun _ h => h.elim)).alloc _
      clear k16 H15
      generalize (w16.alloc (.cells #[.slice q0 P2.length e0, .slice q1 C2.length e1] 25)) = w17 at *
      generalize w16.heap.size = B16 at *
      have H18 : Hid (Bs w17 (fun j => (Value.slice oa k oc).ownBlock = some j) oa k oc zs ∧ Bs w17 (fun j => j = g) (some ⟨g, 0, none⟩) k zc zs ∧ Al w w17 G ba k bc xs g P C a0 a1 b0 b1 c0 c1 h1 B4 B3 B4 ∧ Tq w17 (B4 + 1) B6 r0 P.length r1 C.length P C ∧ w17.heap[B6]? = some (.cells #[.slice r0 P.length P.length, .slice r1 C.length C.length] 25) ∧ B4 < B6) := by
        have kk := H13.out.2.trans H17.out (fun _ h => h.elim)
        exact ⟨H13.out.1.kept H17.out (fun _ _ h => h), HWZ.out.kept kk (fun _ _ h => h), H12.out.2.1.keep kk, H12.out.2.2.1.keep kk, kk.at' H12.out.2.2.2.1 (fun h => h), H12.out.2.2.2.2⟩
      clear H12 H13 H17 HWZ HDC2 HRD2
      have s1 := HST.out w17 H18.out.2.2.1
      obtain ⟨d0, d1⟩ := bx2 H18.out.2.2.1.x3
      obtain ⟨d2, d3⟩ := bx2 H18.out.2.2.1.x4
      go_upto_region 16 with (first
        | (go_at_call 6; refine s1.mono ?_; rintro e w18 ⟨rfl, k18⟩; have K18 : Hid (Kept No w17 w18) := k18; have sb := sameB_yes w18 (H18.out.2.1.kept k18 (fun _ _ h => h)) (H18.out.1.kept k18 (fun _ _ h => h)); clear s1 k18 d0 d1 d2 d3)
        | (go_at_call 7; refine sb.mono ?_; rintro e w19 ⟨rfl, k19⟩; have K19 : Hid (Kept No w17 w19) := K18.out.trans k19 (fun _ h => h.elim); clear sb k19))
      have H20 : Hid (Al w w19 G ba k bc xs g P C a0 a1 b0 b1 c0 c1 h1 B4 B3 B4 ∧ Tq w19 (B4 + 1) B6 r0 P.length r1 C.length P C ∧ w19.heap[B6]? = some (.cells #[.slice r0 P.length P.length, .slice r1 C.length C.length] 25) ∧ B4 < B6 ∧ B6 < w19.heap.size) := ⟨H18.out.2.2.1.keep K19.out, H18.out.2.2.2.1.keep K19.out, K19.out.at' H18.out.2.2.2.2.1 (fun h => h), H18.out.2.2.2.2.2, heap_lt (K19.out.at' H18.out.2.2.2.2.1 (fun h => h))⟩
      clear H18 K18 K19
      obtain ⟨d2, d3⟩ := bx2 H20.out.1.x4
      obtain ⟨d4, d5⟩ := bx2 H20.out.2.2.1
      by_cases hE : E = 0
      · subst hE
        obtain ⟨y1, y2, y3⟩ := HD0.out rfl
        have HY : Hid (hyF (zl P) (zl C) ≠ 0 ∧ ¬ encLong (zl P) (zl C) ∧ sealed 2 (bodyB (zl P) (zl C)) = xs) := ⟨y1, y2, y3⟩
        clear y1 y2 y3 d2 d3 d4 d5
        obtain ⟨d0, d1⟩ := bx2 H20.out.1.x3
        have ec : Calls Tryz.prog 9 #[.agg #[.slice a0 P.length P.length, .slice a1 C.length C.length]] w19 fun e w' => ∃ a c, e = .returned (.tuple #[.slice a k c, .int .i64 0]) ∧ Bs w' (fun j => j < w'.heap.size) a k c xs ∧ Kept No w19 w' := by
          have al := H20.out.1
          have hh := al.g3
          have hh2 := al.g2
          have := encode_own w19 al.t.p (fun j hj => by omega) al.t.c (fun j hj => by omega) HY.out.1 HY.out.2.1
          rw [HY.out.2.2, HLEN.out] at this
          exact this
        go_upto_region 19 with (go_at_call 9; refine ec.mono ?_; rintro e w20 ⟨ea, ec1, rfl, b20, k20⟩; have K20 : Hid (Bs w20 (fun j => j < w20.heap.size) ea k ec1 xs ∧ Kept No w19 w20) := ⟨b20, k20⟩; clear ec b20 k20 d0 d1)
        have va : Calls Tryz.prog 10 #[.agg #[.slice a0 P.length P.length, .slice a1 C.length C.length]] w20 fun e w' => e = .returned (.int .i64 0) ∧ Kept No w20 w' := by
          have al := H20.out.1.keep K20.out.2
          have hh := al.g3
          have hh2 := al.g2
          exact valid_own w20 al.t.p (fun j hj => by omega) al.t.c (fun j hj => by omega) HY.out.1
        obtain ⟨d0, d1⟩ := bx2 (H20.out.1.keep K20.out.2).x3
        have HSB : Hid (∀ W, Kept No w20 W → Calls Tryz.prog 7 #[.slice ea k ec1, .slice ba k bc] W fun e w' => e = .returned (.bool true) ∧ Kept No W w') := fun W kw => sameB_yes W (K20.out.1.kept kw (fun _ _ h => h)) ((H20.out.1.keep K20.out.2).keep kw).arg
        have HAP : Hid (∀ W, Kept No w20 W → Calls Tryz.prog 11 #[.agg #[.slice a0 P.length P.length, .slice a1 C.length C.length]] W fun e w' => e = .returned (.bool true) ∧ Kept (fun j => Blk a0 j ∨ Blk a1 j) W w') := fun W kw => by
          have al := (H20.out.1.keep K20.out.2).keep kw
          obtain ⟨f0, hf0⟩ := al.tw.p
          obtain ⟨f1, hf1⟩ := al.tw.c
          have hh := al.g3
          have hh2 := al.g2
          exact apart_yes W hf0 hf1 al.tw.dis (fun j hj => by have := al.tw.b0 j hj; omega) (fun j hj => by have := al.tw.b1 j hj; omega) p1 p2
        have HAK : Hid (∀ W W', Kept No w20 W → Kept (fun j => Blk a0 j ∨ Blk a1 j) W W' → Kept No w W' ∧ (W'.heap[B4]? = some (.cells #[.slice b0 P.length c0, .slice b1 C.length c1] 25)) ∧ (W'.heap[B6]? = some (.cells #[.slice r0 P.length P.length, .slice r1 C.length C.length] 25)) ∧ Calls Tryz.prog 6 #[.agg #[.slice r0 P.length P.length, .slice r1 C.length C.length], .agg #[.slice b0 P.length c0, .slice b1 C.length c1]] W' fun e w' => e = .returned (.bool true) ∧ Kept No W' w') := fun W W' kw kx => by
          have al := (H20.out.1.keep K20.out.2).keep kw
          have q := H20.out
          have kk := K20.out.2.trans kw (fun _ h => h.elim)
          have g2 := al.g2
          have s4 := al.s4
          have lo := al.lo
          have lt6 := q.2.2.2.1
          have hblk : ∀ j, Blk a0 j ∨ Blk a1 j → g + 1 ≤ j ∧ j < h1 := fun j hj => by
            rcases hj with hj | hj
            · exact al.tw.b0 j hj
            · exact al.tw.b1 j hj
          have u' := al.u.kept kx (fun b q1 q2 e => by have := hblk b e; omega)
          have k' := (q.2.1.keep kk).kept kx (fun b q1 q2 e => by have := hblk b e; omega)
          exact ⟨al.kp.trans kx (fun j e => .inr (by have := hblk j e; omega)), kx.at' al.x4 (fun e => by have := hblk _ e; omega), kx.at' (kk.at' q.2.2.1 (fun h => h)) (fun e => by have := hblk _ e; omega), sameT_yes W' k'.p u'.p k'.c u'.c⟩
        go_wp2_with (first
          | (go_at_call 10; refine va.mono ?_; rintro e w21 ⟨rfl, k21⟩; have K21 : Hid (Kept No w20 w21) := k21; have sb := HSB.out w21 k21; clear va k21 d0 d1; obtain ⟨d0, d1⟩ := bx2 ((H20.out.1.keep K20.out.2).keep K21.out).x3)
          | (go_at_call 7; refine sb.mono ?_; rintro e w22 ⟨rfl, k22⟩; have K22 : Hid (Kept No w20 w22) := K21.out.trans k22 (fun _ h => h.elim); have ap := HAP.out w22 K22.out; clear sb k22 d0 d1; obtain ⟨d0, d1⟩ := bx2 ((H20.out.1.keep K20.out.2).keep K22.out).x3)
          | (go_at_call 11; refine ap.mono ?_; rintro e w23 ⟨rfl, k23⟩; obtain ⟨kw23, x4, x6, st⟩ := HAK.out w22 w23 K22.out k23; have K23 : Hid (Kept No w w23) := kw23; clear ap k23 d0 d1 kw23; obtain ⟨d2, d3⟩ := bx2 x4; obtain ⟨d4, d5⟩ := bx2 x6; clear x4 x6)
          | (go_at_call 6; refine st.mono ?_; rintro e w24 ⟨rfl, k24⟩; have K24 : Hid (Kept No w w24) := K23.out.trans k24 (fun _ h => h.elim); clear st k24 d2 d3 d4 d5))
        go_ret
        exact ⟨rfl, K24.out.below0⟩
      · have hE1 : (E != 0) = true := bne_iff_ne.2 hE
        have st := sameT_yes w19 H20.out.2.1.p H20.out.1.u.p H20.out.2.1.c H20.out.1.u.c
        clear hE
        go_wp2_with (go_at_call 6; refine st.mono ?_; rintro e w24 ⟨rfl, k24⟩; have K24 : Hid (Kept No w w24) := H20.out.1.kp.trans k24 (fun _ h => h.elim); clear st k24 d2 d3 d4 d5)
        go_ret
        exact ⟨rfl, K24.out.below0⟩
end Go.Proofs.YtkmpgcgdamcikaaGreatDoor
