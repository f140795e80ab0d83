/-
  One text: DNew0, DNew.
-/
import Derived.Test.YtffgcijicmfmlaaGreatDoorDAdv
namespace Go.Proofs.YtffgcijicmfmlaaGreatDoor
open Go.RowKit Plain
set_option linter.unusedVariables false
set_option maxRecDepth 100000

theorem new_wh2 (w : World) : Calls Tryz.prog 43 #[.int .i64 0] w fun ex w' => ∃ b, ex = .returned (.tuple #[.pointer (some ⟨b, 0, none⟩), .int .i64 0]) ∧ Wh w' (fun k => w.heap.size ≤ k ∧ k < w'.heap.size) b 0 [] ∧ Kept No w w' := by
  refine (new_yes 0 (by omega) w).mono ?_
  rintro ex w' ⟨rfl, hw, hb⟩
  have hlt := hw.lt
  refine ⟨_, rfl, ⟨by omega, _, _, _, _, _, hw, iv_empty 0, rp_empty, fun k hk => ?_⟩, Kept.of_below hb⟩
  rcases hk with rfl | rfl | ⟨j, _, e⟩
  · exact ⟨by omega, hlt⟩
  · exact ⟨by omega, by omega⟩
  · cases e
/-- a wheel's blocks are there -/
theorem Wh.cut {w : World} {F : Nat → Prop} {b n : Nat} {L : List Fi} (h : Wh w F b n L) : Wh w (fun k => F k ∧ k < w.heap.size) b n L := by
  obtain ⟨hn, mb, c, M, S, V, h1, h2, h3, h4⟩ := h
  refine ⟨hn, mb, c, M, S, V, h1, h2, h3, fun k hk => ⟨h4 k hk, ?_⟩⟩
  exact h1.fp_lt hk
theorem Dr.cut {w : World} {d gR bW : Nat} {a : Option Addr} {c : Nat} {FS FW : Nat → Prop} {xs : List Srv} {now : Nat} {r : Nat → Int} {nw : Nat} {L : List Fi} (h : Dr w d gR bW a c FS FW xs now r nw L) : Dr w d gR bW a c FS (fun k => FW k ∧ k < w.heap.size) xs now r nw L := by
  obtain ⟨p1, p2, p3, p4, p5, p6⟩ := h.ap
  exact ⟨h.c0, h.c1, h.c2, h.c3, h.c4, h.fz, h.sv, h.ct, h.wh.cut, h.sl, p1, p2, fun e => p3 e.1, p4, fun e => p5 e.1, fun k h1 h2 => p6 k h1 h2.1⟩

def mkI (n : Nat) (W : World) : World := W.alloc (.cells (madeCells (Value.int .i64 0).cells n) 3)
theorem mkI_run (n : Nat) (hn : n ≤ 32) (W : World) : (Instr.makeSlice 23 (.int .i64 n) (.int .i64 n)).run Tryz.prog W = .ok (.slice (some ⟨W.heap.size, 0, none⟩) n n) (mkI n W) := by
  obtain ⟨i0, hi, hz0, hz1, hz2⟩ := info_parts Tryz.infoI3
  have hr := run_make (P := Tryz.prog) W 23 3 i0 _ Tryz.underlying23 hi hz0 .i64 .i64 n n (by omega) (Int.le_refl _) (by rw [hz2]; omega) (by omega)
  simp only [Int.toNat_natCast] at hr
  rw [hz1, Nat.mul_one] at hr
  exact hr
theorem mkI_ct (n : Nat) (hn : n ≤ 32) (W : World) : Ct (mkI n W) W.heap.size n (fun _ => 0) ∧ Kept No W (mkI n W) ∧ (mkI n W).heap.size = W.heap.size + 1 := by
  obtain ⟨w1, h1, h2, h3, h4⟩ := make_ints W n hn
  have e := (mkI_run n hn W).symm.trans h1
  injection e with _ e
  rw [e]
  exact ⟨h2, h3, h4⟩
/-- the dispatcher's block laid -/
theorem dr_made {W : World} {gR bW : Nat} {a : Option Addr} {c : Nat} {FS FW : Nat → Prop} {xs : List Srv} (hs : Sv W FS a xs.length c xs) (hc : Ct W gR xs.length (fun _ => 0)) (hw : Wh W FW bW 0 []) (h1 : ∀ k, FS k → k < W.heap.size) (h2 : ∀ k, FW k → k < W.heap.size) (h3 : ¬ FS gR) (h4 : ¬ FW gR) (h5 : ∀ k, FS k → ¬ FW k) :
    Dr (W.alloc (.cells #[.slice a xs.length c, .int .i64 (hyp xs), .int .i64 0, .slice (some ⟨gR, 0, none⟩) xs.length xs.length, wif bW] 56)) W.heap.size gR bW a c FS FW xs 0 (fun _ => 0) 0 [] := by
  have hb := World.alloc_heap_new W (.cells #[.slice a xs.length c, .int .i64 (hyp xs), .int .i64 0, .slice (some ⟨gR, 0, none⟩) xs.length xs.length, wif bW] 56)
  have k : Kept No W (W.alloc (.cells #[.slice a xs.length c, .int .i64 (hyp xs), .int .i64 0, .slice (some ⟨gR, 0, none⟩) xs.length xs.length, wif bW] 56)) := (Kept.refl No W).alloc _
  have hg := hc.lt
  refine ⟨?_, ?_, ?_, ?_, ?_, fun i => by simp only [World.frozen?]; rw [hb]; rfl, hs.keep k, hc.keep k, hw.kept k (fun _ _ h => h), fun j hj => Nat.lt_of_lt_of_le (h1 j hj) k.size, by omega, fun e => by have := h1 _ e; omega, fun e => by have := h2 _ e; omega, h3, h4, h5⟩
  all_goals simp only [World.cell?, hb]; rfl
end Go.Proofs.YtffgcijicmfmlaaGreatDoor

namespace Go.Proofs.YtffgcijicmfmlaaGreatDoor
open Go.RowKit Plain
set_option linter.unusedVariables false
set_option maxRecDepth 100000

theorem tim_yes {xs : List Srv} (h : timF xs xs.length = none) : hyV xs xs.length = (hyp xs : Int) ∧ hyE xs xs.length = 0 := by
  have hv := vd_of h
  constructor
  · unfold hyV
    rw [h]
    show lcmV (zP xs) xs.length 1048576 = (hyp xs : Int)
    unfold hyp
    have := hv.hyp1
    unfold hyp at this
    omega
  · unfold hyE
    rw [h]
theorem tim_no {xs : List Srv} {p : Int × Int} (h : timF xs xs.length = some p) : hyV xs xs.length = 0 ∧ hyE xs xs.length = p.1 := by
  constructor
  · unfold hyV; rw [h]
  · unfold hyE; rw [h]
/-- what the loop of New keeps -/
structure Nv (w wr : World) (d gR bW : Nat) (a : Option Addr) (c : Nat) (FS FW : Nat → Prop) (xs : List Srv) (k : Nat) : Prop where
  ex : ∃ FWk Lk, Dr wr d gR bW a c FS FWk xs 0 (fun _ => 0) 0 Lk ∧ (∀ x, x ∈ Lk ↔ ∃ i : Nat, i < k ∧ x = ⟨((sys xs).O i : Int), (i : Int)⟩) ∧ ∀ j, FWk j → FW j ∨ w.heap.size ≤ j
  kp : Kept (Gd d gR FW) w wr
theorem Nv.keep {w wr w' : World} {d gR bW : Nat} {a : Option Addr} {c : Nat} {FS FW : Nat → Prop} {xs : List Srv} {k : Nat} (h : Nv w wr d gR bW a c FS FW xs k) (hk : Kept No wr w') : Nv w w' d gR bW a c FS FW xs k := by
  obtain ⟨FWk, Lk, h1, h2, h3⟩ := h.ex
  exact ⟨⟨FWk, Lk, h1.keep hk, h2, h3⟩, h.kp.trans hk (fun _ h => h.elim)⟩
theorem rest0_of {xs : List Srv} (hv : Vd xs) {T : List Fi} (hT : ∀ x, x ∈ T ↔ ∃ i : Nat, i < xs.length ∧ x = ⟨((sys xs).O i : Int), (i : Int)⟩ ∧ (sys xs).O i ≤ 0) : ∀ i, i < xs.length → fR (sys xs) T (fun _ => 0) i = (Rule.rest (sys xs) 0 i : Int) := fun i hi => by
  by_cases h0 : (sys xs).O i = 0
  · rw [fR_yes ((hT ⟨((sys xs).O i : Int), (i : Int)⟩).2 ⟨i, hi, rfl, by omega⟩) rfl]
    rw [Rule.rest_rel (s := sys xs) (t := 0) (i := i) ⟨by omega, by simp⟩]
  · rw [fR_no (fun y hy e => by
      obtain ⟨j, hj, ey, hle⟩ := (hT y).1 hy
      have hji : j = i := by rw [ey] at e; dsimp only at e; omega
      subst hji
      omega)]
    rw [Rule.rest_early (s := sys xs) (i := i) 0 (by omega)]
    rfl

set_option maxHeartbeats 8000000 in
theorem newD_yes {F : Nat → Prop} {a : Option Addr} {c : Nat} {xs : List Srv} (w : World) (hg : Gl w) (h : Sv w F a xs.length c xs) (ht : timF xs xs.length = none) :
    Calls Tryz.prog 26 #[.slice a xs.length c] w fun e w' => ∃ d gR bW a' c' FS FW, e = .returned (.tuple #[.pointer (some ⟨d, 0, none⟩), .int .i64 0]) ∧ Dp w' d gR bW a' c' FS FW xs 0 ∧ (∀ k, Fd d gR FS FW k → w.heap.size ≤ k ∧ k < w'.heap.size) ∧ Kept No w w' := by
  have hv := vd_of ht
  have hn := hv.num
  have hH2 := hv.hyp2
  have hc := hyper_any F a xs.length c xs w hg h
  rw [(tim_yes ht).1, (tim_yes ht).2] at hc
  have HS : Hid (Sv w F a xs.length c xs) := h
  have HV : Hid (Vd xs) := hv
  have hnw := fun W => new_wh2 W
  have marm := fun b w => m_arm b w
  have hmk := fun W => mkI_run xs.length hn W
  clear h hg ht hv
  go_enter Tryz.func26, Tryz.ntmps26
  go_upto_region 7 with (first
    | (go_at_call 25; refine hc.mono ?_; rintro e w1 ⟨rfl, hk1⟩; have HK1 : Hid (Kept No w w1) := hk1; clear hk1 hc)
    | (go_at_call 43; refine (hnw _).mono ?_; rintro e w2 ⟨bW, rfl, hw2, hk2⟩; have HW : Hid (Wh w2 (fun k => w1.heap.size ≤ k ∧ k < w2.heap.size) bW 0 [] ∧ Kept No w1 w2) := ⟨hw2, hk2⟩; clear hw2 hk2 hnw))
  have HCL : Hid (∀ W, Kept No w2 W → Calls Tryz.prog 44 #[.slice a xs.length c] W fun e w' => ∃ a' c', e = .returned (.slice a' xs.length c') ∧ Sv w' (fun k => W.heap.size ≤ k ∧ k < w'.heap.size) a' xs.length c' xs ∧ Kept No W w') := fun W hk => clone_srv W (((HS.out.keep HK1.out).keep HW.out.2).keep hk) hn
  have hcl1 := HCL.out w2.drew ((Kept.refl No w2).drew)
  have hcl2 := HCL.out (mkI xs.length w2.drew) (((Kept.refl No w2).drew).trans (mkI_ct xs.length hn w2.drew).2.1 (fun _ h => h.elim))
  go_region_with (first
    | (go_at_call 44; refine hcl1.mono ?_; rintro e w5 ⟨a', c', rfl, hs5, hk5⟩)
    | (go_at_call 44; refine hcl2.mono ?_; rintro e w5 ⟨a', c', rfl, hs5, hk5⟩))
  · -- first order
    have HQ : Hid (∃ FS FW, Dr ((mkI xs.length w5).alloc (.cells #[.slice a' xs.length c', .int .i64 (hyp xs), .int .i64 0, .slice (some ⟨w5.heap.size, 0, none⟩) xs.length xs.length, wif bW] 56)) (mkI xs.length w5).heap.size w5.heap.size bW a' c' FS FW xs 0 (fun _ => 0) 0 [] ∧ (∀ k, Fd (mkI xs.length w5).heap.size w5.heap.size FS FW k → w.heap.size ≤ k ∧ k < ((mkI xs.length w5).alloc (.cells #[.slice a' xs.length c', .int .i64 (hyp xs), .int .i64 0, .slice (some ⟨w5.heap.size, 0, none⟩) xs.length xs.length, wif bW] 56)).heap.size) ∧ Kept No w ((mkI xs.length w5).alloc (.cells #[.slice a' xs.length c', .int .i64 (hyp xs), .int .i64 0, .slice (some ⟨w5.heap.size, 0, none⟩) xs.length xs.length, wif bW] 56))) := by
      obtain ⟨m1, m2, m3⟩ := mkI_ct xs.length hn w5
      obtain ⟨g1, g2⟩ := HW.out
      have k25 : Kept No w2 w5 := ((Kept.refl No w2).drew).trans hk5 (fun _ h => h.elim)
      have s1 := HK1.out.size
      have s2 := g2.size
      have s5 := k25.size
      have sd : w2.drew.heap.size = w2.heap.size := rfl
      refine ⟨_, _, dr_made (hs5.keep m2) m1 ((g1.kept k25 (fun _ _ h => h)).kept m2 (fun _ _ h => h)) (fun k hk => by omega) (fun k hk => by omega) (fun e => by omega) (fun e => by omega) (fun k e1 e2 => by omega), fun k hk => ?_, (((HK1.out.trans g2 (fun _ h => h.elim)).trans k25 (fun _ h => h.elim)).trans m2 (fun _ h => h.elim)).alloc _⟩
      rw [World.size_alloc]
      rcases hk with h | h | h | h <;> omega
    clear hs5 hk5 hcl1 hcl2 HCL hmk
    unfold wif at HQ
    generalize ((mkI xs.length w5).alloc (.cells #[.slice a' xs.length c', .int .i64 (hyp xs), .int .i64 0, .slice (some ⟨w5.heap.size, 0, none⟩) xs.length xs.length, .iface 74 (.pointer (some ⟨bW, 0, none⟩))] 56)) = w6 at *
    generalize (mkI xs.length w5).heap.size = d0 at *
    generalize w5.heap.size = gR at *
    obtain ⟨FS, FW, hD0, hB0, hK0⟩ := HQ.out
    have HD0 : Hid (Dr w6 d0 gR bW a' c' FS FW xs 0 (fun _ => 0) 0 [] ∧ (∀ k, Fd d0 gR FS FW k → w.heap.size ≤ k ∧ k < w6.heap.size) ∧ Kept No w w6) := ⟨hD0, hB0, hK0⟩
    have d0c := hD0.c0
    have hcap := hD0.sv.cap
    have hmax := hD0.sv.max
    clear hD0 hB0 hK0 HQ
    go_wp2
    clear d0c
    go_loopw [40] (fun x wr => ∃ k : Nat, k ≤ xs.length ∧ x = .int .i64 k ∧ Nv w6 wr d0 gR bW a' c' FS FW xs k) (fun x _ => xs.length - (intOf x).toNat)
    case atStart => exact ⟨0, Nat.zero_le _, rfl, ⟨FW, [], HD0.out.1, fun x => ⟨(fun h => by cases h), fun h => by obtain ⟨i, hi, _⟩ := h; omega⟩, fun j hj => .inl hj⟩, Kept.refl _ w6⟩
    case round =>
      obtain ⟨k, hk, rfl, hnv⟩ := hrel
      by_cases hlt : k < xs.length
      · obtain ⟨FWk, Lk, hDk, hMk, hFk⟩ := hnv.ex
        obtain ⟨hok4, b, o, rfl, hbb, e0, e1, e2, e3⟩ := hDk.sv.gs4 hlt
        have hO := HV.out.off k hlt
        have hP := HV.out.per k hlt
        have hOn : (gs xs k).o = ((sys xs).O k : Int) := by show (gs xs k).o = (((gs xs k).o.toNat : Nat) : Int); omega
        have HNV : Hid (Nv w6 wr d0 gR bW (some ⟨b, o, none⟩) c' FS FW xs k ∧ Dr wr d0 gR bW (some ⟨b, o, none⟩) c' FS FWk xs 0 (fun _ => 0) 0 Lk ∧ (∀ x, x ∈ Lk ↔ ∃ i : Nat, i < k ∧ x = ⟨((sys xs).O i : Int), (i : Int)⟩) ∧ ∀ j, FWk j → FW j ∨ w6.heap.size ≤ j) := ⟨hnv, hDk, hMk, hFk⟩
        clear hnv hDk hMk hFk
        rw [hOn] at e2 hO
        obtain ⟨O, hOO⟩ : ∃ O, (sys xs).O k = O := ⟨_, rfl⟩
        rw [hOO] at e2 hO
        have HOO : Hid ((sys xs).O k = O) := hOO
        clear hOn hOO
        generalize gs xs k = x at *
        obtain ⟨xp, xb, xo, xq⟩ := x
        dsimp only at e0 e1 e2 e3 hP hO
        go_upto_region 11 with fail
        have kal : Kept No wr (wr.alloc (.cells #[.int .i64 xp, .int .i64 xb, .int .i64 (O : Int), .int .i64 xq] 36)) := (Kept.refl No wr).alloc _
        have b2 := World.alloc_heap_new wr (.cells #[.int .i64 xp, .int .i64 xb, .int .i64 (O : Int), .int .i64 xq] 36)
        have HNV2 : Hid (Kept (Gd d0 gR FW) w6 (wr.alloc (.cells #[.int .i64 xp, .int .i64 xb, .int .i64 (O : Int), .int .i64 xq] 36)) ∧ Dr (wr.alloc (.cells #[.int .i64 xp, .int .i64 xb, .int .i64 (O : Int), .int .i64 xq] 36)) d0 gR bW (some ⟨b, o, none⟩) c' FS FWk xs 0 (fun _ => 0) 0 Lk) := ⟨HNV.out.1.kp.trans kal (fun _ h => h.elim), HNV.out.2.1.keep kal⟩
        clear kal e0 e1 e2 e3
        generalize wr.alloc (.cells #[.int .i64 xp, .int .i64 xb, .int .i64 (O : Int), .int .i64 xq] 36) = wq at *
        obtain ⟨y0, y1, y2, y3⟩ := cells4r b2
        generalize hz : wr.heap.size = z at *
        clear hz b2 y0 y1 y3
        have d4 := HNV2.out.2.c4
        unfold wif at d4
        have hyes := arm_yes (HNV2.out.2.wh.kept ((Kept.refl No wq).drew) (fun _ _ h => h)) ⟨(O : Int), (k : Int)⟩ ⟨by show ((0 : Nat) : Int) ≤ (O : Int); omega, by show (O : Int) < 1099511627776; omega, by show (0 : Int) ≤ (k : Int); omega, by show (k : Int) ≤ 65535; omega⟩
        dsimp only at hyes
        have HNX : Hid (∀ w7 F7, Wh w7 F7 bW 0 (ins ⟨(O : Int), (k : Int)⟩ (rem (k : Int) Lk)) → Kept FWk wq.drew w7 → (∀ j, F7 j → FWk j ∨ wq.drew.heap.size ≤ j) → Nv w6 w7 d0 gR bW (some ⟨b, o, none⟩) c' FS FW xs (k + 1)) := fun w7 F7 q1 q2 q3 => by
          obtain ⟨g1, g2⟩ := HNV2.out
          obtain ⟨_, _, g3, g4⟩ := HNV.out
          have hs := g1.size
          have hsd : wq.drew.heap.size = wq.heap.size := rfl
          refine ⟨⟨F7, _, (g2.keep ((Kept.refl No wq).drew)).turn q2 q1 q3, fun x => ?_, fun j hj => ?_⟩, g1.drew.trans q2 (fun j hj => ?_)⟩
          · rw [mem_ins, mem_rem, g3 x]
            constructor
            · rintro (h1 | ⟨⟨i, hi, h1⟩, _⟩)
              · exact ⟨k, by omega, by rw [HOO.out]; exact h1⟩
              · exact ⟨i, by omega, h1⟩
            · rintro ⟨i, hi, h1⟩
              by_cases ei : i = k
              · subst ei; exact .inl (by rw [← HOO.out]; exact h1)
              · exact .inr ⟨⟨i, by omega, h1⟩, by rw [h1]; show (i : Int) ≠ (k : Int); omega⟩
          · rcases q3 j hj with h | h
            · exact g4 j h
            · exact .inr (by omega)
          · rcases g4 j hj with h | h
            · exact .inl (.inr (.inr h))
            · exact .inr h
        have ma := fun w => marm bW w
        go_region_with (go_at_call 110; refine hyes.mono ?_; rintro e w7 ⟨rfl, F7, q1, q2, q3⟩; have HN7 : Hid (Nv w6 w7 d0 gR bW (some ⟨b, o, none⟩) c' FS FW xs (k + 1)) := HNX.out w7 F7 q1 q2 q3; clear q1 q2 q3)
        all_goals clear HNX hyes y2 d4
        all_goals go_wp2
        all_goals go_roundw
        case rel => exact ⟨k + 1, by omega, by go_num, HN7.out⟩
        case measure => simp [intOf]; omega
        case rel => exact ⟨k + 1, by omega, by go_num, HN7.out⟩
        case measure => simp [intOf]; omega
      · have hke : k = xs.length := by omega
        subst hke
        obtain ⟨FWk, Lk, hDk, hMk, hFk⟩ := hnv.ex
        have HNV : Hid (Kept (Gd d0 gR FW) w6 wr ∧ ∀ j, FWk j → FW j ∨ w6.heap.size ≤ j) := ⟨hnv.kp, hFk⟩
        have hMm : Mm xs.length (sys xs).O Lk := fun x => by
          rw [hMk x]
          constructor
          · rintro ⟨i, hi, h1⟩
            have := HV.out.off i hi
            have := HV.out.per i hi
            exact ⟨i, hi, h1, by show (gs xs i).o.toNat < _; omega⟩
          · rintro ⟨i, hi, h1, _⟩
            exact ⟨i, hi, h1⟩
        have hpass := pass_any HV.out hDk 0 (Nat.le_refl _) (by omega) hMm (fun i hi hgt => (Rule.nx_first HV.out.bd.ok hi hgt).symm)
        rw [show ((0 : Nat) : Int) = 0 from rfl] at hpass
        clear hnv hDk hMk hFk hMm
        go_wp2_with (first
          | (go_at_call 46; refine hpass.mono ?_; rintro e w8 ⟨v, T, L', FW', rfl, p1, p2, p3, p4, p5, p6, p7, p8⟩; have hfill := fill_any HV.out p4 p1 p3 (fun x hx => (by obtain ⟨i, hi, e, _⟩ := (p2 x).1 hx; exact ⟨i, hi, by rw [e]⟩)) p7; have HQ8 : Hid ((∀ x, x ∈ T ↔ ∃ i : Nat, i < xs.length ∧ x = ⟨((sys xs).O i : Int), (i : Int)⟩ ∧ (sys xs).O i ≤ 0) ∧ Mm xs.length (Rule.nx (sys xs) 0) L' ∧ (∀ j, FW' j → FWk j ∨ wr.heap.size ≤ j) ∧ Kept (fun j => j = d0 ∨ FWk j) wr w8) := ⟨p2, p5, p6, p8⟩; obtain ⟨va, vc, hvv⟩ := row_slice p1; subst hvv; clear p1 p2 p3 p4 p5 p6 p7 p8 hpass)
          | (go_at_call 45; refine hfill.mono ?_; rintro e w9 ⟨rfl, q1, q2⟩; have HG : Hid (Dp w9 d0 gR bW a' c' FS (fun j => FW' j ∧ j < w9.heap.size) xs 0 ∧ (∀ j, Fd d0 gR FS (fun j => FW' j ∧ j < w9.heap.size) j → w.heap.size ≤ j ∧ j < w9.heap.size) ∧ Kept No w w9) := (by
              obtain ⟨o1, o2, o3, o4⟩ := HQ8.out
              obtain ⟨g1, g2⟩ := HNV.out
              obtain ⟨z1, z2, z3⟩ := HD0.out
              have hs1 := g1.size
              have hs4 := o4.size
              have hs5 := q2.size
              have hs3 := z3.size
              refine ⟨⟨L', (q1.rests (rest0_of HV.out o1)).cut, o2⟩, fun j hj => ?_, ?_⟩
              · rcases hj with h | h | h | h
                · have := z2 j (.inl h); omega
                · have := z2 j (.inr (.inl h)); omega
                · have := z2 j (.inr (.inr (.inl h))); omega
                · refine ⟨?_, h.2⟩
                  rcases o3 j h.1 with h1 | h1
                  · rcases g2 j h1 with h2 | h2
                    · exact (z2 j (.inr (.inr (.inr h2)))).1
                    · omega
                  · omega
              · have kk : Kept (Gd d0 gR FW) w6 w9 := (g1.trans o4 (fun j e => (by
                  rcases e with e | e
                  · exact .inl (.inl e)
                  · rcases g2 j e with h2 | h2
                    · exact .inl (.inr (.inr h2))
                    · exact .inr h2))).trans q2 (fun j e => .inl (.inr (.inl e)))
                exact z3.trans kk (fun j e => .inr (by
                  rcases e with e | e | e
                  · exact (z2 j (.inl e)).1
                  · exact (z2 j (.inr (.inl e))).1
                  · exact (z2 j (.inr (.inr (.inr e)))).1))); clear q1 q2 hfill))
        go_ret2
        exact ⟨d0, gR, bW, a', c', FS, _, rfl, HG.out⟩
  · -- second order
    have HQ : Hid (∃ FS FW, Dr (w5.alloc (.cells #[.slice a' xs.length c', .int .i64 (hyp xs), .int .i64 0, .slice (some ⟨w2.heap.size, 0, none⟩) xs.length xs.length, wif bW] 56)) w5.heap.size w2.heap.size bW a' c' FS FW xs 0 (fun _ => 0) 0 [] ∧ (∀ k, Fd w5.heap.size w2.heap.size FS FW k → w.heap.size ≤ k ∧ k < (w5.alloc (.cells #[.slice a' xs.length c', .int .i64 (hyp xs), .int .i64 0, .slice (some ⟨w2.heap.size, 0, none⟩) xs.length xs.length, wif bW] 56)).heap.size) ∧ Kept No w (w5.alloc (.cells #[.slice a' xs.length c', .int .i64 (hyp xs), .int .i64 0, .slice (some ⟨w2.heap.size, 0, none⟩) xs.length xs.length, wif bW] 56))) := by
      obtain ⟨m1, m2, m3⟩ := mkI_ct xs.length hn w2.drew
      obtain ⟨g1, g2⟩ := HW.out
      have sd : w2.drew.heap.size = w2.heap.size := rfl
      have k2 : Kept No w2 (mkI xs.length w2.drew) := ((Kept.refl No w2).drew).trans m2 (fun _ h => h.elim)
      have k25 : Kept No w2 w5 := k2.trans hk5 (fun _ h => h.elim)
      have s1 := HK1.out.size
      have s2 := g2.size
      have s5 := hk5.size
      refine ⟨_, _, dr_made hs5 (m1.keep hk5) (g1.kept k25 (fun _ _ h => h)) (fun k hk => by omega) (fun k hk => by omega) (fun e => by omega) (fun e => by omega) (fun k e1 e2 => by omega), fun k hk => ?_, ((HK1.out.trans g2 (fun _ h => h.elim)).trans k25 (fun _ h => h.elim)).alloc _⟩
      rw [World.size_alloc]
      rcases hk with h | h | h | h <;> omega
    clear hs5 hk5 hcl1 hcl2 HCL hmk
    unfold wif at HQ
    generalize (w5.alloc (.cells #[.slice a' xs.length c', .int .i64 (hyp xs), .int .i64 0, .slice (some ⟨w2.heap.size, 0, none⟩) xs.length xs.length, .iface 74 (.pointer (some ⟨bW, 0, none⟩))] 56)) = w6 at *
    generalize w5.heap.size = d0 at *
    generalize w2.heap.size = gR at *
    obtain ⟨FS, FW, hD0, hB0, hK0⟩ := HQ.out
    have HD0 : Hid (Dr w6 d0 gR bW a' c' FS FW xs 0 (fun _ => 0) 0 [] ∧ (∀ k, Fd d0 gR FS FW k → w.heap.size ≤ k ∧ k < w6.heap.size) ∧ Kept No w w6) := ⟨hD0, hB0, hK0⟩
    have d0c := hD0.c0
    have hcap := hD0.sv.cap
    have hmax := hD0.sv.max
    clear hD0 hB0 hK0 HQ
    go_wp2
    clear d0c
    go_loopw [40] (fun x wr => ∃ k : Nat, k ≤ xs.length ∧ x = .int .i64 k ∧ Nv w6 wr d0 gR bW a' c' FS FW xs k) (fun x _ => xs.length - (intOf x).toNat)
    case atStart => exact ⟨0, Nat.zero_le _, rfl, ⟨FW, [], HD0.out.1, fun x => ⟨(fun h => by cases h), fun h => by obtain ⟨i, hi, _⟩ := h; omega⟩, fun j hj => .inl hj⟩, Kept.refl _ w6⟩
    case round =>
      obtain ⟨k, hk, rfl, hnv⟩ := hrel
      by_cases hlt : k < xs.length
      · obtain ⟨FWk, Lk, hDk, hMk, hFk⟩ := hnv.ex
        obtain ⟨hok4, b, o, rfl, hbb, e0, e1, e2, e3⟩ := hDk.sv.gs4 hlt
        have hO := HV.out.off k hlt
        have hP := HV.out.per k hlt
        have hOn : (gs xs k).o = ((sys xs).O k : Int) := by show (gs xs k).o = (((gs xs k).o.toNat : Nat) : Int); omega
        have HNV : Hid (Nv w6 wr d0 gR bW (some ⟨b, o, none⟩) c' FS FW xs k ∧ Dr wr d0 gR bW (some ⟨b, o, none⟩) c' FS FWk xs 0 (fun _ => 0) 0 Lk ∧ (∀ x, x ∈ Lk ↔ ∃ i : Nat, i < k ∧ x = ⟨((sys xs).O i : Int), (i : Int)⟩) ∧ ∀ j, FWk j → FW j ∨ w6.heap.size ≤ j) := ⟨hnv, hDk, hMk, hFk⟩
        clear hnv hDk hMk hFk
        rw [hOn] at e2 hO
        obtain ⟨O, hOO⟩ : ∃ O, (sys xs).O k = O := ⟨_, rfl⟩
        rw [hOO] at e2 hO
        have HOO : Hid ((sys xs).O k = O) := hOO
        clear hOn hOO
        generalize gs xs k = x at *
        obtain ⟨xp, xb, xo, xq⟩ := x
        dsimp only at e0 e1 e2 e3 hP hO
        go_upto_region 11 with fail
        have kal : Kept No wr (wr.alloc (.cells #[.int .i64 xp, .int .i64 xb, .int .i64 (O : Int), .int .i64 xq] 36)) := (Kept.refl No wr).alloc _
        have b2 := World.alloc_heap_new wr (.cells #[.int .i64 xp, .int .i64 xb, .int .i64 (O : Int), .int .i64 xq] 36)
        have HNV2 : Hid (Kept (Gd d0 gR FW) w6 (wr.alloc (.cells #[.int .i64 xp, .int .i64 xb, .int .i64 (O : Int), .int .i64 xq] 36)) ∧ Dr (wr.alloc (.cells #[.int .i64 xp, .int .i64 xb, .int .i64 (O : Int), .int .i64 xq] 36)) d0 gR bW (some ⟨b, o, none⟩) c' FS FWk xs 0 (fun _ => 0) 0 Lk) := ⟨HNV.out.1.kp.trans kal (fun _ h => h.elim), HNV.out.2.1.keep kal⟩
        clear kal e0 e1 e2 e3
        generalize wr.alloc (.cells #[.int .i64 xp, .int .i64 xb, .int .i64 (O : Int), .int .i64 xq] 36) = wq at *
        obtain ⟨y0, y1, y2, y3⟩ := cells4r b2
        generalize hz : wr.heap.size = z at *
        clear hz b2 y0 y1 y3
        have d4 := HNV2.out.2.c4
        unfold wif at d4
        have hyes := arm_yes (HNV2.out.2.wh.kept ((Kept.refl No wq).drew) (fun _ _ h => h)) ⟨(O : Int), (k : Int)⟩ ⟨by show ((0 : Nat) : Int) ≤ (O : Int); omega, by show (O : Int) < 1099511627776; omega, by show (0 : Int) ≤ (k : Int); omega, by show (k : Int) ≤ 65535; omega⟩
        dsimp only at hyes
        have HNX : Hid (∀ w7 F7, Wh w7 F7 bW 0 (ins ⟨(O : Int), (k : Int)⟩ (rem (k : Int) Lk)) → Kept FWk wq.drew w7 → (∀ j, F7 j → FWk j ∨ wq.drew.heap.size ≤ j) → Nv w6 w7 d0 gR bW (some ⟨b, o, none⟩) c' FS FW xs (k + 1)) := fun w7 F7 q1 q2 q3 => by
          obtain ⟨g1, g2⟩ := HNV2.out
          obtain ⟨_, _, g3, g4⟩ := HNV.out
          have hs := g1.size
          have hsd : wq.drew.heap.size = wq.heap.size := rfl
          refine ⟨⟨F7, _, (g2.keep ((Kept.refl No wq).drew)).turn q2 q1 q3, fun x => ?_, fun j hj => ?_⟩, g1.drew.trans q2 (fun j hj => ?_)⟩
          · rw [mem_ins, mem_rem, g3 x]
            constructor
            · rintro (h1 | ⟨⟨i, hi, h1⟩, _⟩)
              · exact ⟨k, by omega, by rw [HOO.out]; exact h1⟩
              · exact ⟨i, by omega, h1⟩
            · rintro ⟨i, hi, h1⟩
              by_cases ei : i = k
              · subst ei; exact .inl (by rw [← HOO.out]; exact h1)
              · exact .inr ⟨⟨i, by omega, h1⟩, by rw [h1]; show (i : Int) ≠ (k : Int); omega⟩
          · rcases q3 j hj with h | h
            · exact g4 j h
            · exact .inr (by omega)
          · rcases g4 j hj with h | h
            · exact .inl (.inr (.inr h))
            · exact .inr h
        have ma := fun w => marm bW w
        go_region_with (go_at_call 110; refine hyes.mono ?_; rintro e w7 ⟨rfl, F7, q1, q2, q3⟩; have HN7 : Hid (Nv w6 w7 d0 gR bW (some ⟨b, o, none⟩) c' FS FW xs (k + 1)) := HNX.out w7 F7 q1 q2 q3; clear q1 q2 q3)
        all_goals clear HNX hyes y2 d4
        all_goals go_wp2
        all_goals go_roundw
        case rel => exact ⟨k + 1, by omega, by go_num, HN7.out⟩
        case measure => simp [intOf]; omega
        case rel => exact ⟨k + 1, by omega, by go_num, HN7.out⟩
        case measure => simp [intOf]; omega
      · have hke : k = xs.length := by omega
        subst hke
        obtain ⟨FWk, Lk, hDk, hMk, hFk⟩ := hnv.ex
        have HNV : Hid (Kept (Gd d0 gR FW) w6 wr ∧ ∀ j, FWk j → FW j ∨ w6.heap.size ≤ j) := ⟨hnv.kp, hFk⟩
        have hMm : Mm xs.length (sys xs).O Lk := fun x => by
          rw [hMk x]
          constructor
          · rintro ⟨i, hi, h1⟩
            have := HV.out.off i hi
            have := HV.out.per i hi
            exact ⟨i, hi, h1, by show (gs xs i).o.toNat < _; omega⟩
          · rintro ⟨i, hi, h1, _⟩
            exact ⟨i, hi, h1⟩
        have hpass := pass_any HV.out hDk 0 (Nat.le_refl _) (by omega) hMm (fun i hi hgt => (Rule.nx_first HV.out.bd.ok hi hgt).symm)
        rw [show ((0 : Nat) : Int) = 0 from rfl] at hpass
        clear hnv hDk hMk hFk hMm
        go_wp2_with (first
          | (go_at_call 46; refine hpass.mono ?_; rintro e w8 ⟨v, T, L', FW', rfl, p1, p2, p3, p4, p5, p6, p7, p8⟩; have hfill := fill_any HV.out p4 p1 p3 (fun x hx => (by obtain ⟨i, hi, e, _⟩ := (p2 x).1 hx; exact ⟨i, hi, by rw [e]⟩)) p7; have HQ8 : Hid ((∀ x, x ∈ T ↔ ∃ i : Nat, i < xs.length ∧ x = ⟨((sys xs).O i : Int), (i : Int)⟩ ∧ (sys xs).O i ≤ 0) ∧ Mm xs.length (Rule.nx (sys xs) 0) L' ∧ (∀ j, FW' j → FWk j ∨ wr.heap.size ≤ j) ∧ Kept (fun j => j = d0 ∨ FWk j) wr w8) := ⟨p2, p5, p6, p8⟩; obtain ⟨va, vc, hvv⟩ := row_slice p1; subst hvv; clear p1 p2 p3 p4 p5 p6 p7 p8 hpass)
          | (go_at_call 45; refine hfill.mono ?_; rintro e w9 ⟨rfl, q1, q2⟩; have HG : Hid (Dp w9 d0 gR bW a' c' FS (fun j => FW' j ∧ j < w9.heap.size) xs 0 ∧ (∀ j, Fd d0 gR FS (fun j => FW' j ∧ j < w9.heap.size) j → w.heap.size ≤ j ∧ j < w9.heap.size) ∧ Kept No w w9) := (by
              obtain ⟨o1, o2, o3, o4⟩ := HQ8.out
              obtain ⟨g1, g2⟩ := HNV.out
              obtain ⟨z1, z2, z3⟩ := HD0.out
              have hs1 := g1.size
              have hs4 := o4.size
              have hs5 := q2.size
              have hs3 := z3.size
              refine ⟨⟨L', (q1.rests (rest0_of HV.out o1)).cut, o2⟩, fun j hj => ?_, ?_⟩
              · rcases hj with h | h | h | h
                · have := z2 j (.inl h); omega
                · have := z2 j (.inr (.inl h)); omega
                · have := z2 j (.inr (.inr (.inl h))); omega
                · refine ⟨?_, h.2⟩
                  rcases o3 j h.1 with h1 | h1
                  · rcases g2 j h1 with h2 | h2
                    · exact (z2 j (.inr (.inr (.inr h2)))).1
                    · omega
                  · omega
              · have kk : Kept (Gd d0 gR FW) w6 w9 := (g1.trans o4 (fun j e => (by
                  rcases e with e | e
                  · exact .inl (.inl e)
                  · rcases g2 j e with h2 | h2
                    · exact .inl (.inr (.inr h2))
                    · exact .inr h2))).trans q2 (fun j e => .inl (.inr (.inl e)))
                exact z3.trans kk (fun j e => .inr (by
                  rcases e with e | e | e
                  · exact (z2 j (.inl e)).1
                  · exact (z2 j (.inr (.inl e))).1
                  · exact (z2 j (.inr (.inr (.inr e)))).1))); clear q1 q2 hfill))
        go_ret2
        exact ⟨d0, gR, bW, a', c', FS, _, rfl, HG.out⟩
end Go.Proofs.YtffgcijicmfmlaaGreatDoor
