/-
  One text: KRu, KRs.
-/
import Derived.Test.YtibmgpinfdcaoaaGreatDoorG36
import Derived.Laws.OwnMore
namespace Go.Proofs.YtibmgpinfdcaoaaGreatDoor
open Go.RowKit Plain
set_option linter.unusedVariables false
set_option linter.unusedSimpArgs false
set_option maxRecDepth 100000

theorem ncL_set (f : Nat → Int) (n k : Nat) (v : Int) : (ncL f n).set k (.int .i64 v) = ncL (upI f k v) n := by
  apply List.ext_getElem?
  intro i
  unfold ncL upI
  simp only [List.getElem?_set, List.length_map, List.length_range, List.getElem?_map]
  by_cases e : k = i
  · subst e
    by_cases h : k < n
    · simp [h]
    · simp [h]
  · rw [if_neg e]
    by_cases h : i < n
    · simp [h]; intro e2; exact absurd e2.symm e
    · simp [h]
theorem ncL_len (f : Nat → Int) (n : Nat) : (ncL f n).length = n := by simp [ncL]
theorem ncL_congr {f g : Nat → Int} {n : Nat} (h : ∀ i, i < n → f i = g i) : ncL f n = ncL g n := by
  unfold ncL
  apply List.map_congr_left
  intro i hi
  rw [List.mem_range] at hi
  rw [h i hi]
theorem own_one (w : World) (x : Int) : (w.alloc (.cells #[.int .i64 x] 3)).ownsRow w.heap.size 3 1 (.slice (some ⟨w.heap.size, 0, none⟩) 1 1) 1 [.int .i64 x] :=
  ⟨rfl, .inr ⟨w.heap.size, 1, #[.int .i64 x], rfl, Nat.le_refl _, World.alloc_heap_new w _, Nat.le_refl _, by unfold maxLen; omega, rfl, rfl⟩⟩
/-- the list while it is made -/
theorem us_made (xs : List Srv) (fr be k : Nat) : ncL (usR xs fr be k) (k + 1) ++ [.int .i64 (cqU xs fr be (k + 1))] = ncL (upI (usR xs fr be k) (k + 1) (cqU xs fr be (k + 1))) (k + 2) := by
  rw [ncL_succ (upI (usR xs fr be k) (k + 1) (cqU xs fr be (k + 1))) (k + 1), upI_same]
  congr 1
  exact ncL_congr (fun i hi => (upI_oth _ _ (by omega)).symm)

set_option maxHeartbeats 8000000 in
theorem refUsed_rw {F : Nat → Prop} {a : Option Addr} {c : Nat} {xs : List Srv} (fr be : Int) (w : World) (h : Sv w F a xs.length c xs) (hF : ∀ k, F k → k < w.heap.size) :
    Calls Tryz.prog 6 #[.slice a xs.length c, .int .i64 fr, .int .i64 be] w fun e w' => ∃ ra rc, e = .returned (.tuple #[.slice ra (uN xs fr be) rc, .int .i64 (uE xs fr be)]) ∧ (Nm w' (fun k => w.heap.size ≤ k ∧ k < w'.heap.size) ra (uN xs fr be) rc (uF xs fr be) ∧ Rw9 w' w.heap.size ra (uN xs fr be) (uF xs fr be)) ∧ Kept No w w' := by
  have hc := rHyper_any F a xs.length c xs w h
  cases ht : timF xs xs.length with
  | some p =>
    obtain ⟨e1, e2, _⟩ := uE_some (fr := fr) (be := be) ht
    rw [e1, e2]
    rw [show hyE xs xs.length = p.1 by unfold hyE; rw [ht]] at hc
    have g0 := tim_neQ ht
    generalize hyV xs xs.length = v at *
    obtain ⟨z, hz⟩ : ∃ z, z = p.1 := ⟨_, rfl⟩
    rw [← hz] at hc g0
    rw [← hz]
    have g1 : (z != 0) = true := by simpa using g0
    clear h ht hz hF e1 e2
    go_enter Tryz.func6, Tryz.ntmps6
    go_wp2_with (go_at_call 20; refine hc.mono ?_; rintro e w1 ⟨rfl, hk1⟩; have HK1 : Hid (Kept No w w1) := hk1; clear hk1 hc)
    go_ret2
    exact ⟨none, 0, rfl, ⟨nm_nil _ _ _, rw9_nil _ _ _⟩, HK1.out⟩
  | none =>
    rw [(tim_yes ht).1, (tim_yes ht).2] at hc
    have hsp := fun W => rspan_any fr be W
    cases hs : spO fr be with
    | false =>
      obtain ⟨e1, e2⟩ := uE_bad (fr := fr) (be := be) ht hs
      rw [e1, e2]
      rw [hs] at hsp
      clear h hF ht e1 e2 hs
      generalize ((hyp xs : Nat) : Int) = Y at *
      go_enter Tryz.func6, Tryz.ntmps6
      go_wp2_with (first
        | (go_at_call 20; refine hc.mono ?_; rintro e w1 ⟨rfl, hk1⟩; have HK1 : Hid (Kept No w w1) := hk1; clear hk1 hc)
        | (go_at_call 21; refine (hsp _).mono ?_; rintro e w2 ⟨rfl, hw2⟩; obtain rfl := hw2.symm))
      go_ret2
      exact ⟨none, 0, rfl, ⟨nm_nil _ _ _, rw9_nil _ _ _⟩, HK1.out⟩
    | true =>
      obtain ⟨e1, e2⟩ := uE_yes (fr := fr) (be := be) ht hs
      obtain ⟨s1, s2, s3⟩ := spO_yes hs
      rw [e1, e2]
      rw [hs] at hsp
      have hv := vd_of ht
      have hH1 := hv.hyp1
      have hH2 := hv.hyp2
      have hn := hv.num
      obtain ⟨f, rfl⟩ := Int.eq_ofNat_of_zero_le s1
      obtain ⟨b, rfl⟩ := Int.eq_ofNat_of_zero_le (show 0 ≤ be by omega)
      have hfb : f ≤ b := by omega
      have hb : b ≤ 1099511627776 := by omega
      show Calls Tryz.prog _ _ w fun e w' => ∃ ra rc, e = _ ∧ (Nm w' _ ra (xs.length + 1) rc (usF xs ((f : Int).toNat) ((b : Int).toNat)) ∧ Rw9 w' _ ra (xs.length + 1) (usF xs ((f : Int).toNat) ((b : Int).toNat))) ∧ Kept No w w'
      rw [Int.toNat_natCast, Int.toNat_natCast]
      have HPY : Hid (∀ W, Kept No w W → Calls Tryz.prog 22 #[.slice a xs.length c, .int .i64 ((2 * hyp xs : Nat) : Int)] W fun e w' => ∃ v, e = .returned v ∧ Oi w' W.heap.size v (Rule.occ (sys xs)) (2 * hyp xs) ∧ Kept No W w') := fun W k => rplay_any hv W (h.keep k) (fun j e => Nat.lt_of_lt_of_le (hF j e) k.size) (2 * hyp xs) (by omega)
      have HBT : Hid (∀ (W : World) (G : Nat → Prop) (pa : Option Addr) (pc p : Nat), Ol W G pa (2 * hyp xs) pc (Rule.occ (sys xs)) → Calls Tryz.prog 23 #[.slice pa (2 * hyp xs : Nat) pc, .int .i64 (hyp xs : Nat), .int .i64 p, .int .i64 f, .int .i64 b] W fun e w' => e = .returned (.int .i64 (cqU xs f b p)) ∧ Kept No W w') := fun W G pa pc p ho => between_any p f b W ho hH1 hH2 (occ_turns hv) hfb hb
      have HBD : Hid (∀ k, 0 ≤ smU xs f b k ∧ smU xs f b k ≤ k * ((b : Int) - f)) := smU_bd xs hfb
      have HCB : Hid (∀ p, 0 ≤ cqU xs f b p ∧ cqU xs f b p ≤ (b : Int) - f) := cqU_bd xs hfb
      have HCS : Hid (∀ k, k ≤ xs.length → usR xs f b k 0 = ((b : Int) - f) - smU xs f b k) := fun k hk => by unfold usR; rw [if_pos rfl]
      have hcap := h.cap
      have hmax := h.max
      have hz2 : (2 : Int) * (hyp xs : Int) = ((2 * hyp xs : Nat) : Int) := by omega
      have HZ2 := hid hz2
      have e00 : usR xs f b 0 0 = (b : Int) - f := by unfold usR smU; simp
      have HE0 := hid e00
      clear h hF ht e1 e2 hs s1 s2 s3 hv e00
      generalize hH : hyp xs = H at *
      obtain ⟨H2, hH2e⟩ : ∃ H2, H2 = 2 * H := ⟨_, rfl⟩
      rw [← hH2e] at HPY HBT HZ2
      have hzz : wrap64 (2 * (H : Int)) = (H2 : Int) := by unfold wrap64; omega
      have hzm : 2 * (H : Int) = (H2 : Int) := by omega
      have hbf : wrap64 ((b : Int) - f) = (b : Int) - f := by unfold wrap64; omega
      obtain ⟨d, hd⟩ : ∃ d : Int, d = (b : Int) - f := ⟨_, rfl⟩
      rw [show (b : Int) - f = d from hd.symm] at hbf
      have hbf : wrap64 ((b : Int) - f) = d := by rw [← hd]; exact hbf
      have hd0 : 0 ≤ d := by omega
      have hd1 : d ≤ 1099511627776 := by omega
      have HD := hid hd
      clear hd hfb hz2 hH2e hH
      go_enter Tryz.func6, Tryz.ntmps6
      go_upto_region 7 with (first
        | (go_at_call 20; refine hc.mono ?_; rintro e w1 ⟨rfl, hk1⟩; have HK1 : Hid (Kept No w w1) := hk1; clear hk1 hc)
        | (go_at_call 21; refine (hsp _).mono ?_; rintro e w2 ⟨rfl, hw2⟩; obtain rfl := hw2.symm)
        | (go_at_call 22; refine (HPY.out _ HK1.out).mono ?_; rintro e w2 ⟨pv, rfl, hoi, hk2⟩; obtain ⟨pa, pc, rfl, hol⟩ := Ol.of hoi; have HOL := hid hol; have HK2 : Hid (Kept No w w2) := HK1.out.trans hk2 (fun _ h => h.elim); clear hoi hol hk2))
      have HSM : Hid (∀ k, smU xs f b k ≤ d) := fun k => by have := smU_le xs (show f ≤ b by have := HD.out; omega) k; have := HD.out; omega
      obtain ⟨i0, hi, hi0, hi1, hi2⟩ := info_parts Tryz.infoI
      go_upto_region 8 with fail
      rw [hbf]
      clear hbf
      go_wp2
      go_loopw [11, 12, 13] (fun v y z13 wr => ∃ k : Nat, k ≤ xs.length ∧ y = .int .i64 ((k : Int) + 1) ∧ wr.ownsRow w2.heap.size 3 1 v (k + 1) (ncL (usR xs f b k) (k + 1)) ∧ Kept No w2 wr) (fun _ y _ _ => xs.length + 1 - (intOf y).toNat)
      case atStart =>
        refine ⟨0, Nat.zero_le _, rfl, ?_, (Kept.refl _ _).alloc _⟩
        have e : ncL (usR xs f b 0) (0 + 1) = [.int .i64 d] := by
          show [Value.int .i64 (usR xs f b 0 0)] = _
          rw [HE0.out, HD.out]
        rw [e]
        exact own_one _ _
      case round =>
        obtain ⟨k, hk, rfl, ho, hkr⟩ := hrel
        have HW := hid (And.intro ho hkr)
        clear ho hkr
        by_cases hlt : k < xs.length
        · have hlz : (k : Int) + 1 ≤ (xs.length : Int) := by omega
          have hb1 := HBT.out wr _ pa pc (k + 1) (HOL.out.kept HW.out.2 (fun _ _ h => h))
          rw [show ((k + 1 : Nat) : Int) = (k : Int) + 1 by omega] at hb1
          have hs1 := HSM.out k
          have hs2 := (HBD.out k).1
          have hs3 := HSM.out (k + 1)
          have hs4 := HCB.out (k + 1)
          have hs5 : smU xs f b (k + 1) = smU xs f b k + cqU xs f b (k + 1) := rfl
          have hs6 := HCS.out k hk
          have hs7 := usR_step xs f b k
          obtain ⟨q, hq⟩ : ∃ q, q = cqU xs f b (k + 1) := ⟨_, rfl⟩
          have hmd := us_made xs f b k
          rw [← hq] at hb1 hs4 hs5 hs7 hmd
          obtain ⟨s, hs⟩ : ∃ s, s = usR xs f b k 0 := ⟨_, rfl⟩
          rw [← hs] at hs6 hs7
          rw [← HD.out] at hs6 hs4
          have b1 : 0 ≤ s - q := by omega
          have b2 : s - q ≤ 1099511627776 := by omega
          have hsq : wrap64 (s - q) = s - q := by unfold wrap64; omega
          have HMD := hid (And.intro hmd (And.intro hs7 hs))
          have HLT := hid (And.intro hlt hk)
          clear hs1 hs2 hs3 hs4 hs5 hs6 hs7 hmd hq hs
          go_upto_region 13 with (first
            | (go_at_call 23; refine hb1.mono ?_; clear hb1; rintro e w3 ⟨rfl, k3⟩; have HW3 := hid (And.intro (k3.owns HW.out.1 (fun _ _ h => h)) (HW.out.2.trans k3 (fun _ h => h.elim))); clear k3)
            | (at_builtin; refine wpList_append_own _ rfl _ _ 25 rfl w2.heap.size 3 i0 (.int .i64 0) 1 8 Tryz.underlying25 hi hi0 hi1 hi2 rfl (by decide) u11 (k + 1) (ncL (usR xs f b k) (k + 1)) rfl (HW3.out.1.alloc _) ⟨w3.heap.size, 0, none⟩ 1 1 [.int .i64 q] rfl rfl (cell_one_new _ _ _) (one_one _ _) (by unfold maxLen; omega) (by omega) (by have := HW3.out.2.size; simp; omega) ?_; intro v4 w4 own4 grow4 _))
          have hkg : Kept No w2 w4 := (HW3.out.2.alloc _).grown grow4 (fun j e => .inr (HW3.out.1.lt j e).1)
          rw [HMD.out.1] at own4
          rcases owns_cells own4 with ⟨_, h0⟩ | ⟨g, cap, rfl, g1, g2, g3, g4, g5, g6⟩
          · omega
          have c0 := g5 0 _ (ncL_get _ (show 0 < k + 1 + 1 by omega))
          rw [upI_oth _ _ (show 0 ≠ k + 1 by omega), ← HMD.out.2.2] at c0
          have f0 := g6 0
          have st := own4.stored 0 (.int .i64 (s - q))
          rw [ncL_set, HMD.out.2.1] at st
          have HN := hid (And.intro st.1 (hkg.grown st.2 (fun j e => .inr (by injection e with e; omega))))
          have hg3 : (k : Int) + 1 + 1 ≤ (cap : Int) := by omega
          clear st g5 g6 own4 grow4 hkg HW HW3
          go_wp2
          go_roundw
          case rel => exact ⟨k + 1, by have := HLT.out; omega, by go_num, HN.out⟩
          case measure => have := HLT.out; simp [intOf]; omega
        · obtain rfl : k = xs.length := by omega
          have hlz : ¬ ((xs.length : Int) + 1 ≤ (xs.length : Int)) := by omega
          obtain ⟨ra, rc, rfl, hnm⟩ := Nm.of2 HW.out.1
          have HNM := hid (And.intro hnm HW.out.2)
          clear hnm HW hk hlt
          go_wp2
          go_ret2
          exact ⟨_, _, rfl, ⟨HNM.out.1.1.mono (fun b hb => ⟨by have := HK2.out.size; omega, hb.2⟩), HNM.out.1.2.low HK2.out.size⟩, HK2.out.trans HNM.out.2 (fun _ h => h.elim)⟩
theorem refUsed_any {F : Nat → Prop} {a : Option Addr} {c : Nat} {xs : List Srv} (fr be : Int) (w : World) (h : Sv w F a xs.length c xs) (hF : ∀ k, F k → k < w.heap.size) :
    Calls Tryz.prog 6 #[.slice a xs.length c, .int .i64 fr, .int .i64 be] w fun e w' => ∃ ra rc, e = .returned (.tuple #[.slice ra (uN xs fr be) rc, .int .i64 (uE xs fr be)]) ∧ Nm w' (fun k => w.heap.size ≤ k ∧ k < w'.heap.size) ra (uN xs fr be) rc (uF xs fr be) ∧ Kept No w w' := by
  refine (refUsed_rw fr be w h hF).mono ?_
  rintro e w' ⟨ra, rc, rfl, h1, k⟩
  exact ⟨ra, rc, rfl, h1.1, k⟩
end Go.Proofs.YtibmgpinfdcaoaaGreatDoor

namespace Go.Proofs.YtibmgpinfdcaoaaGreatDoor
open Go.RowKit Plain
set_option linter.unusedVariables false
set_option linter.unusedSimpArgs false
set_option maxRecDepth 100000

/-! ### a row of truths that is made -/
structure Bw (w : World) (g n : Nat) (f : Nat → Bool) : Prop where
  at' : ∀ i, i < n → w.cell? ⟨g, i, none⟩ = some (.bool (f i))
  fz : ∀ i, w.frozen? ⟨g, i, none⟩ = false
  blk : g < w.heap.size
theorem Bw.kept {w w' : World} {G : Nat → Prop} {g m : Nat} {f : Nat → Bool} (h : Bw w g m f) (k : Kept G w w') (hg : ¬ G g) : Bw w' g m f :=
  ⟨fun i hi => k.cell (h.at' i hi) hg, fun i => by
    have := h.fz i
    simp only [World.frozen?, k.block g h.blk hg] at this ⊢
    exact this, Nat.lt_of_lt_of_le h.blk k.size⟩
theorem Bw.congr {w : World} {g m : Nat} {f f' : Nat → Bool} (h : Bw w g m f) (e : ∀ j, j < m → f j = f' j) : Bw w g m f' := ⟨fun i hi => by rw [← e i hi]; exact h.at' i hi, h.fz, h.blk⟩
theorem Bw.set {w : World} {g m : Nat} {f : Nat → Bool} (h : Bw w g m f) (k : Nat) (v : Bool) : Bw (w.setCell ⟨g, k, none⟩ (.bool v)) g m (fun i => if i = k then v else f i) :=
  ⟨fun i hi => by
    rw [cell_setc (h.at' i hi)]
    by_cases e : i = k
    · rw [if_pos e, if_pos e]
    · rw [if_neg e, if_neg e], frozen_setc h.fz, by have := h.blk; simpa using this⟩
theorem Tryz.infoBl : (Tryz.prog.info? 4).map (fun i => (i.zero, i.size, i.bytes)) = some (some (.bool false), 1, 1) := by kernel_rfl
theorem make_bools (w : World) (n : Nat) (hn : n ≤ 1000) : ∃ w1, (Instr.makeSlice 51 (.int .i64 n) (.int .i64 n)).run Tryz.prog w = .ok (.slice (some ⟨w.heap.size, 0, none⟩) n n) w1 ∧ Bw w1 w.heap.size n (fun _ => false) ∧ Kept No w w1 := by
  obtain ⟨i0, hi, hz0, hz1, hz2⟩ := info_parts Tryz.infoBl
  have hr := run_make (P := Tryz.prog) w 51 4 i0 _ Tryz.underlying51 hi hz0 .i64 .i64 n n (by omega) (Int.le_refl _) (by rw [hz2]; omega) (by omega)
  simp only [Int.toNat_natCast] at hr
  rw [hz1, Nat.mul_one] at hr
  refine ⟨_, hr, ⟨fun i hi => ?_, fun i => ?_, by simp⟩, (Kept.refl No w).alloc _⟩
  · have hb := World.alloc_heap_new w (.cells (madeCells (Value.bool false).cells n) 4)
    have e : (madeCells (Value.bool false).cells n)[i]? = some (.bool false) := by
      rw [show (Value.bool false).cells = #[Value.bool false] from rfl, ← Array.getElem?_toList, toList_madeCells_one, List.getElem?_replicate, if_pos hi]
    simp only [World.cell?]
    rw [hb]
    simpa using e
  · have hb := World.alloc_heap_new w (.cells (madeCells (Value.bool false).cells n) 4)
    simp only [World.frozen?]
    rw [hb]
    rfl
/-- the best so far, as the loop holds it -/
def bsZ (K : Nat → Int) (G : Nat → Bool) (i : Nat) : Int := match bstK K G i with
  | none => -1
  | some b => b
theorem bsZ_none {K : Nat → Int} {G : Nat → Bool} {i : Nat} (h : bsZ K G i < 0) : bstK K G i = none := by
  unfold bsZ at h
  cases e : bstK K G i with
  | none => rfl
  | some b => rw [e] at h; simp only at h; omega
theorem bsZ_some {K : Nat → Int} {G : Nat → Bool} {i : Nat} (h : ¬ bsZ K G i < 0) : ∃ b : Nat, bstK K G i = some b ∧ bsZ K G i = b ∧ b < i ∧ G b = false := by
  rcases bst_spec K G i with ⟨e, _⟩ | ⟨b, e, h1, h2, _⟩
  · unfold bsZ at h; rw [e] at h; simp at h
  · exact ⟨b, e, by unfold bsZ; rw [e], h1, h2⟩
theorem bsZ_given {K : Nat → Int} {G : Nat → Bool} {i : Nat} (h : G i = true) : bsZ K G (i + 1) = bsZ K G i := by
  unfold bsZ
  rw [bstK]
  cases e : bstK K G i with
  | none => simp [h]
  | some b => simp [h]
theorem bsZ_first {K : Nat → Int} {G : Nat → Bool} {i : Nat} (h : G i = false) (hb : bsZ K G i < 0) : bsZ K G (i + 1) = i := by
  have e := bsZ_none hb
  unfold bsZ
  rw [bstK, e]
  simp [h]
theorem bsZ_more {K : Nat → Int} {G : Nat → Bool} {i b : Nat} (h : G i = false) (hb : bstK K G i = some b) (hk : K b < K i) : bsZ K G (i + 1) = i := by
  unfold bsZ
  rw [bstK, hb]
  simp [h, hk]
theorem bsZ_less {K : Nat → Int} {G : Nat → Bool} {i b : Nat} (hb : bstK K G i = some b) (hk : ¬ K b < K i) : bsZ K G (i + 1) = b := by
  unfold bsZ
  rw [bstK, hb]
  simp [hk]
theorem bsZ_bd (K : Nat → Int) (G : Nat → Bool) (i : Nat) : -1 ≤ bsZ K G i ∧ bsZ K G i < i ∨ i = 0 := by
  by_cases h : bsZ K G i < 0
  · by_cases h0 : i = 0
    · exact .inr h0
    · left
      have := bsZ_none h
      have e : bsZ K G i = -1 := by unfold bsZ; rw [this]
      omega
  · obtain ⟨b, _, e, h1, _⟩ := bsZ_some h
    left; omega
end Go.Proofs.YtibmgpinfdcaoaaGreatDoor
