/-
  One text: KRc, ZLaw, KMv.
-/
import Derived.Test.YtibmgpinfdcaoaaGreatDoorG36
import Derived.Test.YtibmgpinfdcaoaaGreatDoorG29
import Derived.Laws.OwnMore
namespace Go.Proofs.YtibmgpinfdcaoaaGreatDoor
open Go.RowKit Plain
set_option linter.unusedVariables false
set_option linter.unusedSimpArgs false
set_option maxRecDepth 100000

set_option maxHeartbeats 4000000 in
theorem refCounts_rw {F : Nat → Prop} {a : Option Addr} {n c : Nat} {xs : List Evt} (p : Int) (w : World) (h : Es w F a n c xs) :
    Calls Tryz.prog 10 #[.slice a n c, .int .i64 p] w fun e w' => ∃ ra rc, e = .returned (.slice ra 12 rc) ∧ (Nm w' (fun k => w.heap.size ≤ k ∧ k < w'.heap.size) ra 12 rc (ctE xs p n) ∧ Rw9 w' w.heap.size ra 12 (ctE xs p n)) ∧ Kept No w w' := by
  have hn : n ≤ 9223372036854775807 := Nat.le_trans h.cap h.max
  have HE := hid h
  obtain ⟨i0, hi, hz0, hz1, hz2⟩ := info_parts Tryz.infoI
  clear h
  go_enter Tryz.func10, Tryz.ntmps10
  go_wp2
  go_loopw [5, 6, 7, 8] (fun v y z7 z8 wr => ∃ k : Nat, k ≤ 12 ∧ y = .int .i64 ((k : Int) + 1) ∧ wr.ownsRow w.heap.size 3 1 v k (ncL (ctE xs p n) k) ∧ Kept No w wr) (fun _ y _ _ _ => 13 - (intOf y).toNat)
  case atStart => exact ⟨0, by omega, rfl, ⟨rfl, .inl ⟨rfl, rfl⟩⟩, Kept.refl _ _⟩
  case round =>
    obtain ⟨k, hk, rfl, ho, hkr⟩ := hrel
    have HW := hid (And.intro ho hkr)
    clear ho hkr
    by_cases hlt : k < 12
    · have hlz : (k : Int) + 1 ≤ 12 := by omega
      have HLT := hid hlt
      generalize wr = wo at *
      go_wp2
      go_loopw [7, 8] (fun x y wr => ∃ i : Nat, i ≤ n ∧ y = .int .i64 i ∧ x = .int .i64 (ctE xs p i k) ∧ wr = wo) (fun _ y _ => n - (intOf y).toNat)
      case atStart => exact ⟨0, Nat.zero_le _, rfl, rfl, rfl⟩
      case round =>
        obtain ⟨i, hin, rfl, rfl, rfl⟩ := hrel
        by_cases hil : i < n
        · have hilz : (i : Int) < (n : Int) := by omega
          obtain ⟨b, o, rfl, _, hc⟩ := HE.out.at' i hil
          have hc2 : ∀ j v, (xs.getD i dEvt).v[j]? = some v → wr.cell? ⟨b, o + i * 7 + j, none⟩ = some v := fun j v hv => HW.out.2.cell (hc j v hv) (fun h => h)
          have hstep : ctE xs p (i + 1) k = ctE xs p i k + (if (xs.getD i dEvt).p = p ∧ (xs.getD i dEvt).k = (k : Int) + 1 then 1 else 0) := rfl
          have hbd := ctE_bd xs p i k
          have r1 := hc2 1 _ rfl
          have r2 := hc2 2 _ rfl
          generalize xs.getD i dEvt = x at *
          obtain ⟨xt, xp, xk, xr, xa, xb, xda, xdn, xdc⟩ := x
          simp only at r1 r2 hstep
          obtain ⟨q, hq⟩ : ∃ q, q = ctE xs p i k := ⟨_, rfl⟩
          rw [← hq] at hbd hstep ⊢
          have HI := hid (And.intro hin hil)
          clear hc hc2 hq hin
          by_cases g : xp = p
          · by_cases g2 : xk = (k : Int) + 1
            · have g1 : (xp == p) = true := by simpa using g
              have g3 : (xk == (k : Int) + 1) = true := by simpa using g2
              have HS : Hid (ctE xs p (i + 1) k = q + 1) := by show _ = _; rw [hstep, if_pos ⟨g, g2⟩]
              clear hstep g g2
              go_wp2
              go_roundw
              case rel => exact ⟨i + 1, by have := HI.out; omega, by go_num, by rw [HS.out], trivial⟩
              case measure => simp [intOf]; omega
            · have g1 : (xp == p) = true := by simpa using g
              have g3 : (xk == (k : Int) + 1) = false := by simpa using g2
              have HS : Hid (ctE xs p (i + 1) k = q) := by show _ = _; rw [hstep, if_neg (fun h => g2 h.2)]; omega
              clear hstep g g2
              go_wp2
              go_roundw
              case rel => exact ⟨i + 1, by have := HI.out; omega, by go_num, by rw [HS.out], trivial⟩
              case measure => simp [intOf]; omega
          · have g1 : (xp == p) = false := by simpa using g
            have HS : Hid (ctE xs p (i + 1) k = q) := by show _ = _; rw [hstep, if_neg (fun h => g h.1)]; omega
            clear hstep g
            go_wp2
            go_roundw
            case rel => exact ⟨i + 1, by have := HI.out; omega, by go_num, by rw [HS.out], trivial⟩
            case measure => simp [intOf]; omega
        · obtain rfl : i = n := by omega
          have hilz : ¬ (i : Int) < (i : Int) := by omega
          have hap : ncL (ctE xs p i) k ++ [.int .i64 (ctE xs p i k)] = ncL (ctE xs p i) (k + 1) := (ncL_succ _ _).symm
          have HAP := hid hap
          generalize ctE xs p i k = q at *
          clear hap hin
          go_wp2_with (at_builtin; refine wpList_append_own _ rfl _ _ 25 rfl w.heap.size 3 i0 (.int .i64 0) 1 8 Tryz.underlying25 hi hz0 hz1 hz2 rfl (by decide) u5 k (ncL (ctE xs p i) k) rfl (HW.out.1.alloc _) ⟨wr.heap.size, 0, none⟩ 1 1 [.int .i64 q] rfl rfl (cell_one_new _ _ _) (one_one _ _) (by unfold maxLen; omega) (by omega) (by have := HW.out.2.size; simp; omega) ?_; intro v4 w4 own4 grow4 _)
          have HN := hid (And.intro (HAP.out ▸ own4) ((HW.out.2.alloc _).grown grow4 (fun j e => .inr (HW.out.1.lt j e).1)))
          clear own4 grow4 HW
          go_wp2
          go_roundw
          case rel => exact ⟨k + 1, by have := HLT.out; omega, by go_num, HN.out⟩
          case measure => have := HLT.out; simp [intOf]; omega
    · obtain rfl : k = 12 := by omega
      obtain ⟨ra, rc, rfl, hnm⟩ := Nm.of2 HW.out.1
      have HNM := hid (And.intro hnm HW.out.2)
      have hlz : ¬ (((12 : Nat) : Int) + 1 ≤ 12) := by omega
      clear hnm HW hk hlt
      go_wp2
      go_ret
      exact ⟨_, _, rfl, HNM.out⟩
theorem refCounts_any {F : Nat → Prop} {a : Option Addr} {n c : Nat} {xs : List Evt} (p : Int) (w : World) (h : Es w F a n c xs) :
    Calls Tryz.prog 10 #[.slice a n c, .int .i64 p] w fun e w' => ∃ ra rc, e = .returned (.slice ra 12 rc) ∧ Nm w' (fun k => w.heap.size ≤ k ∧ k < w'.heap.size) ra 12 rc (ctE xs p n) ∧ Kept No w w' := by
  refine (refCounts_rw p w h).mono ?_
  rintro e w' ⟨ra, rc, rfl, h1, k⟩
  exact ⟨ra, rc, rfl, h1.1, k⟩
end Go.Proofs.YtibmgpinfdcaoaaGreatDoor

namespace Go.Proofs.YtibmgpinfdcaoaaGreatDoor
open Go.RowKit Go.Shelf Plain
set_option linter.unusedVariables false
set_option linter.unusedSimpArgs false
set_option maxRecDepth 100000

def flE (es : List Evt) : List Value := es.flatMap Evt.v
theorem v_len (x : Evt) : x.v.length = 7 := rfl
theorem flE_len : ∀ es : List Evt, (flE es).length = es.length * 7
  | [] => rfl
  | x :: r => by simp only [flE, List.flatMap_cons, List.length_append, v_len, List.length_cons]; have := flE_len r; simp only [flE] at this; omega
theorem flE_app (es fs : List Evt) : flE (es ++ fs) = flE es ++ flE fs := by simp [flE]
theorem flE_at : ∀ (es : List Evt) (i j : Nat) (v : Value), i < es.length → (es.getD i dEvt).v[j]? = some v → (flE es)[i * 7 + j]? = some v
  | [], i, j, v, hi, h => by simp at hi
  | x :: r, 0, j, v, hi, h => by
    have hj : j < 7 := by have := (List.getElem?_eq_some_iff.1 h).1; rw [v_len] at this; exact this
    simp only [flE, List.flatMap_cons]
    rw [List.getElem?_append_left (by rw [v_len]; omega)]
    simpa using h
  | x :: r, i + 1, j, v, hi, h => by
    simp only [flE, List.flatMap_cons]
    rw [List.getElem?_append_right (by rw [v_len]; omega), v_len, show (i + 1) * 7 + j - 7 = i * 7 + j by omega]
    exact flE_at r i j v (by simpa using hi) (by simpa using h)
theorem own_cell {w : World} {B t k g m c : Nat} {L : List Value} (h : w.ownsRow B t k (.slice (some ⟨g, 0, none⟩) m c) m L) {j : Nat} {u : Value} (hj : L[j]? = some u) : w.cell? ⟨g, j, none⟩ = some u := by
  have := h.cells (g := g) rfl j u hj
  rw [add_none, Nat.zero_add] at this
  exact this
theorem own_cap {w : World} {B t k m c : Nat} {a : Option Addr} {L : List Value} (h : w.ownsRow B t k (.slice a m c) m L) : m ≤ c ∧ c ≤ 9223372036854775807 := by
  obtain ⟨h1, ⟨h2, h3⟩ | ⟨g', cap, cur, h2, h3, h4, h5, h6, h7, h8⟩⟩ := h
  · injection h2 with _ _ h9; subst h9; omega
  · injection h2 with h2 _ h9
    subst h9
    unfold maxLen at h6
    omega
theorem own_some {w : World} {B t z m c : Nat} {a : Option Addr} {L : List Value} (h : w.ownsRow B t z (.slice a m c) m L) : (a = none → c = 0) ∧ (0 < m → ∃ g, a = some ⟨g, 0, none⟩ ∧ B ≤ g ∧ g < w.heap.size) := by
  rcases h.2 with ⟨h2, h3⟩ | ⟨g, cap, cur, h2, h3, h4, _⟩
  · injection h2 with h4 h5 h6
    exact ⟨fun _ => h6, fun hm => by omega⟩
  · injection h2 with h5 _ _
    refine ⟨fun e => ?_, fun _ => ⟨g, h5, h3, heap_lt h4⟩⟩
    rw [e] at h5
    cases h5
theorem es_own {w : World} {B : Nat} {v : Value} {n : Nat} {es : List Evt} (h : w.ownsRow B 54 7 v n (flE es)) (hl : es.length = n) : ∃ a c, v = .slice a n c ∧ Es w (fun k => B ≤ k ∧ k < w.heap.size) a n c es := by
  have hsh : ∃ a c, v = .slice a n c := by
    rcases h.2 with ⟨h5, h6⟩ | ⟨g, cap, cur, h5, _⟩
    · exact ⟨none, 0, by rw [h5, h6]⟩
    · exact ⟨_, _, h5⟩
  obtain ⟨a, c, rfl⟩ := hsh
  have hc := own_cap h
  refine ⟨a, c, rfl, hl, hc.1, hc.2, fun i hi => ?_⟩
  obtain ⟨g, rfl, g1, g2⟩ := (own_some h).2 (by omega)
  refine ⟨g, 0, rfl, ⟨g1, g2⟩, fun j v hv => ?_⟩
  rw [Nat.zero_add]
  exact own_cell h (flE_at es i j v (by omega) hv)
end Go.Proofs.YtibmgpinfdcaoaaGreatDoor

namespace Go.Proofs.YtibmgpinfdcaoaaGreatDoor
open Go.RowKit Plain
set_option linter.unusedVariables false
set_option linter.unusedSimpArgs false
set_option maxRecDepth 100000

theorem tmod12 (x : Int) : -12 < Int.tmod x 12 ∧ Int.tmod x 12 < 12 := by
  rcases Int.le_total 0 x with h | h
  · rw [Int.tmod_eq_emod_of_nonneg h]; omega
  · have e : x = -(-x) := by omega
    rw [e, Int.neg_tmod, Int.tmod_eq_emod_of_nonneg (show 0 ≤ -x by omega)]; omega
theorem tdiv2 {x : Int} (hx : -9223372036854775808 ≤ x ∧ x ≤ 9223372036854775807) : -9223372036854775808 ≤ 2 * Int.tdiv x 2 ∧ 2 * Int.tdiv x 2 ≤ 9223372036854775807 := by
  rcases Int.le_total 0 x with h | h
  · rw [Int.tdiv_eq_ediv_of_nonneg h]; omega
  · have e : x = -(-x) := by omega
    rw [e, Int.neg_tdiv, Int.tdiv_eq_ediv_of_nonneg (show 0 ≤ -x by omega)]; omega
/-- numbers that fit -/
def okE7 (xs : List Evt) : Prop := ∀ i, i < xs.length → I6 (xs.getD i dEvt).p ∧ I6 (xs.getD i dEvt).k
def mvE (x : Evt) : Evt := { x with p := Int.tdiv x.p 2 + 1, k := Int.tmod x.k 12 + 1 }
def mvS (xs : List Evt) (j : Nat) : Evt := mvE (xs.getD (xs.length - 1 - j) dEvt)
def mvL (xs : List Evt) (k : Nat) : List Evt := (List.range k).map (mvS xs)
theorem mvL_len (xs : List Evt) (k : Nat) : (mvL xs k).length = k := by simp [mvL]
theorem mvL_succ (xs : List Evt) (k : Nat) : flE (mvL xs (k + 1)) = flE (mvL xs k) ++ (mvS xs k).v := by
  rw [show mvL xs (k + 1) = mvL xs k ++ [mvS xs k] by simp [mvL, List.range_succ], flE_app]
  simp [flE]
theorem cells7 {w : World} {z : Nat} {v0 v1 v2 v3 v4 v5 v6 : Value} {t : TypeId} (h : w.heap[z]? = some (.cells #[v0, v1, v2, v3, v4, v5, v6] t)) : w.cell? ⟨z, 0, none⟩ = some v0 ∧ w.cell? ⟨z, 1, none⟩ = some v1 ∧ w.cell? ⟨z, 2, none⟩ = some v2 ∧ w.cell? ⟨z, 3, none⟩ = some v3 ∧ w.cell? ⟨z, 4, none⟩ = some v4 ∧ w.cell? ⟨z, 5, none⟩ = some v5 ∧ w.cell? ⟨z, 6, none⟩ = some v6 := by
  simp only [World.cell?, h]
  exact ⟨rfl, rfl, rfl, rfl, rfl, rfl, rfl⟩
theorem cell7_new (w : World) (v0 v1 v2 v3 v4 v5 v6 : Value) (t : TypeId) : ∀ j u, [v0, v1, v2, v3, v4, v5, v6][j]? = some u → (w.alloc (.cells #[v0, v1, v2, v3, v4, v5, v6] t)).cell? (Addr.add ⟨w.heap.size, 0, none⟩ j) = some u := by
  intro j u hj
  have hb := World.alloc_heap_new w (.cells #[v0, v1, v2, v3, v4, v5, v6] t)
  rw [add_none, Nat.zero_add]
  simp only [World.cell?, hb]
  match j, hj with
  | 0, hj => exact hj
  | 1, hj => exact hj
  | 2, hj => exact hj
  | 3, hj => exact hj
  | 4, hj => exact hj
  | 5, hj => exact hj
  | 6, hj => exact hj
  | j + 7, hj => simp at hj
theorem one7 (a b c d e f : Int) (p : Option Addr) (n m : Nat) : ∀ y ∈ ([.int .i64 a, .int .i64 b, .int .i64 c, .int .i64 d, .int .i64 e, .int .i64 f, .slice p n m] : List Value), y.oneCell' = true := by simp [Value.oneCell']

set_option maxHeartbeats 8000000 in
theorem moved_any {F : Nat → Prop} {a : Option Addr} {c n : Nat} {xs : List Evt} (w : World) (h : Es w F a n c xs) (hok : okE7 xs) (hb : n * 72 ≤ 140737488351232) :
    Calls Tryz.prog 27 #[.slice a n c] w fun e w' => ∃ v, e = .returned v ∧ w'.ownsRow w.heap.size 54 7 v n (flE (mvL xs n)) ∧ Kept No w w' := by
  obtain ⟨i0, hi, hz0, hz1, hz2⟩ := info_parts Tryz.infoEv
  have HS := hid h
  have HOK := hid hok
  have hlen := h.len
  have hcap := h.cap
  have hmax := h.max
  clear h hok
  go_enter Tryz.func27, Tryz.ntmps27
  go_wp2
  go_loopw [3, 4, 5] (fun v y z5 wr => ∃ k : Nat, k ≤ n ∧ y = .int .i64 ((n : Int) - 1 - k) ∧ wr.ownsRow w.heap.size 54 7 v k (flE (mvL xs k)) ∧ Kept No w wr) (fun _ y _ _ => (intOf y + 1).toNat)
  case atStart => exact ⟨0, Nat.zero_le _, by congr 1; omega, ⟨rfl, .inl ⟨rfl, rfl⟩⟩, Kept.refl _ _⟩
  case round =>
    obtain ⟨k, hk, rfl, ho, hkr⟩ := hrel
    have HW := hid (And.intro ho hkr)
    have HOW : Hid (∀ j, u3.ownBlock = some j → w.heap.size ≤ j) := fun j e => (ho.lt j e).1
    clear ho hkr
    by_cases hlt : k < n
    · obtain ⟨p, hp⟩ : ∃ p : Nat, n - 1 - k = p := ⟨_, rfl⟩
      have hpz : (n : Int) - 1 - k = (p : Int) := by omega
      rw [hpz]
      have hpl : p < n := by omega
      have hpl2 : (p : Int) < (n : Int) := by omega
      obtain ⟨b, o, rfl, _, hc⟩ := HS.out.at' p hpl
      have hc2 : ∀ j v, (xs.getD p dEvt).v[j]? = some v → wr.cell? ⟨b, o + p * 7 + j, none⟩ = some v := fun j v hv => HW.out.2.cell (hc j v hv) (fun h => h)
      have HO : Hid (mvS xs k = mvE (xs.getD p dEvt)) := by show _ = _; unfold mvS; rw [hlen, hp]
      have HP : Hid ((n : Int) - 1 - k = (p : Int)) := hpz
      have HLS : Hid (flE (mvL xs (k + 1)) = flE (mvL xs k) ++ (mvS xs k).v) := mvL_succ xs k
      obtain ⟨b1, b2⟩ := HOK.out p (by omega)
      generalize xs.getD p dEvt = x at *
      obtain ⟨xt, xp, xk, xr, xa, xb, xda, xdn, xdc⟩ := x
      have r0 := hc2 0 _ rfl
      have r1 := hc2 1 _ rfl
      have r2 := hc2 2 _ rfl
      have r3 := hc2 3 _ rfl
      have r4 := hc2 4 _ rfl
      have r5 := hc2 5 _ rfl
      have r6 := hc2 6 _ rfl
      rw [Nat.add_zero] at r0
      simp only at r0 r1 r2 r3 r4 r5 r6 b1 b2
      obtain ⟨q1, hq1⟩ : ∃ q, q = Int.tmod xk 12 := ⟨_, rfl⟩
      obtain ⟨q2, hq2⟩ : ∃ q, q = Int.tdiv xp 2 := ⟨_, rfl⟩
      have b1 : -9223372036854775808 ≤ xp ∧ xp ≤ 9223372036854775807 := b1
      have b2 : -9223372036854775808 ≤ xk ∧ xk ≤ 9223372036854775807 := b2
      have c1 : -12 < q1 ∧ q1 < 12 := by rw [hq1]; exact tmod12 xk
      have c2 : -9223372036854775808 ≤ 2 * q2 ∧ 2 * q2 ≤ 9223372036854775807 := by rw [hq2]; exact tdiv2 b1
      have HMV : Hid ((mvS xs k).v = [.int .i64 xt, .int .i64 (q2 + 1), .int .i64 (q1 + 1), .int .i64 xr, .int .i64 xa, .int .i64 xb, .slice xda xdn xdc]) := by
        show _ = _
        rw [HO.out, hq1, hq2]; rfl
      have e1 := hq1.symm
      have e2 := hq2.symm
      have HLT := hid (And.intro hlt hk)
      clear hc hc2 hq1 hq2 hp hpz HO hk
      have hbx := World.alloc_heap_new wr (.cells #[.int .i64 xt, .int .i64 xp, .int .i64 xk, .int .i64 xr, .int .i64 xa, .int .i64 xb, .slice xda xdn xdc] 54)
      obtain ⟨d0, d1, d2, d3, d4, d5, d6⟩ := cells7 hbx
      have df : ∀ j, (wr.alloc (.cells #[.int .i64 xt, .int .i64 xp, .int .i64 xk, .int .i64 xr, .int .i64 xa, .int .i64 xb, .slice xda xdn xdc] 54)).frozen? ⟨wr.heap.size, j, none⟩ = false := fun j => by simp only [World.frozen?]; rw [hbx]; rfl
      go_upto_region 7 with fail
      clear d0 d1 d2 d3 d4 d5 d6 df hbx r0 r1 r2 r3 r4 r5 r6
      have hbx := World.alloc_heap_new wr (.cells #[.int .i64 xt, .int .i64 xp, .int .i64 (q1 + 1), .int .i64 xr, .int .i64 xa, .int .i64 xb, .slice xda xdn xdc] 54)
      obtain ⟨d0, d1, d2, d3, d4, d5, d6⟩ := cells7 hbx
      have df : ∀ j, (wr.alloc (.cells #[.int .i64 xt, .int .i64 xp, .int .i64 (q1 + 1), .int .i64 xr, .int .i64 xa, .int .i64 xb, .slice xda xdn xdc] 54)).frozen? ⟨wr.heap.size, j, none⟩ = false := fun j => by simp only [World.frozen?]; rw [hbx]; rfl
      go_upto_region 8 with fail
      clear d0 d1 d2 d3 d4 d5 d6 df hbx
      have kb : Kept No wr (wr.alloc (.cells #[.int .i64 xt, .int .i64 (q2 + 1), .int .i64 (q1 + 1), .int .i64 xr, .int .i64 xa, .int .i64 xb, .slice xda xdn xdc] 54)) := (Kept.refl No wr).alloc _
      obtain ⟨d0, d1, d2, d3, d4, d5, d6⟩ := cells7 (World.alloc_heap_new wr (.cells #[.int .i64 xt, .int .i64 (q2 + 1), .int .i64 (q1 + 1), .int .i64 xr, .int .i64 xa, .int .i64 xb, .slice xda xdn xdc] 54))
      have HA : Hid ((wr.alloc (.cells #[.int .i64 xt, .int .i64 (q2 + 1), .int .i64 (q1 + 1), .int .i64 xr, .int .i64 xa, .int .i64 xb, .slice xda xdn xdc] 54)).ownsRow w.heap.size 54 7 u3 k (flE (mvL xs k)) ∧ Kept No w (wr.alloc (.cells #[.int .i64 xt, .int .i64 (q2 + 1), .int .i64 (q1 + 1), .int .i64 xr, .int .i64 xa, .int .i64 xb, .slice xda xdn xdc] 54))) := ⟨kb.owns HW.out.1 (fun _ _ h => h), HW.out.2.trans kb (fun _ h => h.elim)⟩
      obtain ⟨p2, hp2⟩ : ∃ p2, p2 = q2 + 1 := ⟨_, rfl⟩
      obtain ⟨p1, hp1⟩ : ∃ p1, p1 = q1 + 1 := ⟨_, rfl⟩
      rw [← hp1, ← hp2] at HA d0 d1 d2 d3 d4 d5 d6 HMV ⊢
      clear kb HW hp1 hp2 e1 e2 c1 c2 b1 b2
      generalize (wr.alloc (.cells #[.int .i64 xt, .int .i64 p2, .int .i64 p1, .int .i64 xr, .int .i64 xa, .int .i64 xb, .slice xda xdn xdc] 54)) = wa at *
      generalize wr.heap.size = Bx at *
      go_wp2_with (at_builtin; refine wpList_append_own _ rfl _ _ 23 rfl w.heap.size 54 i0 (.agg #[.int .i64 0, .int .i64 0, .int .i64 0, .int .i64 0, .int .i64 0, .int .i64 0, .slice none 0 0]) 7 72 Tryz.underlying23 hi hz0 hz1 hz2 rfl (by decide) u3 k (flE (mvL xs k)) rfl (HA.out.1.alloc _) ⟨wa.heap.size, 0, none⟩ 1 1 [.int .i64 xt, .int .i64 p2, .int .i64 p1, .int .i64 xr, .int .i64 xa, .int .i64 xb, .slice xda xdn xdc] rfl rfl (cell7_new wa _ _ _ _ _ _ _ _) (one7 _ _ _ _ _ _ _ _ _) (by have := HLT.out; unfold maxLen; omega) (by have := HLT.out; omega) (by have := HA.out.2.size; rw [World.size_alloc]; omega) ?_; intro v9 w10 own10 grow10 _)
      have HN : Hid (w10.ownsRow w.heap.size 54 7 v9 (k + 1) (flE (mvL xs (k + 1))) ∧ Kept No w w10) := by
        have kg : Kept (fun j => u3.ownBlock = some j) wa w10 := ((Kept.refl _ wa).alloc _).grown grow10 (fun j e => .inl e)
        refine ⟨?_, HA.out.2.trans kg (fun j e => .inr (HOW.out j e))⟩
        rw [HLS.out, HMV.out]
        exact own10
      clear own10 grow10 d0 d1 d2 d3 d4 d5 d6
      go_wp2
      go_roundw
      case rel => exact ⟨k + 1, by have := HLT.out; omega, by have := HP.out; congr 1; omega, HN.out⟩
      case measure => simp [intOf] <;> omega
    · obtain rfl : k = n := by omega
      have hz : ¬ (0 : Int) ≤ ((k : Nat) : Int) - 1 - ((k : Nat) : Int) := by omega
      clear hk
      go_wp2
      go_ret
      exact ⟨_, rfl, HW.out⟩

/-- events that may be written -/
structure Me (w : World) (g N : Nat) (f : Nat → Evt) : Prop where
  at' : ∀ i j v, i < N → (f i).v[j]? = some v → w.cell? ⟨g, i * 7 + j, none⟩ = some v
  fz : ∀ j, w.frozen? ⟨g, j, none⟩ = false
  blk : g < w.heap.size
theorem Me.kept {w w' : World} {G : Nat → Prop} {g N : Nat} {f : Nat → Evt} (h : Me w g N f) (k : Kept G w w') (hg : ¬ G g) : Me w' g N f :=
  ⟨fun i j v hi hv => k.cell (h.at' i j v hi hv) hg, fun i => by
    have := h.fz i
    simp only [World.frozen?, k.block g h.blk hg] at this ⊢
    exact this, Nat.lt_of_lt_of_le h.blk k.size⟩
theorem Me.congr {w : World} {g N : Nat} {f f' : Nat → Evt} (h : Me w g N f) (e : ∀ i, i < N → f i = f' i) : Me w g N f' := ⟨fun i j v hi hv => h.at' i j v hi (by rw [e i hi]; exact hv), h.fz, h.blk⟩
theorem Me.es {w : World} {g N c : Nat} {f : Nat → Evt} (h : Me w g N f) (es : List Evt) (hl : es.length = N) (he : ∀ i, i < N → es.getD i dEvt = f i) (hc : N ≤ c) (hm : c ≤ 9223372036854775807) : Es w (fun b => b = g) (some ⟨g, 0, none⟩) N c es :=
  ⟨hl, hc, hm, fun i hi => ⟨g, 0, rfl, rfl, fun j v hv => by
    rw [Nat.zero_add]
    rw [he i hi] at hv
    exact h.at' i j v hi hv⟩⟩
def putE7 (w : World) (g k : Nat) (x : Evt) : World := ((((((w.setCell ⟨g, k * 7, none⟩ (.int .i64 x.t)).setCell ⟨g, k * 7 + 1, none⟩ (.int .i64 x.p)).setCell ⟨g, k * 7 + 2, none⟩ (.int .i64 x.k)).setCell ⟨g, k * 7 + 3, none⟩ (.int .i64 x.r)).setCell ⟨g, k * 7 + 4, none⟩ (.int .i64 x.ea)).setCell ⟨g, k * 7 + 5, none⟩ (.int .i64 x.eb)).setCell ⟨g, k * 7 + 6, none⟩ (.slice x.da x.dn x.dc)
theorem putE7_kept (w : World) (g k : Nat) (x : Evt) : Kept (fun j => j = g) w (putE7 w g k x) := by
  unfold putE7
  exact Kept.setCell (F := fun j => j = g) (p := ⟨g, k * 7 + 6, none⟩) (Kept.setCell (F := fun j => j = g) (p := ⟨g, k * 7 + 5, none⟩) (Kept.setCell (F := fun j => j = g) (p := ⟨g, k * 7 + 4, none⟩) (Kept.setCell (F := fun j => j = g) (p := ⟨g, k * 7 + 3, none⟩) (Kept.setCell (F := fun j => j = g) (p := ⟨g, k * 7 + 2, none⟩) (Kept.setCell (F := fun j => j = g) (p := ⟨g, k * 7 + 1, none⟩) (Kept.setCell (F := fun j => j = g) (p := ⟨g, k * 7, none⟩) (Kept.refl _ w) (.inl rfl) _) (.inl rfl) _) (.inl rfl) _) (.inl rfl) _) (.inl rfl) _) (.inl rfl) _) (.inl rfl) _
theorem Me.put {w : World} {g N : Nat} {f : Nat → Evt} (h : Me w g N f) (k : Nat) (x : Evt) : Me (putE7 w g k x) g N (fun i => if i = k then x else f i) := by
  refine ⟨fun i j v hi hv => ?_, fun j => ?_, by have := (putE7_kept w g k x).size; exact Nat.lt_of_lt_of_le h.blk this⟩
  · have hj : j < 7 := by have := (List.getElem?_eq_some_iff.1 hv).1; rw [v_len] at this; exact this
    obtain ⟨u, hu⟩ : ∃ u, (f i).v[j]? = some u := ⟨_, List.getElem?_eq_getElem (by rw [v_len]; exact hj)⟩
    have h0 := h.at' i j u hi hu
    unfold putE7
    rw [cell_set (cell_set (cell_set (cell_set (cell_set (cell_set (cell_set h0))))))]
    by_cases e : i = k
    · subst e
      rw [if_pos rfl] at hv
      have hj7 : j = 0 ∨ j = 1 ∨ j = 2 ∨ j = 3 ∨ j = 4 ∨ j = 5 ∨ j = 6 := by omega
      rcases hj7 with rfl | rfl | rfl | rfl | rfl | rfl | rfl <;> simp [Evt.v] at hv ⊢ <;> exact hv
    · rw [if_neg e] at hv
      rw [hu] at hv
      rw [if_neg (by omega), if_neg (by omega), if_neg (by omega), if_neg (by omega), if_neg (by omega), if_neg (by omega), if_neg (by omega)]
      exact hv
  · unfold putE7
    rw [World.frozen?_setCell, World.frozen?_setCell, World.frozen?_setCell, World.frozen?_setCell, World.frozen?_setCell, World.frozen?_setCell, World.frozen?_setCell]
    exact h.fz j
theorem me_own {w : World} {B g n c : Nat} {es : List Evt} (h : w.ownsRow B 54 7 (.slice (some ⟨g, 0, none⟩) n c) n (flE es)) (hl : es.length = n) : Me w g n (fun i => es.getD i dEvt) :=
  ⟨fun i j v hi hv => own_cell h (flE_at es i j v (by omega) hv), fun j => h.frozenAt j, (h.lt g rfl).2⟩
end Go.Proofs.YtibmgpinfdcaoaaGreatDoor
