/-
  One text: AQr, AHe.
-/
import Derived.Test.YtggejpccjmolhaaGreatDoorG32
import Derived.Test.YtggejpccjmolhaaGreatDoorG29
import Derived.Test.YtggejpccjmolhaaGreatDoorCAct
namespace Go.Proofs.YtggejpccjmolhaaGreatDoor
open Go.RowKit Plain
set_option linter.unusedVariables false
set_option linter.unusedSimpArgs false
set_option maxRecDepth 100000

def rqB (cl : Int) (x : Po) : Bool := inB x.pt 1 cl && (inB x.kd 0 1 && (inB x.sz 1 16 && (if x.kd = 1 then inB x.dp 1 64 && decide (x.rf = 0) else if x.out = true then decide (x.dp = 0) && decide (x.rf = 0) else decide (x.dp = 0) && inB x.rf 0 1099511627775)))
theorem rqB_rows {cl : Int} (x : Po) : rowsF (fun j => if bPo cl x j then 0 else 107) 5 = if rqB cl x then 0 else 107 := by
  have e0 : bPo cl x 0 = inB x.pt 1 cl := rfl
  have e1 : bPo cl x 1 = inB x.kd 0 1 := by
    show (x.kd == 0 || x.kd == 1) = _
    unfold inB
    by_cases h0 : x.kd = 0
    · rw [h0]; rfl
    · by_cases h1 : x.kd = 1
      · rw [h1]; rfl
      · have : (x.kd == 0 || x.kd == 1) = false := by simp [h0, h1]
        rw [this]
        symm
        simp only [Bool.and_eq_false_iff, decide_eq_false_iff_not]
        omega
  have e2 : bPo cl x 2 = inB x.sz 1 16 := rfl
  have e3 : bPo cl x 3 = (if x.kd = 1 then inB x.dp 1 64 else decide (x.dp = 0)) := rfl
  have e4 : bPo cl x 4 = (if x.kd = 0 ∧ x.out = false then inB x.rf 0 1099511627775 else decide (x.rf = 0)) := rfl
  have e5 : inB x.kd 0 1 = true → (bPo cl x 3 && bPo cl x 4) = (if x.kd = 1 then inB x.dp 1 64 && decide (x.rf = 0) else if x.out = true then decide (x.dp = 0) && decide (x.rf = 0) else decide (x.dp = 0) && inB x.rf 0 1099511627775) := by
    intro h
    rw [e3, e4]
    unfold inB at h
    simp only [Bool.and_eq_true, decide_eq_true_eq] at h
    by_cases h1 : x.kd = 1
    · rw [if_pos h1, if_pos h1, if_neg (by omega)]
    · rw [if_neg h1, if_neg h1]
      cases ho : x.out
      · rw [if_pos ⟨by omega, rfl⟩, if_neg (by simp)]
      · rw [if_neg (by simp), if_pos rfl]
  unfold rqB
  cases hk : inB x.kd 0 1 with
  | false =>
    rw [hk] at e1
    simp only [rowsF, e1]
    cases bPo cl x 0 <;> cases bPo cl x 2 <;> cases bPo cl x 3 <;> cases bPo cl x 4 <;> simp
  | true =>
    rw [← e5 hk, ← e0, ← e2]
    rw [hk] at e1
    simp only [rowsF, e1]
    cases bPo cl x 0 <;> cases bPo cl x 2 <;> cases bPo cl x 3 <;> cases bPo cl x 4 <;> rfl

set_option maxHeartbeats 8000000 in
theorem rport_any (a0 : Option Addr) (n0 c0 : Nat) (v1 v2 : Value) (h0 : n0 ≤ 9223372036854775807) (x : Po) (w : World) :
    Calls Tryz.prog 20 #[.agg #[.slice a0 n0 c0, v1, v2], .agg #[.int .i64 x.pt, .int .i64 x.kd, .bool x.out, .int .i64 x.sz, .int .i64 x.dp, .int .i64 x.rf]] w fun e w' => e = .returned (.bool (rqB n0 x)) ∧ Kept No w w' := by
  have HK : Hid (Kept No w ((w.alloc (.cells #[.slice a0 n0 c0, v1, v2] 26)).alloc (.cells #[.int .i64 x.pt, .int .i64 x.kd, .bool x.out, .int .i64 x.sz, .int .i64 x.dp, .int .i64 x.rf] 41))) := ((Kept.refl No w).alloc _).alloc _
  obtain ⟨x0, x1, x2, x3, x4, x5⟩ := x
  unfold rqB
  simp only at HK ⊢
  cases g0 : inB x0 1 (n0 : Int)
  · skip
    try simp only [Bool.false_and, Bool.true_and]
    go_enter Tryz.func20, Tryz.ntmps20
    go_wp2_with (go_at_call 29; refine (rwithin_any _ _ _ _).mono ?_; rintro e w' ⟨rfl, rfl⟩)
    go_ret
    exact ⟨by first | rfl | (simp [*]; done) | (congr 2; simp; omega), HK.out⟩
  · skip
    cases g1 : inB x1 0 1
    · skip
      try simp only [Bool.false_and, Bool.true_and]
      go_enter Tryz.func20, Tryz.ntmps20
      go_wp2_with (go_at_call 29; refine (rwithin_any _ _ _ _).mono ?_; rintro e w' ⟨rfl, rfl⟩)
      go_ret
      exact ⟨by first | rfl | (simp [*]; done) | (congr 2; simp; omega), HK.out⟩
    · skip
      cases g2 : inB x3 1 16
      · skip
        try simp only [Bool.false_and, Bool.true_and]
        go_enter Tryz.func20, Tryz.ntmps20
        go_wp2_with (go_at_call 29; refine (rwithin_any _ _ _ _).mono ?_; rintro e w' ⟨rfl, rfl⟩)
        go_ret
        exact ⟨by first | rfl | (simp [*]; done) | (congr 2; simp; omega), HK.out⟩
      · skip
        by_cases h1 : x1 = 1
        · subst h1
          rw [if_pos rfl]
          cases g3 : inB x4 1 64
          · skip
            try simp only [Bool.false_and, Bool.true_and]
            go_enter Tryz.func20, Tryz.ntmps20
            go_wp2_with (go_at_call 29; refine (rwithin_any _ _ _ _).mono ?_; rintro e w' ⟨rfl, rfl⟩)
            go_ret
            exact ⟨by first | rfl | (simp [*]; done) | (congr 2; simp; omega), HK.out⟩
          · by_cases h5 : x5 = 0
            · subst h5
              try simp only [Bool.false_and, Bool.true_and]
              go_enter Tryz.func20, Tryz.ntmps20
              go_wp2_with (go_at_call 29; refine (rwithin_any _ _ _ _).mono ?_; rintro e w' ⟨rfl, rfl⟩)
              go_ret
              exact ⟨by first | rfl | (simp [*]; done) | (congr 2; simp; omega), HK.out⟩
            · have h6 : (x5 == 0) = false := by simpa using h5
              have h7 : decide (x5 = 0) = false := decide_eq_false h5
              try simp only [Bool.false_and, Bool.true_and]
              go_enter Tryz.func20, Tryz.ntmps20
              go_wp2_with (go_at_call 29; refine (rwithin_any _ _ _ _).mono ?_; rintro e w' ⟨rfl, rfl⟩)
              go_ret
              exact ⟨by first | rfl | (simp [*]; done) | (congr 2; simp; omega), HK.out⟩
        · have h1b : (x1 == 1) = false := by simpa using h1
          rw [if_neg h1]
          cases x2
          · rw [if_neg (by decide)]
            by_cases h4 : x4 = 0
            · subst h4
              cases g3 : inB x5 0 1099511627775
              · skip
                try simp only [Bool.false_and, Bool.true_and]
                go_enter Tryz.func20, Tryz.ntmps20
                go_wp2_with (go_at_call 29; refine (rwithin_any _ _ _ _).mono ?_; rintro e w' ⟨rfl, rfl⟩)
                go_ret
                exact ⟨by first | rfl | (simp [*]; done) | (congr 2; simp; omega), HK.out⟩
              · skip
                try simp only [Bool.false_and, Bool.true_and]
                go_enter Tryz.func20, Tryz.ntmps20
                go_wp2_with (go_at_call 29; refine (rwithin_any _ _ _ _).mono ?_; rintro e w' ⟨rfl, rfl⟩)
                go_ret
                exact ⟨by first | rfl | (simp [*]; done) | (congr 2; simp; omega), HK.out⟩
            · have h6 : (x4 == 0) = false := by simpa using h4
              have h7 : decide (x4 = 0) = false := decide_eq_false h4
              try simp only [Bool.false_and, Bool.true_and]
              go_enter Tryz.func20, Tryz.ntmps20
              go_wp2_with (go_at_call 29; refine (rwithin_any _ _ _ _).mono ?_; rintro e w' ⟨rfl, rfl⟩)
              go_ret
              exact ⟨by first | rfl | (simp [*]; done) | (congr 2; simp; omega), HK.out⟩
          · rw [if_pos rfl]
            by_cases h4 : x4 = 0
            · subst h4
              by_cases h5 : x5 = 0
              · subst h5
                try simp only [Bool.false_and, Bool.true_and]
                go_enter Tryz.func20, Tryz.ntmps20
                go_wp2_with (go_at_call 29; refine (rwithin_any _ _ _ _).mono ?_; rintro e w' ⟨rfl, rfl⟩)
                go_ret
                exact ⟨by first | rfl | (simp [*]; done) | (congr 2; simp; omega), HK.out⟩
              · have h6 : (x5 == 0) = false := by simpa using h5
                have h7 : decide (x5 = 0) = false := decide_eq_false h5
                try simp only [Bool.false_and, Bool.true_and]
                go_enter Tryz.func20, Tryz.ntmps20
                go_wp2_with (go_at_call 29; refine (rwithin_any _ _ _ _).mono ?_; rintro e w' ⟨rfl, rfl⟩)
                go_ret
                exact ⟨by first | rfl | (simp [*]; done) | (congr 2; simp; omega), HK.out⟩
            · have h6 : (x4 == 0) = false := by simpa using h4
              have h7 : decide (x4 = 0) = false := decide_eq_false h4
              try simp only [Bool.false_and, Bool.true_and]
              go_enter Tryz.func20, Tryz.ntmps20
              go_wp2_with (go_at_call 29; refine (rwithin_any _ _ _ _).mono ?_; rintro e w' ⟨rfl, rfl⟩)
              go_ret
              exact ⟨by first | rfl | (simp [*]; done) | (congr 2; simp; omega), HK.out⟩
end Go.Proofs.YtggejpccjmolhaaGreatDoor

namespace Go.Proofs.YtggejpccjmolhaaGreatDoor
open Go.RowKit Plain
set_option linter.unusedVariables false
set_option linter.unusedSimpArgs false
set_option maxRecDepth 100000

/-- are the first n actions as they may be? -/
def hlF (f : Nat → Int) : Nat → Bool
  | 0 => true
  | k + 1 => hlF f k && (inB (f k) 0 5 && !(decide (k = 0) && f k != 0))
theorem hlF_no {f : Nat → Int} {k : Nat} (h : (inB (f k) 0 5 && !(decide (k = 0) && f k != 0)) = false) : ∀ n, k < n → hlF f n = false
  | 0, hn => by omega
  | n + 1, hn => by
    rcases Nat.lt_or_eq_of_le (Nat.lt_succ_iff.1 hn) with h1 | h1
    · rw [hlF, hlF_no h n h1]; rfl
    · subst h1; rw [hlF, h, Bool.and_false]

set_option maxHeartbeats 8000000 in
theorem rhealth_any (F : Nat → Prop) (cs : List Value) (ha : Int) (f : Nat → Int) (a : Option Addr) (n c : Nat) (xs : List Prc) (w : World) (h9 : cs[9]? = some (.int .i64 ha)) (h8 : cs[8]? = some (.slice a n c)) (hf : ∀ k, k < 8 → cs[10 + k]? = some (.int .i64 (f k))) (hL : Ls 6 elPrc w F a n c xs) :
    Calls Tryz.prog 34 #[.agg cs.toArray] w fun e w' => e = .returned (.bool (hlF f 8 && hanF ha xs n)) ∧ Kept No w w' := by
  have hn : n ≤ 9223372036854775807 := Nat.le_trans hL.cap hL.max
  have HK : Hid (Kept No w (w.alloc (.cells cs.toArray 59))) := (Kept.refl No w).alloc _
  have d9 := pn_cell w cs 59 9 _ h9
  have d8 := pn_cell w cs 59 8 _ h8
  have HF : Hid (∀ k, k < 8 → (w.alloc (.cells cs.toArray 59)).cell? ⟨w.heap.size, 10 + k, none⟩ = some (.int .i64 (f k))) := fun k hk => pn_cell w cs 59 (10 + k) _ (hf k hk)
  have HL : Hid (Ls 6 elPrc w F a n c xs) := hL
  clear h9 h8 hf hL
  go_enter Tryz.func34, Tryz.ntmps34
  go_upto_region 1 with fail
  generalize w.alloc (.cells cs.toArray 59) = w1 at *
  go_wp2
  go_loopw [3] (fun i wr => ∃ k : Nat, k ≤ 8 ∧ i = .int .i64 k ∧ wr = w1 ∧ hlF f k = true) (fun i _ => 8 - (intOf i).toNat)
  case atStart => exact ⟨0, by omega, rfl, rfl, rfl⟩
  case round =>
    obtain ⟨k, hk, rfl, rfl, hb⟩ := hrel
    have HB : Hid (hlF f k = true) := hb
    clear hb
    by_cases hlt : k < 8
    · have dk := HF.out k hlt
      have hk8 : (k : Int) < 8 := by omega
      have hk9 : ¬ (8 : Int) ≤ (k : Int) := by omega
      have HS : Hid (hlF f (k + 1) = (hlF f k && (inB (f k) 0 5 && !(decide (k = 0) && f k != 0)))) := rfl
      have HN : Hid ((inB (f k) 0 5 && !(decide (k = 0) && f k != 0)) = false → hlF f 8 = false) := fun h => hlF_no h 8 hlt
      generalize f k = v at *
      cases g : inB v 0 5
      · have HN2 : Hid (hlF f 8 = false) := HN.out (by rw [g]; rfl)
        go_wp2_with (go_at_call 29; refine (rwithin_any _ _ _ _).mono ?_; rintro e w' ⟨rfl, rfl⟩)
        go_ret
        exact ⟨by rw [HN2.out]; rfl, HK.out⟩
      · by_cases h0 : k = 0
        · subst h0
          by_cases hv : v = 0
          · subst hv
            have HY : Hid (hlF f (0 + 1) = true) := HS.out.trans (by rw [HB.out, g]; rfl)
            go_wp2_with (go_at_call 29; refine (rwithin_any _ _ _ _).mono ?_; rintro e w' ⟨rfl, rfl⟩)
            go_roundw
            case rel => exact ⟨0 + 1, by omega, by go_num, trivial, HY.out⟩
            case measure => simp [intOf]
          · have hv2 : (v != 0) = true := by simpa using hv
            have HN2 : Hid (hlF f 8 = false) := HN.out (by rw [hv2]; simp)
            go_wp2_with (go_at_call 29; refine (rwithin_any _ _ _ _).mono ?_; rintro e w' ⟨rfl, rfl⟩)
            go_ret
            exact ⟨by rw [HN2.out]; rfl, HK.out⟩
        · have hk0 : ¬ (k : Int) = 0 := by omega
          have hk1 : ((k : Int) == 0) = false := by simpa using hk0
          have hk2 : decide ((k : Int) = 0) = false := decide_eq_false hk0
          have HY : Hid (hlF f (k + 1) = true) := HS.out.trans (by rw [HB.out, g, decide_eq_false h0]; rfl)
          clear hk0 h0
          go_wp2_with (go_at_call 29; refine (rwithin_any _ _ _ _).mono ?_; rintro e w' ⟨rfl, rfl⟩)
          go_roundw
          case rel => exact ⟨k + 1, by omega, by go_num, trivial, HY.out⟩
          case measure => simp [intOf]; omega
    · have hk8 : k = 8 := by omega
      subst hk8
      by_cases hz : ha = 0
      · have HV : Hid (hanF ha xs n = true) := by
          show hanF ha xs n = true
          unfold hanF; rw [if_pos hz]
        subst hz
        have g : inB 0 0 n = true := by unfold inB; simp
        go_wp2_with (go_at_call 29; refine (rwithin_any _ _ _ _).mono ?_; rintro e w' ⟨rfl, rfl⟩)
        go_ret
        exact ⟨by rw [HB.out, HV.out]; rfl, HK.out⟩
      cases hb : inB ha 1 n
      · have HV : Hid (hanF ha xs n = false) := by
          show hanF ha xs n = false
          unfold hanF; rw [if_neg hz, hb]; rfl
        have g : inB ha 0 n = false := by
          unfold inB at hb ⊢
          simp only [Bool.and_eq_false_iff, decide_eq_false_iff_not] at hb ⊢
          omega
        clear hb
        go_wp2_with (go_at_call 29; refine (rwithin_any _ _ _ _).mono ?_; rintro e w' ⟨rfl, rfl⟩)
        go_ret
        exact ⟨by rw [HB.out, HV.out]; rfl, HK.out⟩
      · have hr : 1 ≤ ha ∧ ha ≤ n := by simp [inB] at hb; exact hb
        have g : inB ha 0 n = true := by unfold inB; simp; omega
        obtain ⟨k, hk⟩ : ∃ k : Nat, ha = k + 1 := ⟨(ha - 1).toNat, by omega⟩
        subst hk
        have hkn : k < n := by omega
        have hx : xs[k]? = some (xs.getD k ⟨0, 0, 0, 0, 0, false⟩) := by rw [List.getD, List.getElem?_eq_getElem (by rw [HL.out.len]; exact hkn)]; rfl
        obtain ⟨b, o, ds, rfl, hb2, hl, hrg, hE⟩ := HL.out.at' k _ hx
        have hds := hE.1
        have hHan : hanF ((k : Int) + 1) xs n = ((xs.getD k ⟨0, 0, 0, 0, 0, false⟩).pe == 0 && ((xs.getD k ⟨0, 0, 0, 0, 0, false⟩).li == 0 && !(xs.getD k ⟨0, 0, 0, 0, 0, false⟩).auto)) := by
          unfold hanF
          rw [if_neg hz, hb, show ((k : Int) + 1).toNat - 1 = k by omega]
          rfl
        have HV : Hid (hanF ((k : Int) + 1) xs n = ((xs.getD k ⟨0, 0, 0, 0, 0, false⟩).pe == 0 && ((xs.getD k ⟨0, 0, 0, 0, 0, false⟩).li == 0 && !(xs.getD k ⟨0, 0, 0, 0, 0, false⟩).auto))) := hHan
        subst hds
        have kk := HK.out
        have r0 := kk.cell (hrg 0 _ rfl) (fun h => h)
        have r1 := kk.cell (hrg 1 _ rfl) (fun h => h)
        have r2 := kk.cell (hrg 2 _ rfl) (fun h => h)
        have r3 := kk.cell (hrg 3 _ rfl) (fun h => h)
        have r4 := kk.cell (hrg 4 _ rfl) (fun h => h)
        have r5 := kk.cell (hrg 5 _ rfl) (fun h => h)
        rw [Nat.add_zero] at r0
        clear hb hx hE hl hrg hHan kk
        have hz2 : ((k : Int) + 1 == 0) = false := by simpa using hz
        generalize xs.getD k ⟨0, 0, 0, 0, 0, false⟩ = y at *
        obtain ⟨en, pr, pe, li, ca, auto⟩ := y
        simp only at r0 r1 r2 r3 r4 r5 HV
        have HK2 : Hid (∀ o, Kept No w (wr.alloc o)) := fun o => HK.out.alloc o
        cases h1 : (pe == 0)
        · go_wp2_with (go_at_call 29; refine (rwithin_any _ _ _ _).mono ?_; rintro e w' ⟨rfl, rfl⟩)
          go_ret
          exact ⟨by rw [HB.out, HV.out, h1]; rfl, HK2.out _⟩
        cases h2 : (li == 0)
        · go_wp2_with (go_at_call 29; refine (rwithin_any _ _ _ _).mono ?_; rintro e w' ⟨rfl, rfl⟩)
          go_ret
          exact ⟨by rw [HB.out, HV.out, h1, h2]; rfl, HK2.out _⟩
        · go_wp2_with (go_at_call 29; refine (rwithin_any _ _ _ _).mono ?_; rintro e w' ⟨rfl, rfl⟩)
          go_ret
          exact ⟨by rw [HB.out, HV.out, h1, h2]; rfl, HK2.out _⟩
end Go.Proofs.YtggejpccjmolhaaGreatDoor
