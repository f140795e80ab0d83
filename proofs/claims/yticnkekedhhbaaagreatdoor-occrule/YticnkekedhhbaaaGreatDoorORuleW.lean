/-
  The walk of OccRule.
-/
import Derived.Test.YticnkekedhhbaaaGreatDoorOChosen
import Derived.Test.YticnkekedhhbaaaGreatDoorOWorks
namespace Go.Proofs.YticnkekedhhbaaaGreatDoor
open Go.RowKit Go.Shelf Plain
set_option linter.unusedVariables false
set_option maxRecDepth 100000

theorem eachF_neR {r : Nat → Int} {first : Int} : ∀ {n : Nat} {p : Int × Int}, eachF r first n = some p → p.1 ≠ 0
  | 0, p, h => by cases h
  | n + 1, p, h => by
    rw [eachF] at h
    cases he : eachF r first n with
    | some q => rw [he] at h; injection h with h; subst h; exact eachF_neR he
    | none =>
      rw [he] at h
      simp only at h
      by_cases h0 : r n = 0
      · rw [if_pos h0] at h; cases h
      · rw [if_neg h0] at h; injection h with h; subst h; exact h0
theorem tim_neR {xs : List Srv} {n : Nat} {p : Int × Int} (h : timF xs n = some p) : p.1 ≠ 0 := by
  unfold timF at h
  cases hf : findF xs n with
  | some q =>
    rw [hf] at h
    injection h with h
    subst h
    unfold findF at hf
    by_cases h32 : n ≤ 32
    · rw [if_pos h32] at hf; exact eachF_neR hf
    · rw [if_neg h32] at hf; injection hf with hf; subst hf; decide
  | none =>
    rw [hf] at h
    unfold togF at h
    by_cases hb : lcmB (zP xs) n 1048576 = true
    · rw [if_pos hb] at h
      by_cases hr : relF (lcmV (zP xs) n 1048576) xs n ≤ 65536
      · rw [if_pos hr] at h; cases h
      · rw [if_neg hr] at h; injection h with h; subst h; decide
    · rw [if_neg hb] at h; injection h with h; subst h; decide

/-- what the rounds of OccRule read -/
structure Rd3 (W : World) (n g1 g2 g3 : Nat) (s : Rule.Sys) (u : Nat) : Prop where
  r1 : Ct W g1 n (fun i => (Rule.rest s 0 i : Int))
  r2 : Ct W g2 n (fun i => (Rule.rest s u i : Int))
  r3 : Ct W g3 n (fun i => (Rule.rest s (u + 1) i : Int))
theorem Rd3.keep {W W' : World} {n g1 g2 g3 : Nat} {s : Rule.Sys} {u : Nat} (h : Rd3 W n g1 g2 g3 s u) (hk : Kept No W W') : Rd3 W' n g1 g2 g3 s u := ⟨h.r1.keep hk, h.r2.keep hk, h.r3.keep hk⟩

set_option maxHeartbeats 2000000 in
theorem rule_out {F : Nat → Prop} {a : Option Addr} {c : Nat} {xs : List Srv} (t : Int) (w : World) (hg : Gl w) (h : Sv w F a xs.length c xs) (ht6 : I6 t) (ho : ¬ timF xs xs.length = none ∨ t < 0 ∨ 1099511627775 ≤ t) :
    Calls Tryz.prog 4 #[.slice a xs.length c, .int .i64 t] w fun e w' => e = .returned (.bool true) ∧ Below w.heap.size w w' := by
  have hc := hyper_any F a xs.length c xs w hg h
  have HWK : Hid (∀ W, Kept No w W → Calls Tryz.prog 9 #[] W fun e w' => e = .returned (.bool true) ∧ Kept No W w') := fun W hk => works_any W (hg.kept hk)
  unfold I6 at ht6
  cases htm : timF xs xs.length with
  | some p =>
    have hp := tim_neR htm
    rw [(tim_no htm).1, (tim_no htm).2] at hc
    generalize p.1 = pe at *
    clear htm h hg ho
    go_enter Tryz.func4, Tryz.ntmps4
    go_wp2_with (first
      | (go_at_call 10; refine hc.mono ?_; rintro e w1 ⟨rfl, hk1⟩; have HK1 : Hid (Kept No w w1) := hk1; have hwk := HWK.out w1 hk1; clear hk1 hc)
      | (go_at_call 9; refine hwk.mono ?_; rintro e w2 ⟨rfl, hk2⟩; have HK2 : Hid (Kept No w w2) := HK1.out.trans hk2 (fun _ h => h.elim); clear hk2 hwk))
    go_ret
    exact ⟨rfl, HK2.out.below0⟩
  | none =>
    have ho2 : t < 0 ∨ 1099511627775 ≤ t := by
      rcases ho with h' | h'
      · exact (h' htm).elim
      · exact h'
    rw [(tim_yes htm).1, (tim_yes htm).2] at hc
    clear h hg htm ho
    generalize hyp xs = H at *
    by_cases hl : t < 0
    · clear ho2
      go_enter Tryz.func4, Tryz.ntmps4
      go_wp2_with (first
        | (go_at_call 10; refine hc.mono ?_; rintro e w1 ⟨rfl, hk1⟩; have HK1 : Hid (Kept No w w1) := hk1; have hwk := HWK.out w1 hk1; clear hk1 hc)
        | (go_at_call 9; refine hwk.mono ?_; rintro e w2 ⟨rfl, hk2⟩; have HK2 : Hid (Kept No w w2) := HK1.out.trans hk2 (fun _ h => h.elim); clear hk2 hwk))
      go_ret
      exact ⟨rfl, HK2.out.below0⟩
    · have hl2 : 1099511627775 ≤ t := by omega
      clear ho2
      go_enter Tryz.func4, Tryz.ntmps4
      go_wp2_with (first
        | (go_at_call 10; refine hc.mono ?_; rintro e w1 ⟨rfl, hk1⟩; have HK1 : Hid (Kept No w w1) := hk1; have hwk := HWK.out w1 hk1; clear hk1 hc)
        | (go_at_call 9; refine hwk.mono ?_; rintro e w2 ⟨rfl, hk2⟩; have HK2 : Hid (Kept No w w2) := HK1.out.trans hk2 (fun _ h => h.elim); clear hk2 hwk))
      go_ret
      exact ⟨rfl, HK2.out.below0⟩

set_option maxHeartbeats 4000000 in
theorem rule_in {F : Nat → Prop} {a : Option Addr} {c : Nat} {xs : List Srv} (u : Nat) (w : World) (hg : Gl w) (h : Sv w F a xs.length c xs) (hF : ∀ k, F k → k < w.heap.size) (htm : timF xs xs.length = none) (hu : u + 1 < 1099511627776) :
    Calls Tryz.prog 4 #[.slice a xs.length c, .int .i64 u] w fun e w' => e = .returned (.bool true) ∧ Below w.heap.size w w' := by
  have hv := vd_of htm
  have hn := hv.num
  have hc := hyper_any F a xs.length c xs w hg h
  rw [(tim_yes htm).1, (tim_yes htm).2] at hc
  have HWK : Hid (∀ W, Kept No w W → Calls Tryz.prog 9 #[] W fun e w' => e = .returned (.bool true) ∧ Kept No W w') := fun W hk => works_any W (hg.kept hk)
  have HAT : Hid (∀ W, Kept No w W → Calls Tryz.prog 11 #[.slice a xs.length c, .int .i64 u] W fun e w' => e = .returned (.tuple #[.int .i64 (Rule.occ (sys xs) u), .int .i64 0]) ∧ Kept No W w') := fun W hk => at_yes u W (hg.kept hk) (h.keep hk) (fun k hk' => by have := hF k hk'; have := hk.size; omega) htm (by omega)
  have HRS : Hid (∀ (u : Nat) W, u < 1099511627776 → Kept No w W → Calls Tryz.prog 12 #[.slice a xs.length c, .int .i64 u] W fun e w' => ∃ g, e = .returned (.tuple #[.slice (some ⟨g, 0, none⟩) xs.length xs.length, .int .i64 0]) ∧ W.heap.size ≤ g ∧ Ct w' g xs.length (fun i => (Rule.rest (sys xs) u i : Int)) ∧ Kept No W w') := fun u W hu hk => rests_yes u W (hg.kept hk) (h.keep hk) (fun k hk' => by have := hF k hk'; have := hk.size; omega) htm hu
  have HS : Hid (Sv w F a xs.length c xs ∧ (∀ k, F k → k < w.heap.size)) := ⟨h, hF⟩
  have HV : Hid (Vd xs) := hv
  have hcap := h.cap
  have hmax := h.max
  have hocc := Rule.occ_le (sys xs) u
  have hocc2 : Rule.occ (sys xs) u ≤ 32 := Nat.le_trans hocc hn
  have HOC : Hid (Rule.occ (sys xs) u = Rule.pick (sys xs) (Rule.rest (sys xs) u) xs.length) := rfl
  clear h hF hg htm hv hocc
  go_enter Tryz.func4, Tryz.ntmps4
  go_upto_region 4 with (go_at_call 10; refine hc.mono ?_; rintro e w1 ⟨rfl, hk1⟩; have HK1 : Hid (Kept No w w1) := hk1; clear hk1 hc)
  generalize decide ((u : Int) < 0) = B1 at *
  generalize decide (1099511627775 ≤ (u : Int)) = B2 at *
  generalize (B1 || B2) = B3 at *
  generalize hyp xs = H at *
  have q1 := HRS.out 0 w1 (by omega) HK1.out
  rw [show ((0 : Nat) : Int) = 0 from rfl] at q1
  go_upto_region 5 with (go_at_call 12; refine q1.mono ?_; rintro e w2 ⟨g1, rfl, hg1, ct1, hk2⟩; have HK2 : Hid (Kept No w w2 ∧ Ct w2 g1 xs.length (fun i => (Rule.rest (sys xs) 0 i : Int))) := ⟨HK1.out.trans hk2 (fun _ h => h.elim), ct1⟩; clear hk2 ct1 hg1 q1)
  have q2 := HRS.out u w2 (by omega) HK2.out.1
  go_upto_region 6 with (go_at_call 12; refine q2.mono ?_; rintro e w3 ⟨g2, rfl, hg2, ct2, hk3⟩; have HK3 : Hid (Kept No w w3 ∧ Ct w3 g1 xs.length (fun i => (Rule.rest (sys xs) 0 i : Int)) ∧ Ct w3 g2 xs.length (fun i => (Rule.rest (sys xs) u i : Int))) := ⟨HK2.out.1.trans hk3 (fun _ h => h.elim), HK2.out.2.keep hk3, ct2⟩; clear hk3 ct2 hg2 q2)
  have q3 := HRS.out (u + 1) w3 (by omega) HK3.out.1
  rw [show ((u + 1 : Nat) : Int) = (u : Int) + 1 by omega] at q3
  go_upto_region 7 with (go_at_call 12; refine q3.mono ?_; rintro e w4 ⟨g3, rfl, hg3, ct3, hk4⟩; have HK4 : Hid (Kept No w w4 ∧ Rd3 w4 xs.length g1 g2 g3 (sys xs) u) := ⟨HK3.out.1.trans hk4 (fun _ h => h.elim), HK3.out.2.1.keep hk4, HK3.out.2.2.keep hk4, ct3⟩; clear hk4 ct3 hg3 q3)
  have q4 := HAT.out w4 HK4.out.1
  go_upto_region 8 with (go_at_call 11; refine q4.mono ?_; rintro e w5 ⟨rfl, hk5⟩; have HK5 : Hid (Kept No w w5 ∧ Rd3 w5 xs.length g1 g2 g3 (sys xs) u) := ⟨HK4.out.1.trans hk5 (fun _ h => h.elim), HK4.out.2.keep hk5⟩; clear hk5 q4)
  have q5 := chosen_any (g := g2) w5 (HS.out.1.keep HK5.out.1) hn HK5.out.2.r2 (fun i hi => by have := Rule.rest_le (sys xs) u i; have := HV.out.bd.bud i hi; omega)
  rw [← HOC.out] at q5
  go_upto_region 12 with (go_at_call 13; refine q5.mono ?_; rintro e w6 ⟨rfl, hk6⟩; have HK6 : Hid (Kept No w w6 ∧ Rd3 w6 xs.length g1 g2 g3 (sys xs) u) := ⟨HK5.out.1.trans hk6 (fun _ h => h.elim), HK5.out.2.keep hk6⟩; clear hk6 q5)
  have HNX : Hid (∀ i, i < xs.length → (Rule.rest (sys xs) (u + 1) i : Int) = if Rule.rel (sys xs) i (u + 1) then ((sys xs).B i : Int) else (Rule.rest (sys xs) u i : Int) - (if Rule.occ (sys xs) u = i + 1 then 1 else 0)) := fun i hi => Rule.rest_next HV.out.bd.ok hi u
  have HLE : Hid (∀ i, i < xs.length → Rule.rest (sys xs) u i ≤ 1048576 ∧ (Rule.occ (sys xs) u = i + 1 → 0 < Rule.rest (sys xs) u i)) := fun i hi => ⟨by have := Rule.rest_le (sys xs) u i; have := HV.out.bd.bud i hi; omega, fun e => ((Rule.occ_iff HV.out.bd.ok hi).1 e).1⟩
  generalize Rule.occ (sys xs) u = oc at *
  go_wp2
  go_loopw [15] (fun x wr => ∃ k : Nat, k ≤ xs.length ∧ x = .int .i64 k ∧ Kept No w6 wr) (fun x _ => xs.length - (intOf x).toNat)
  case atStart => exact ⟨0, Nat.zero_le _, rfl, Kept.refl No w6⟩
  case round =>
    obtain ⟨k, hk, rfl, hkr⟩ := hrel
    have HK : Hid (Kept No w wr ∧ Rd3 wr xs.length g1 g2 g3 (sys xs) u ∧ Kept No w6 wr) := ⟨HK6.out.1.trans hkr (fun _ h => h.elim), HK6.out.2.keep hkr, hkr⟩
    clear hkr
    by_cases hlt : k < xs.length
    · obtain ⟨x, hx⟩ : ∃ x, xs[k]? = some x := ⟨xs[k], by rw [List.getElem?_eq_getElem hlt]⟩
      have hgs : gs xs k = x := by unfold gs; rw [List.getD_eq_getElem?_getD, hx]; rfl
      have hP := HV.out.per k hlt
      have hB := HV.out.bud k hlt
      have hO := HV.out.off k hlt
      obtain ⟨hok, b, o, rfl, hb, c0, c1, c2, c3⟩ := (HS.out.1.keep HK.out.1).at' k x hx
      rw [hgs] at hP hB hO
      have hPn : (sys xs).P k = x.p.toNat := by show (gs xs k).p.toNat = _; rw [hgs]
      have hBn : (sys xs).B k = x.b.toNat := by show (gs xs k).b.toNat = _; rw [hgs]
      have hOn : (sys xs).O k = x.o.toNat := by show (gs xs k).o.toNat = _; rw [hgs]
      obtain ⟨P, B, O, q⟩ := x
      dsimp only at hP hB hO hPn hBn hOn c0 c1 c2 c3
      obtain ⟨P, rfl⟩ : ∃ n : Nat, P = (n : Int) := ⟨P.toNat, by omega⟩
      obtain ⟨B, rfl⟩ : ∃ n : Nat, B = (n : Int) := ⟨B.toNat, by omega⟩
      obtain ⟨O, rfl⟩ : ∃ n : Nat, O = (n : Int) := ⟨O.toNat, by omega⟩
      rw [Int.toNat_natCast] at hPn hBn hOn
      have e0 : Rule.rest (sys xs) 0 k = if O = 0 then B else 0 := by
        show (if Rule.rel (sys xs) k 0 then (sys xs).B k else 0) = _
        rw [hBn]
        by_cases h0 : O = 0
        · rw [if_pos h0, if_pos ⟨by omega, by simp⟩]
        · rw [if_neg h0, if_neg (fun h' => by have := h'.1; omega)]
      have e1 := HNX.out k hlt
      have hrl : Rule.rel (sys xs) k (u + 1) ↔ O ≤ u + 1 ∧ (u + 1 - O) % P = 0 := by unfold Rule.rel; rw [hOn, hPn]
      rw [hBn] at e1
      obtain ⟨l1, l2⟩ := HLE.out k hlt
      clear hok hgs hx hPn hBn hOn
      go_upto_region 16 with fail
      have kal : Kept No wr (wr.alloc (.cells #[.int .i64 (P : Int), .int .i64 (B : Int), .int .i64 (O : Int), .int .i64 q] 25)) := (Kept.refl No wr).alloc _
      have b2 := World.alloc_heap_new wr (.cells #[.int .i64 (P : Int), .int .i64 (B : Int), .int .i64 (O : Int), .int .i64 q] 25)
      obtain ⟨d1, d2, d3⟩ := HK.out.2.1.keep kal
      have d1 := d1.at' k hlt
      have d2 := d2.at' k hlt
      have d3 := d3.at' k hlt
      have HKQ : Hid (Kept No w6 (wr.alloc (.cells #[.int .i64 (P : Int), .int .i64 (B : Int), .int .i64 (O : Int), .int .i64 q] 25))) := HK.out.2.2.trans kal (fun _ h => h.elim)
      clear kal c0 c1 c2 c3
      generalize wr.alloc (.cells #[.int .i64 (P : Int), .int .i64 (B : Int), .int .i64 (O : Int), .int .i64 q] 25) = wq at *
      obtain ⟨c0, c1, c2, c3⟩ := cells4r b2
      clear b2 c3
      generalize hz : wr.heap.size = z at *
      clear hz
      have eA : O ≤ u + 1 → (u + 1 - O) % P = 0 → (Rule.rest (sys xs) (u + 1) k : Int) = B := fun h1 h2 => by rw [e1, if_pos (hrl.2 ⟨h1, h2⟩)]
      have eB : ¬ (O ≤ u + 1 ∧ (u + 1 - O) % P = 0) → oc = k + 1 → (Rule.rest (sys xs) (u + 1) k : Int) = (Rule.rest (sys xs) u k : Int) - 1 := fun h1 h2 => by rw [e1, if_neg (fun h' => h1 (hrl.1 h')), if_pos h2]
      have eC : ¬ (O ≤ u + 1 ∧ (u + 1 - O) % P = 0) → ¬ oc = k + 1 → (Rule.rest (sys xs) (u + 1) k : Int) = (Rule.rest (sys xs) u k : Int) := fun h1 h2 => by rw [e1, if_neg (fun h' => h1 (hrl.1 h')), if_neg h2]; omega
      clear e1 hrl
      obtain ⟨M, hM⟩ : ∃ M, (u + 1 - O) % P = M := ⟨_, rfl⟩
      have hM2 : M < P := by rw [← hM]; exact Nat.mod_lt _ (by omega)
      have HMM : Hid (O ≤ u + 1 → Int.tmod ((u : Int) + 1 - (O : Int)) (P : Int) = (M : Int) ∧ ((u : Int) + 1 - (O : Int)) % (P : Int) = (M : Int)) := fun h1 => by
        rw [show (u : Int) + 1 - (O : Int) = ((u + 1 - O : Nat) : Int) by omega, ← hM]
        exact ⟨Int.ofNat_tmod _ _, rfl⟩
      rw [hM] at eA eB eC
      clear hM
      generalize Rule.rest (sys xs) 0 k = R0 at *
      generalize Rule.rest (sys xs) u k = R1 at *
      generalize Rule.rest (sys xs) (u + 1) k = R2 at *
      by_cases hO0 : O = 0
      · have hR0 : R0 = B := by rw [e0, if_pos hO0]
        rw [hR0] at d1
        clear e0 hR0
        have hO1 : ((O : Int) == 0) = true := beq_iff_eq.2 (by omega)
        have hO2 : decide (0 < O) = false := decide_eq_false (by omega)
        go_quiet (fail)
        have HKZ : Hid (Kept No w6 (wq.drewN nq)) := HKQ.out.drewN _
        have c0 : (wq.drewN nq).cell? ⟨z, 0, none⟩ = some (.int .i64 (P : Int)) := c0
        have c1 : (wq.drewN nq).cell? ⟨z, 1, none⟩ = some (.int .i64 (B : Int)) := c1
        have c2 : (wq.drewN nq).cell? ⟨z, 2, none⟩ = some (.int .i64 (O : Int)) := c2
        have d2 : (wq.drewN nq).cell? ⟨g2, k, none⟩ = some (.int .i64 (R1 : Int)) := d2
        have d3 : (wq.drewN nq).cell? ⟨g3, k, none⟩ = some (.int .i64 (R2 : Int)) := d3
        clear d1 HKQ hO1 hO2 hO0
        generalize wq.drewN nq = wz at *
        by_cases hw : oc = k + 1
        · have l0 := l2 hw
          subst hw
          go_upto_region 21 with fail
          by_cases h1 : O ≤ u + 1
          · obtain ⟨eM, eM2⟩ := HMM.out h1
            by_cases h2 : M = 0
            · have e2 := eA h1 h2
              rw [e2] at d3
              have h2' : ((M : Int) == 0) = true := beq_iff_eq.2 (by omega)
              clear eA eB eC
              go_wp2
              go_roundw
              case rel => exact ⟨k + 1, by omega, by go_num, HKZ.out⟩
              case measure => simp [intOf]; omega
            · have e2 := eB (fun h => h2 h.2) rfl
              rw [e2] at d3
              have h2' : ((M : Int) == 0) = false := beq_eq_false_iff_ne.2 (by omega)
              clear eA eB eC
              go_wp2
              go_roundw
              case rel => exact ⟨k + 1, by omega, by go_num, HKZ.out⟩
              case measure => simp [intOf]; omega
          · have e2 := eB (fun h => h1 h.1) rfl
            rw [e2] at d3
            have h1' : ¬ (O : Int) ≤ (u : Int) + 1 := by omega
            clear eA eB eC
            go_wp2
            go_roundw
            case rel => exact ⟨k + 1, by omega, by go_num, HKZ.out⟩
            case measure => simp [intOf]; omega
        · have hw' : ((oc : Int) == (k : Int) + 1) = false := beq_eq_false_iff_ne.2 (by omega)
          go_upto_region 21 with fail
          by_cases h1 : O ≤ u + 1
          · obtain ⟨eM, eM2⟩ := HMM.out h1
            by_cases h2 : M = 0
            · have e2 := eA h1 h2
              rw [e2] at d3
              have h2' : ((M : Int) == 0) = true := beq_iff_eq.2 (by omega)
              clear eA eB eC
              go_wp2
              go_roundw
              case rel => exact ⟨k + 1, by omega, by go_num, HKZ.out⟩
              case measure => simp [intOf]; omega
            · have e2 := eC (fun h => h2 h.2) hw
              rw [e2] at d3
              have h2' : ((M : Int) == 0) = false := beq_eq_false_iff_ne.2 (by omega)
              clear eA eB eC
              go_wp2
              go_roundw
              case rel => exact ⟨k + 1, by omega, by go_num, HKZ.out⟩
              case measure => simp [intOf]; omega
          · have e2 := eC (fun h => h1 h.1) hw
            rw [e2] at d3
            have h1' : ¬ (O : Int) ≤ (u : Int) + 1 := by omega
            clear eA eB eC
            go_wp2
            go_roundw
            case rel => exact ⟨k + 1, by omega, by go_num, HKZ.out⟩
            case measure => simp [intOf]; omega
      · have hR0 : R0 = 0 := by rw [e0, if_neg hO0]
        subst hR0
        clear e0
        have hO1 : ((O : Int) == 0) = false := beq_eq_false_iff_ne.2 (by omega)
        have hO2 : 0 < O := by omega
        go_quiet (fail)
        have HKZ : Hid (Kept No w6 (wq.drewN nq)) := HKQ.out.drewN _
        have c0 : (wq.drewN nq).cell? ⟨z, 0, none⟩ = some (.int .i64 (P : Int)) := c0
        have c1 : (wq.drewN nq).cell? ⟨z, 1, none⟩ = some (.int .i64 (B : Int)) := c1
        have c2 : (wq.drewN nq).cell? ⟨z, 2, none⟩ = some (.int .i64 (O : Int)) := c2
        have d2 : (wq.drewN nq).cell? ⟨g2, k, none⟩ = some (.int .i64 (R1 : Int)) := d2
        have d3 : (wq.drewN nq).cell? ⟨g3, k, none⟩ = some (.int .i64 (R2 : Int)) := d3
        clear d1 HKQ hO1 hO2 hO0
        generalize wq.drewN nq = wz at *
        by_cases hw : oc = k + 1
        · have l0 := l2 hw
          subst hw
          go_upto_region 21 with fail
          by_cases h1 : O ≤ u + 1
          · obtain ⟨eM, eM2⟩ := HMM.out h1
            by_cases h2 : M = 0
            · have e2 := eA h1 h2
              rw [e2] at d3
              have h2' : ((M : Int) == 0) = true := beq_iff_eq.2 (by omega)
              clear eA eB eC
              go_wp2
              go_roundw
              case rel => exact ⟨k + 1, by omega, by go_num, HKZ.out⟩
              case measure => simp [intOf]; omega
            · have e2 := eB (fun h => h2 h.2) rfl
              rw [e2] at d3
              have h2' : ((M : Int) == 0) = false := beq_eq_false_iff_ne.2 (by omega)
              clear eA eB eC
              go_wp2
              go_roundw
              case rel => exact ⟨k + 1, by omega, by go_num, HKZ.out⟩
              case measure => simp [intOf]; omega
          · have e2 := eB (fun h => h1 h.1) rfl
            rw [e2] at d3
            have h1' : ¬ (O : Int) ≤ (u : Int) + 1 := by omega
            clear eA eB eC
            go_wp2
            go_roundw
            case rel => exact ⟨k + 1, by omega, by go_num, HKZ.out⟩
            case measure => simp [intOf]; omega
        · have hw' : ((oc : Int) == (k : Int) + 1) = false := beq_eq_false_iff_ne.2 (by omega)
          go_upto_region 21 with fail
          by_cases h1 : O ≤ u + 1
          · obtain ⟨eM, eM2⟩ := HMM.out h1
            by_cases h2 : M = 0
            · have e2 := eA h1 h2
              rw [e2] at d3
              have h2' : ((M : Int) == 0) = true := beq_iff_eq.2 (by omega)
              clear eA eB eC
              go_wp2
              go_roundw
              case rel => exact ⟨k + 1, by omega, by go_num, HKZ.out⟩
              case measure => simp [intOf]; omega
            · have e2 := eC (fun h => h2 h.2) hw
              rw [e2] at d3
              have h2' : ((M : Int) == 0) = false := beq_eq_false_iff_ne.2 (by omega)
              clear eA eB eC
              go_wp2
              go_roundw
              case rel => exact ⟨k + 1, by omega, by go_num, HKZ.out⟩
              case measure => simp [intOf]; omega
          · have e2 := eC (fun h => h1 h.1) hw
            rw [e2] at d3
            have h1' : ¬ (O : Int) ≤ (u : Int) + 1 := by omega
            clear eA eB eC
            go_wp2
            go_roundw
            case rel => exact ⟨k + 1, by omega, by go_num, HKZ.out⟩
            case measure => simp [intOf]; omega
    · have hke : k = xs.length := by omega
      subst hke
      have hwk := HWK.out wr HK.out.1
      go_wp2_with (go_at_call 9; refine hwk.mono ?_; rintro e w7 ⟨rfl, hk7⟩; have HK7 : Hid (Kept No w w7) := HK.out.1.trans hk7 (fun _ h => h.elim); clear hk7 hwk)
      go_ret
      exact ⟨rfl, HK7.out.below0⟩
theorem rule_law {F : Nat → Prop} {a : Option Addr} {c : Nat} {xs : List Srv} (t : Int) (w : World) (hg : Gl w) (h : Sv w F a xs.length c xs) (hF : ∀ k, F k → k < w.heap.size) (ht6 : I6 t) :
    Calls Tryz.prog 4 #[.slice a xs.length c, .int .i64 t] w fun e w' => e = .returned (.bool true) ∧ Below w.heap.size w w' := by
  by_cases ho : ¬ timF xs xs.length = none ∨ t < 0 ∨ 1099511627775 ≤ t
  · exact rule_out t w hg h ht6 ho
  · have h1 : timF xs xs.length = none := Classical.byContradiction fun h' => ho (.inl h')
    obtain ⟨u, rfl⟩ : ∃ u : Nat, t = (u : Int) := ⟨t.toNat, by omega⟩
    exact rule_in u w hg h hF h1 (by omega)
end Go.Proofs.YticnkekedhhbaaaGreatDoor
