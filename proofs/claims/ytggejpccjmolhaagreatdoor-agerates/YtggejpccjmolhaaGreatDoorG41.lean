/-
  One text: AEq, ARt, NNext, NCount.
-/
import Derived.Test.YtggejpccjmolhaaGreatDoorACk
import Derived.Test.YtggejpccjmolhaaGreatDoorProg
import Derived.Test.YtggejpccjmolhaaGreatDoorG06
import Derived.WalkKit
import Derived.WalkSpells
import Derived.WalkLawsBesides
import Derived.WalkMore
namespace Go.Proofs.YtggejpccjmolhaaGreatDoor
open Go.RowKit Plain
set_option linter.unusedVariables false
set_option linter.unusedSimpArgs false

theorem eachF_ext {r r' : Nat → Int} {first : Int} : ∀ n, (∀ i, i < n → r i = r' i) → eachF r first n = eachF r' first n
  | 0, _ => rfl
  | n + 1, h => by
    rw [eachF, eachF, eachF_ext n (fun i hi => h i (by omega)), h n (by omega)]
theorem firstF_ext {s s' : Nat → Option (Int × Int)} : ∀ n, (∀ i, i < n → firstF s' i = none → s i = s' i) → firstF s n = firstF s' n
  | 0, _ => rfl
  | n + 1, h => by
    rw [firstF, firstF, firstF_ext n (fun i hi hn => h i (by omega) hn)]
    cases hf : firstF s' n with
    | some p => rfl
    | none => exact h n (by omega) hf
/-- the first five steps find the same; the sixth is left as a premise -/
theorem rck_five {x : Im} (hc : ∀ y ∈ x.parts, y.code.length ≤ 9223372036854775807) (h5 : firstF (stS x) 5 = none → rcS x 5 = stS x 5) : rckF x = chkF x := by
  unfold rckF chkF
  refine firstF_ext 6 (fun i hi hn => ?_)
  match i, hi with
  | 0, _ => rfl
  | 1, _ => exact eachF_ext _ (fun i _ => (rcB_rows (x.parts.getD i dPn)).symm)
  | 2, _ => rfl
  | 3, _ => exact eachF_ext _ (fun i hi => (ePt_rows (x.parts.getD i dPn) (hc _ (by
      have h : x.parts[i]? = some (x.parts.getD i dPn) := by rw [List.getD, List.getElem?_eq_getElem hi]; rfl
      exact List.mem_of_getElem? h))).symm)
  | 4, _ => exact eachF_ext _ (fun i _ => (rqB_rows (x.ports.getD i ⟨0, 0, false, 0, 0, 0⟩)).symm)
  | 5, _ => exact h5 hn
theorem allF_rows {p : Nat → Bool} : ∀ n, (allF p n = true ↔ ∀ j, j < n → p j = true)
  | 0 => ⟨fun _ j h => by omega, fun _ => rfl⟩
  | n + 1 => by
    rw [allF, Bool.and_eq_true, allF_rows n]
    exact ⟨fun h j hj => (Nat.lt_or_eq_of_le (Nat.lt_succ_iff.1 hj)).elim (h.1 j) (fun e => e ▸ h.2), fun h => ⟨fun j hj => h j (by omega), h n (by omega)⟩⟩
theorem rows_one {p : Nat → Bool} {e : Int} : ∀ n, rowsF (fun j => if p j then 0 else e) n = if allF p n then 0 else e
  | 0 => rfl
  | n + 1 => by
    have ih := rows_one (p := p) (e := e) n
    rw [rowsF, ih, allF]
    cases allF p n
    · cases hp : p n
      · by_cases he : e = 0
        · subst he; rfl
        · simp [he]
      · by_cases he : e = 0
        · subst he; rfl
        · simp [he]
    · cases hp : p n <;> simp
theorem kd_in (k : Int) : (k == 0 || k == 1) = inB k 0 1 := by
  rw [Bool.eq_iff_iff]
  unfold inB
  simp only [Bool.or_eq_true, Bool.and_eq_true, beq_iff_eq, decide_eq_true_eq]
  omega
theorem beqs (x y : Int) : (x == y) = (y == x) := by
  rw [Bool.eq_iff_iff]; simp only [beq_iff_eq]; exact ⟨Eq.symm, Eq.symm⟩
theorem own_cons (M : List Ch) (x : Int) (r : List Int) : ownToB M (x :: r) = (!(M.any fun o => o.dst.any fun y => y == x) && ownToB M r) := by
  unfold ownToB
  rw [List.any_cons, Bool.not_or]
  congr 3
  funext o
  congr 1
  funext y
  exact beqs x y
theorem fit_false (ps : List Po) (x kd : Int) : fitB ps x false kd = (inB x 1 ps.length && (!(poAt ps x).out && ((poAt ps x).kd == kd))) := by
  unfold fitB
  cases (poAt ps x).out <;> rfl
theorem toF_size {ps : List Po} {M : List Ch} {kd s : Int} (hs : s ≠ 0) : ∀ (dst : List Int) (prev : Int), toF ps M kd prev s dst = (goesB ps kd prev dst && (ownToB M dst && dst.all fun x => (poAt ps x).sz == s))
  | [], _ => rfl
  | x :: r, prev => by
    rw [toF, if_neg hs, toF_size hs r x, own_cons, goesB, fit_false, List.all_cons]
    generalize inB x 1 ps.length = b1
    generalize decide (prev < x) = b2
    generalize (poAt ps x).out = b3
    generalize ((poAt ps x).kd == kd) = b4
    generalize ((poAt ps x).sz == s) = b5
    generalize (M.any fun o => o.dst.any fun y => y == x) = b6
    generalize goesB ps kd x r = b7
    generalize ownToB M r = b8
    generalize (r.all fun x => (poAt ps x).sz == s) = b9
    cases b1 <;> cases b2 <;> cases b3 <;> cases b4 <;> cases b5 <;> cases b6 <;> cases b7 <;> cases b8 <;> rfl
theorem toF_zero {ps : List Po} {M : List Ch} {kd : Int} (hp : ∀ k : Int, inB k 1 ps.length = true → (poAt ps k).sz ≠ 0) (x : Int) (r : List Int) (prev : Int) : toF ps M kd prev 0 (x :: r) = (goesB ps kd prev (x :: r) && (ownToB M (x :: r) && (x :: r).all fun y => (poAt ps y).sz == (poAt ps x).sz)) := by
  cases hx : inB x 1 ps.length
  · rw [toF, hx, goesB, fit_false, hx]
    cases decide (prev < x) <;> rfl
  · rw [toF, if_pos rfl, toF_size (hp x hx) r x, own_cons, goesB, fit_false, List.all_cons]
    generalize inB x 1 ps.length = b1
    generalize decide (prev < x) = b2
    generalize (poAt ps x).out = b3
    generalize ((poAt ps x).kd == kd) = b4
    generalize ((poAt ps x).sz == (poAt ps x).sz) = b5
    generalize (M.any fun o => o.dst.any fun y => y == x) = b6
    generalize goesB ps kd x r = b7
    generalize ownToB M r = b8
    generalize (r.all fun y => (poAt ps y).sz == (poAt ps x).sz) = b9
    cases b1 <;> cases b2 <;> cases b3 <;> cases b4 <;> cases b5 <;> cases b6 <;> cases b7 <;> cases b8 <;> rfl
theorem one_zero (ps : List Po) (x : Int) (r : List Int) : oneSizeB ps 0 (x :: r) = (x :: r).all fun y => (poAt ps y).sz == (poAt ps x).sz := by
  rw [oneSizeB, Bool.eq_iff_iff]
  simp only [Bool.and_eq_true, Bool.not_eq_true', List.any_eq_false, List.all_eq_true, bne_iff_ne, ne_eq, Decidable.not_not, beq_iff_eq, Bool.or_eq_true, true_or, true_and]
theorem one_some (ps : List Po) {fr : Int} (hf : fr ≠ 0) : ∀ (dst : List Int), oneSizeB ps fr dst = dst.all fun y => (poAt ps y).sz == (poAt ps fr).sz
  | [] => rfl
  | x :: r => by
    rw [oneSizeB, Bool.eq_iff_iff]
    simp only [Bool.and_eq_true, Bool.not_eq_true', List.any_eq_false, List.all_eq_true, bne_iff_ne, ne_eq, Decidable.not_not, beq_iff_eq, Bool.or_eq_true]
    constructor
    · rintro ⟨h1, h2⟩ y hy
      rcases h1 with h1 | h1
      · exact absurd h1 hf
      · rw [h2 y hy, h1]
    · intro h
      exact ⟨.inr (h x List.mem_cons_self).symm, fun y hy => by rw [h y hy, h x List.mem_cons_self]⟩
theorem tm_times (c : Ch) : tmF c = timesB c := by
  unfold tmF timesB
  by_cases h : c.kd = 1 ∧ c.fr ≠ 0
  · rw [if_pos h, if_pos h]
    cases hp : inB c.pe 1 1048576
    · simp only [Bool.false_and]
    · have hb : 1 ≤ c.pe ∧ c.pe ≤ 1048576 := by unfold inB at hp; simp only [Bool.and_eq_true, decide_eq_true_eq] at hp; omega
      rw [wrap_in (n := c.pe - 1) ⟨by omega, by omega⟩]
  · rw [if_neg h, if_neg h]
theorem chD_rows {ps : List Po} (hp : ∀ k : Int, inB k 1 ps.length = true → (poAt ps k).sz ≠ 0) (L : List Ch) (i : Nat) : chD ps L i (L.getD i dCh) = allF (bCh ps L i) 8 := by
  have e : allF (bCh ps L i) 8 = ((((((((true && bCh ps L i 0) && bCh ps L i 1) && bCh ps L i 2) && bCh ps L i 3) && bCh ps L i 4) && bCh ps L i 5) && bCh ps L i 6) && bCh ps L i 7) := rfl
  rw [e]
  simp only [bCh]
  unfold chD
  rw [kd_in, tm_times]
  generalize L.getD i dCh = c
  by_cases h0 : c.fr = 0
  · unfold rfB ownFromB
    rw [if_pos h0, if_pos h0, h0]
    cases hd : c.dst with
    | nil => simp
    | cons x r =>
      rw [toF_zero hp x r 0, one_zero]
      generalize inB c.kd 0 1 = b1
      generalize goesB ps c.kd 0 (x :: r) = b2
      generalize ownToB (L.take i) (x :: r) = b3
      generalize ((x :: r).all fun y => (poAt ps y).sz == (poAt ps x).sz) = b4
      generalize timesB c = b5
      cases b1 <;> cases b2 <;> cases b3 <;> cases b4 <;> cases b5 <;> simp
  · have hz : (c.fr == 0) = false := by simp [h0]
    have hn : (c.fr != 0) = true := by simp [h0]
    unfold rfB ownFromB
    rw [if_neg h0, if_neg h0, hz, hn, one_some ps h0]
    cases hf : fitB ps c.fr true c.kd
    · simp
    · have hin : inB c.fr 1 ps.length = true := by unfold fitB at hf; exact (Bool.and_eq_true _ _ ▸ hf).1
      rw [toF_size (hp _ hin)]
      generalize inB c.kd 0 1 = b1
      generalize goesB ps c.kd 0 c.dst = b2
      generalize ownToB (L.take i) c.dst = b3
      generalize (c.dst.all fun y => (poAt ps y).sz == (poAt ps c.fr).sz) = b4
      generalize timesB c = b5
      generalize ((L.take i).any fun o => o.fr == c.fr) = b6
      cases b1 <;> cases b2 <;> cases b3 <;> cases b4 <;> cases b5 <;> cases b6 <;> rfl
/-- the document's Check finds what check's finds -/
theorem rck_chk {x : Im} (hc : ∀ y ∈ x.parts, y.code.length ≤ 9223372036854775807) : rckF x = chkF x := by
  refine rck_five hc (fun hn => ?_)
  have hp : ∀ k : Int, inB k 1 x.ports.length = true → (poAt x.ports k).sz ≠ 0 := by
    intro k hk
    have h4 : eachF (rf4 x) 1 x.ports.length = none := by
      have := firstF_none hn 4 (by omega)
      rw [← this]
      exact eachF_ext _ (fun i _ => (rqB_rows (x.ports.getD i ⟨0, 0, false, 0, 0, 0⟩)).symm)
    have hb : 1 ≤ k ∧ k ≤ x.ports.length := by unfold inB at hk; simp only [Bool.and_eq_true, decide_eq_true_eq] at hk; omega
    have h := eachF_none h4 (k.toNat - 1) (by omega)
    unfold rf4 at h
    have hq : rqB x.parts.length (poAt x.ports k) = true := by
      unfold poAt dPo
      cases hb2 : rqB x.parts.length (x.ports.getD (k.toNat - 1) ⟨0, 0, false, 0, 0, 0⟩)
      · rw [hb2] at h; cases h
      · rfl
    unfold rqB at hq
    simp only [Bool.and_eq_true] at hq
    have h3 := hq.2.2.1
    unfold inB at h3
    simp only [Bool.and_eq_true, decide_eq_true_eq] at h3
    omega
  refine eachF_ext _ (fun i _ => ?_)
  show rf5 x i = _
  rw [rows_one, ← chD_rows hp]
  rfl
end Go.Proofs.YtggejpccjmolhaaGreatDoor

namespace Go.Proofs.YtggejpccjmolhaaGreatDoor
open Go.RowKit Plain
set_option linter.unusedVariables false
set_option linter.unusedSimpArgs false
set_option maxRecDepth 100000

theorem heap_two (w : World) (x y : Obj) : ((w.alloc x).alloc y).heap[w.heap.size + 1]? = some y := by
  show ((w.heap.push x).push y)[w.heap.size + 1]? = some y
  rw [show w.heap.size + 1 = (w.heap.push x).size by rw [Array.size_push]]
  exact Array.getElem?_push_size
theorem results_ctA {P : Program} {fn : Func} {p u : Tmp} {ty : TypeId} (h : fn.results = #[.cell p ty, .tmp u]) (tmps : Array Value) (w : World) (g : Nat) (v : Value)
    (hp : tmps.getD p undef = .pointer (some ⟨g, 0, none⟩)) (hl : (loadVar ty ⟨g, 0, none⟩).run P w = .ok v w) : (results fn tmps).run P w = .ok (.tuple #[v, tmps.getD u undef]) w := by
  have hp' : tmps[p]?.getD undef = .pointer (some ⟨g, 0, none⟩) := by simpa using hp
  simp [results, h, hp', asAddr, hl]
set_option maxHeartbeats 4000000 in
theorem awithin_any (n lo : Int) (w : World) :
    Calls Tryz.prog 14 #[.int .i64 n, .int .i64 lo] w fun e w' => e = .returned (.bool (inB n lo 1099511627776)) ∧ w' = w := by
  by_cases h0 : lo ≤ n
  · by_cases h1 : n ≤ 1099511627776
    · have hB : Hid (inB n lo 1099511627776 = true) := by show _ = _; unfold inB; simp only [Bool.and_eq_true, decide_eq_true_eq]; exact ⟨h0, h1⟩
      have g1 : decide (n ≤ 1099511627776) = true := by simp [h1]
      have g0 : decide (lo ≤ n) = true := by simp [h0]
      go_enter Tryz.func14, Tryz.ntmps14
      go_wp2
      go_ret
      exact ⟨by rw [hB.out]; rfl, rfl⟩
    · have hB : Hid (inB n lo 1099511627776 = false) := by show _ = _; unfold inB; simp [h1]
      have g1 : decide (n ≤ 1099511627776) = false := by simp only [decide_eq_false_iff_not]; exact h1
      have g0 : decide (lo ≤ n) = true := by simp [h0]
      go_enter Tryz.func14, Tryz.ntmps14
      go_wp2
      go_ret
      exact ⟨by rw [hB.out]; rfl, rfl⟩
  · have hB : Hid (inB n lo 1099511627776 = false) := by show _ = _; unfold inB; simp [h0]
    have g0 : decide (lo ≤ n) = false := by simp only [decide_eq_false_iff_not]; exact h0
    go_enter Tryz.func14, Tryz.ntmps14
    go_wp2
    go_ret
    exact ⟨by rw [hB.out]; rfl, rfl⟩

/-- the channel of a number; what is none is a channel of zeros -/
def chNo (L : List Ch) (c : Int) : Ch := if inB c 1 L.length then L.getD (c.toNat - 1) dCh else dCh
set_option maxHeartbeats 8000000 in
theorem achanOf_any (F : Nat → Prop) (v0 v1 : Value) (a : Option Addr) (n c : Nat) (L : List Ch) (k : Int) (w : World) (hL : Ls 5 elCh w F a n c L) (hk6 : -9223372036854775808 ≤ k ∧ k ≤ 9223372036854775807) :
    Calls Tryz.prog 13 #[.agg #[v0, v1, .slice a n c], .int .i64 k] w fun e w' => ∃ ta tn tc, e = .returned (.tuple #[.agg #[.int .i64 (chNo L k).kd, .int .i64 (chNo L k).fr, .slice ta tn tc, .int .i64 (chNo L k).ph, .int .i64 (chNo L k).pe], .bool (inB k 1 n)]) ∧ Kept No w w' := by
  have hn : n ≤ 9223372036854775807 := Nat.le_trans hL.cap hL.max
  have HLN := hid hL.len
  have HK : Hid (∀ o, Kept No w ((w.alloc (.cells #[v0, v1, .slice a n c] 26)).alloc o)) := fun o => ((Kept.refl No w).alloc _).alloc o
  by_cases h0 : 1 ≤ k
  · by_cases h1 : k ≤ n
    · have hB : Hid (inB k 1 n = true) := by show _ = _; unfold inB; simp only [Bool.and_eq_true, decide_eq_true_eq]; exact ⟨h0, h1⟩
      obtain ⟨j, rfl⟩ : ∃ j : Nat, k = j + 1 := ⟨(k - 1).toNat, by omega⟩
      have HC : Hid (chNo L ((j : Int) + 1) = L.getD j dCh) := by
        show _ = _
        unfold chNo
        rw [HLN.out, hB.out, if_pos rfl]
        congr 1
      have hj : j < n := by omega
      have hx : L[j]? = some (L.getD j dCh) := by rw [List.getD, List.getElem?_eq_getElem (by rw [HLN.out]; exact hj)]; rfl
      obtain ⟨bb, oo, ds, rfl, _, _, hr, hE⟩ := hL.at' j _ hx
      obtain ⟨ta, tn, tc, rfl, hT⟩ := hE.sl
      rw [HC.out]
      generalize L.getD j dCh = z at *
      obtain ⟨z0, z1, z2, z3, z4⟩ := z
      have KA : Kept No w (w.alloc (.cells #[v0, v1, .slice (some ⟨bb, oo, none⟩) n c] 26)) := (Kept.refl No w).alloc _
      have DD : Hid (∀ W, Kept No w W → W.cell? ⟨bb, oo + j * 5, none⟩ = some (.int .i64 z0) ∧ W.cell? ⟨bb, oo + j * 5 + 1, none⟩ = some (.int .i64 z1) ∧ W.cell? ⟨bb, oo + j * 5 + 2, none⟩ = some (.slice ta tn tc) ∧ W.cell? ⟨bb, oo + j * 5 + 3, none⟩ = some (.int .i64 z3) ∧ W.cell? ⟨bb, oo + j * 5 + 4, none⟩ = some (.int .i64 z4)) := fun W kw => ⟨kw.cell (by have h := hr 0 _ rfl; rw [Nat.add_zero] at h; exact h) (fun h => h), kw.cell (hr 1 _ rfl) (fun h => h), kw.cell (hr 2 _ rfl) (fun h => h), kw.cell (hr 3 _ rfl) (fun h => h), kw.cell (hr 4 _ rfl) (fun h => h)⟩
      have hj2 : (j : Int) < (n : Int) := by omega
      have g0 : ¬ ((j : Int) + 1 < 1) := by omega
      have g0' : decide ((j : Int) + 1 < 1) = false := by simp only [decide_eq_false_iff_not]; omega
      have g1 : ¬ ((n : Int) < (j : Int) + 1) := by omega
      have g1' : decide ((n : Int) < (j : Int) + 1) = false := by simp only [decide_eq_false_iff_not]; omega
      have gj : (j : Int) + 1 - 1 = (j : Int) := by omega
      obtain ⟨c0, c1, c2, c3, c4⟩ := DD.out ((w.alloc (.cells #[v0, v1, .slice (some ⟨bb, oo, none⟩) n c] 26)).alloc (.cells #[.int .i64 0, .int .i64 0, .slice none 0 0, .int .i64 0, .int .i64 0] 34)) (HK.out _)
      have HKc := HK
      clear hL hE hx hr hT KA
      go_enter Tryz.func13, Tryz.ntmps13
      go_wp2
      (try simp only [Exit.inBlock, Exit.then])
      refine bodyPost_ret (results_ctA rfl _ _ (w.heap.size + 1) (.agg #[.int .i64 z0, .int .i64 z1, .slice ta tn tc, .int .i64 z3, .int .i64 z4]) rfl ?_) rfl ?_
      · exact run_loadVar_row (P := Tryz.prog) _ (w.heap.size + 1) 34 34 #[.int .i64 z0, .int .i64 z1, .slice ta tn tc, .int .i64 z3, .int .i64 z4] (0, 0) _ (heap_two _ _ _) Tryz.underlying34 rfl (by kernel_rfl)
      · exact ⟨⟨ta, tn, tc, by rw [hB.out]; rfl⟩, HK.out _⟩
    · have hB : Hid (inB k 1 n = false) := by show _ = _; unfold inB; simp [h1]
      have HC : Hid (chNo L k = dCh) := by show _ = _; unfold chNo; rw [HLN.out, hB.out]; rfl
      rw [HC.out]
      have g0 : ¬ (k < 1) := by omega
      have g0' : decide (k < 1) = false := by simp only [decide_eq_false_iff_not]; omega
      have g1 : (n : Int) < k := by omega
      have g1' : decide ((n : Int) < k) = true := by simp [g1]
      clear hL
      go_enter Tryz.func13, Tryz.ntmps13
      go_wp2
      (try simp only [Exit.inBlock, Exit.then])
      refine bodyPost_ret (results_ctA rfl _ _ (w.heap.size + 1) (.agg #[.int .i64 0, .int .i64 0, .slice none 0 0, .int .i64 0, .int .i64 0]) rfl ?_) rfl ?_
      · exact run_loadVar_row (P := Tryz.prog) _ (w.heap.size + 1) 34 34 #[.int .i64 0, .int .i64 0, .slice none 0 0, .int .i64 0, .int .i64 0] (0, 0) _ (heap_two _ _ _) Tryz.underlying34 rfl (by kernel_rfl)
      · exact ⟨⟨none, 0, 0, by rw [hB.out]; rfl⟩, HK.out _⟩
  · have hB : Hid (inB k 1 n = false) := by show _ = _; unfold inB; simp [h0]
    have HC : Hid (chNo L k = dCh) := by show _ = _; unfold chNo; rw [HLN.out, hB.out]; rfl
    rw [HC.out]
    have g0 : k < 1 := by omega
    have g0' : decide (k < 1) = true := by simp [g0]
    clear hL
    go_enter Tryz.func13, Tryz.ntmps13
    go_wp2
    (try simp only [Exit.inBlock, Exit.then])
    refine bodyPost_ret (results_ctA rfl _ _ (w.heap.size + 1) (.agg #[.int .i64 0, .int .i64 0, .slice none 0 0, .int .i64 0, .int .i64 0]) rfl ?_) rfl ?_
    · exact run_loadVar_row (P := Tryz.prog) _ (w.heap.size + 1) 34 34 #[.int .i64 0, .int .i64 0, .slice none 0 0, .int .i64 0, .int .i64 0] (0, 0) _ (heap_two _ _ _) Tryz.underlying34 rfl (by kernel_rfl)
    · exact ⟨⟨none, 0, 0, by rw [hB.out]; rfl⟩, HK.out _⟩
end Go.Proofs.YtggejpccjmolhaaGreatDoor

namespace Go.Proofs.YtggejpccjmolhaaGreatDoor
open Go.RowKit Plain
set_option linter.unusedVariables false
set_option maxRecDepth 100000

theorem comes_any (o p : Int) (w : World) :
    Calls Tryz.prog 46 #[.int .i64 o, .int .i64 p] w fun e w' => e = .returned (.bool (countB o p)) ∧ w' = w := by
  by_cases h1 : o < 0
  · rw [show countB o p = false from if_pos (by omega)]
    go_enter Tryz.func46, Tryz.ntmps46
    go_wp2
    go_ret
    exact ⟨rfl, rfl⟩
  by_cases h2 : p < 1
  · rw [show countB o p = false from if_pos (by omega)]
    have h3 : decide (1 ≤ p) = false := by simp; omega
    go_enter Tryz.func46, Tryz.ntmps46
    go_wp2
    go_ret
    exact ⟨rfl, rfl⟩
  rw [show countB o p = true from if_neg (by omega)]
  have h3 : decide (1 ≤ p) = true := by simp; omega
  go_enter Tryz.func46, Tryz.ntmps46
  go_wp2
  go_ret
  exact ⟨rfl, rfl⟩

end Go.Proofs.YtggejpccjmolhaaGreatDoor

namespace Go.Proofs.YtggejpccjmolhaaGreatDoor
open Go.RowKit Plain
set_option linter.unusedVariables false
set_option maxRecDepth 100000

theorem below_any (o p b : Int) (w : World) (ho : 0 ≤ o) (hp : 1 ≤ p) (hb : I64 b) :
    Calls Tryz.prog 47 #[.int .i64 o, .int .i64 p, .int .i64 b] w fun e w' => e = .returned (.int .i64 (cbF o p b)) ∧ w' = w := by
  unfold I64 at hb
  obtain ⟨hb1, hb2⟩ := hb
  by_cases h1 : b ≤ o
  · rw [show cbF o p b = 0 from if_pos h1]
    go_enter Tryz.func47, Tryz.ntmps47
    go_wp2
    go_ret
    exact ⟨rfl, rfl⟩
  rw [show cbF o p b = (b - 1 - o) / p + 1 from if_neg h1]
  obtain ⟨d1, d2⟩ := div_le (b - 1 - o) p hp (by omega)
  go_enter Tryz.func47, Tryz.ntmps47
  go_wp2
  go_ret
  exact ⟨rfl, rfl⟩

theorem count_any (o p f b : Int) (w : World) (hf : I64 f) (hb : I64 b) :
    Calls Tryz.prog 39 #[.int .i64 o, .int .i64 p, .int .i64 f, .int .i64 b] w fun e w' => e = .returned (.tuple #[.int .i64 (countV o p f b), .bool (countB o p)]) ∧ w' = w := by
  by_cases h1 : o < 0 ∨ p < 1
  · have hc : countB o p = false := if_pos h1
    rw [show countV o p f b = 0 from if_pos h1, hc]
    clear hf hb
    go_enter Tryz.func39, Tryz.ntmps39
    go_wp2_with (go_at_call 46; refine (comes_any _ _ _).mono ?_; rintro e w' ⟨rfl, rfl⟩)
    go_ret2
    exact ⟨rfl, rfl⟩
  have hc : countB o p = true := if_neg h1
  have ho : 0 ≤ o := by omega
  have hp : 1 ≤ p := by omega
  clear h1
  by_cases h2 : b ≤ f
  · rw [count_zero o p f b h2, hc]
    clear hf hb
    go_enter Tryz.func39, Tryz.ntmps39
    go_wp2_with (go_at_call 46; refine (comes_any _ _ _).mono ?_; rintro e w' ⟨rfl, rfl⟩)
    go_ret2
    exact ⟨rfl, rfl⟩
  rw [count_of o p f b ho hp (by omega), hc]
  have m1 := cb_mono o p f b hp (by omega)
  have m2 := cb_nonneg o p f hp
  have m3 := cb_le o p b hp ho hb.2
  go_enter Tryz.func39, Tryz.ntmps39
  go_wp2_with (first | (go_at_call 46; refine (comes_any _ _ _).mono ?_; rintro e w' ⟨rfl, rfl⟩) | (go_at_call 47; refine (below_any _ _ _ _ ?_ ?_ ?_).mono ?_; all_goals first | assumption | rintro e w' ⟨rfl, rfl⟩))
  go_ret2
  exact ⟨rfl, rfl⟩

end Go.Proofs.YtggejpccjmolhaaGreatDoor
