/-
  One text: VTh, VTt, VTi, VTw.
-/
import Derived.Test.YtnmhcnppdhdhfaaGreatDoorG48
import Derived.Test.YtnmhcnppdhdhfaaGreatDoorG40
import Derived.BigQuiet
import Derived.Test.YtnmhcnppdhdhfaaGreatDoorHVLw
namespace Go.Proofs.YtnmhcnppdhdhfaaGreatDoor
open Go.RowKit Plain Rp
set_option linter.unusedVariables false
set_option linter.unusedSimpArgs false
set_option maxRecDepth 100000

/-- there is a job with the play's answer in any multiple's two spans -/
theorem Ply.tight2 {o : Nat → Bool} {m m' n s : Nat} {xs : List Prc} {d : Array Wr} (h : Ply o m n s xs d) (hm : 1 ≤ m') (ho : again o m') (hT : ∀ l, l < n → m' % Td d l = 0) {j : Nat} (hj : j < s) :
    ∃ t, t < 2 * m' ∧ ends (lv o (Td d) (Cd d) j) (fun _ => Cd d j) (Td d j) t = true ∧ t % Td d j + 1 = wrst (lv o (Td d) (Cd d) j) (fun _ => Cd d j) (Td d j) (2 * m) := by
  have sn := h.sn
  have ts := fun j (hj : j < s) => told_same (c := Cd d j) (lv_again (C := Cd d) h.ag h.m1 j (fun i hi => h.mT i (by omega))) (lv_again (C := Cd d) ho hm j (fun i hi => hT i (by omega))) h.m1 hm (h.mT j (by omega)) (hT j (by omega))
  have h2 : Ply o m' n s xs d := { h with m1 := hm, mT := hT, ag := ho, ok := fun j hj => (ts j hj).1.1 (h.ok j hj) }
  obtain ⟨⟨t, t1, t2, t3⟩, _⟩ := h2.tight hj
  exact ⟨t, t1, t2, by rw [(ts j hj).2]; exact t3⟩
theorem ls_none (w : World) (F : Nat → Prop) : Ls 1 elI w F none 0 0 [] := ⟨rfl, Nat.le_refl _, by omega, fun _ => rfl, fun i x h => by simp at h⟩
/-- the numbers copied: append to an empty list of one's own -/
theorem copyNm {w : World} {ops : Array Oper} {rest : List Oper} {o : Oper} {a : Act} {Q : Exit → Act → World → Prop} (hgd : o.guard = none) (s x : Operand)
    (ho : o.op = .call { callee := .builtin .append, args := #[s, x], argTypes := #[27, 27] }) (b : Nat) (hs : a.eval s = .slice (some ⟨b, 0, none⟩) 0 0) (hv : w.ownsRow b 3 1 (.slice (some ⟨b, 0, none⟩) 0 0) 0 []) (hB : b ≤ w.heap.size) (gl n c : Nat) (hx : a.eval x = .slice (some ⟨gl, 0, none⟩) n c)
    (v : Nat → Int) (hR : RdN w gl n v) (hn : n ≤ 70000)
    (h : ∀ g cap w', Hid (Nm w' g n v ∧ b ≤ g ∧ n ≤ cap ∧ cap ≤ 9223372036854775807) → Hid (Kept (fun k => k = b) w w') → wpList Tryz.prog ops Q rest (a.put o.dst (.slice (some ⟨g, 0, none⟩) n cap)) w') : wpList Tryz.prog ops Q (o :: rest) a w := by
  obtain ⟨i0, hi, hz0, hz1, hz2⟩ := info_parts infCTo
  have hg : ∀ j u, ((List.range n).map (fun i => Value.int .i64 (v i)))[j]? = some u → j < n ∧ u = .int .i64 (v j) := fun j u hj => by
    rw [List.getElem?_map] at hj
    have hl : j < n := by
      by_cases hl : j < n
      · exact hl
      · rw [List.getElem?_eq_none (by simp; omega)] at hj; cases hj
    rw [List.getElem?_eq_getElem (by simp; omega), List.getElem_range] at hj
    exact ⟨hl, by injection hj with hj; exact hj.symm⟩
  refine wpList_append_own _ hgd s x 27 ho b 3 i0 (.int .i64 0) 1 8 Tryz.underlying27 hi hz0 hz1 hz2 rfl (by decide) _ 0 [] hs hv ⟨gl, 0, none⟩ n c ((List.range n).map (fun i => Value.int .i64 (v i))) hx (by simp) (fun j u hj => ?_) (fun u hu => ?_) (by unfold maxLen; omega) (by omega) hB ?_
  · obtain ⟨hl, rfl⟩ := hg j u hj
    rw [add_none]
    have := hR j hl
    rw [Nat.zero_add]
    exact this
  · rw [List.mem_map] at hu
    obtain ⟨i, _, rfl⟩ := hu
    rfl
  · intro v1 w1 own1 grow1 hnz
    rw [Nat.zero_add, List.nil_append] at own1
    have hc := fun g hg => own1.cells (g := g) hg
    obtain ⟨_, ⟨q1, q2⟩ | ⟨g, cap, cur, rfl, q2, q3, q4, q5, q6, q7⟩⟩ := own1
    · exact absurd (hnz.1 q1).1 (fun e => by cases e)
    · refine h g cap w1 ⟨⟨⟨cur, q3⟩, fun i hi => ?_⟩, q2, q4, q5⟩ ((Kept.refl (fun k => k = b) w).grown grow1 (fun k e => .inl (by injection e with e; exact e.symm)))
      have := hc g rfl i (.int .i64 (v i)) (by rw [List.getElem?_map, List.getElem?_eq_getElem (by simp; omega), List.getElem_range]; rfl)
      rw [add_none, Nat.zero_add] at this
      exact this
end Go.Proofs.YtnmhcnppdhdhfaaGreatDoor

namespace Go.Proofs.YtnmhcnppdhdhfaaGreatDoor
open Go.RowKit Plain Rp
set_option linter.unusedVariables false
set_option linter.unusedSimpArgs false
set_option maxRecDepth 100000

set_option maxHeartbeats 16000000 in
theorem tight_err {a0 a1 a2 : Option Addr} {n0 c0 n1 c1 n2 c2 : Nat} {x : Im} (w : World) (hg : Gl w) (hO : Lg.Ops w) (h : Img w (Hn w) a0 n0 c0 a1 n1 c1 a2 n2 c2 x) (hS : szIm x) (p z : Int) (he : woE x p ≠ 0) :
    Calls Tryz.prog 4 #[.agg #[.slice a0 n0 c0, .slice a1 n1 c1, .slice a2 n2 c2], .int .i64 p, .int .i64 z] w fun e w' => e = .returned (.bool true) ∧ Kept No w w' := by
  obtain ⟨K0, HM0⟩ := imb w (.slice a0 n0 c0) (.slice a1 n1 c1) (.slice a2 n2 c2)
  obtain ⟨m0, m1, m2, _⟩ := HM0 _ (Kept.refl _ _)
  have HK0 : Hid (Kept No w (w.alloc (.cells #[.slice a0 n0 c0, .slice a1 n1 c1, .slice a2 n2 c2] 26))) := K0
  have HM : Hid (∀ W, Kept No (w.alloc (.cells #[.slice a0 n0 c0, .slice a1 n1 c1, .slice a2 n2 c2] 26)) W → W.cell? ⟨w.heap.size, 0, none⟩ = some (.slice a0 n0 c0) ∧ W.cell? ⟨w.heap.size, 1, none⟩ = some (.slice a1 n1 c1) ∧ W.cell? ⟨w.heap.size, 2, none⟩ = some (.slice a2 n2 c2) ∧ Kept No w W) := HM0
  have hcC := fun (W : World) (k : Kept No w W) => copy_apart a0 n0 c0 a1 n1 c1 a2 n2 c2 x W (img_hn h k) hS
  have HC := hid hcC
  have HG : Hid (Gl w ∧ Lg.Ops w) := ⟨hg, hO⟩
  have HE : Hid (woE x p ≠ 0) := he
  have hz : ¬ woE x p = 0 := he
  clear h hS hg hO HM0 K0 he hcC
  obtain ⟨er, her⟩ : ∃ er, er = woE x p := ⟨_, rfl⟩
  have HER : Hid (er = woE x p) := her
  rw [← her] at hz
  clear her
  go_enter Tryz.func4, Tryz.ntmps4
  go_upto_region 2 with (first
    | (go_at_call 7; refine (HC.out _ HK0.out).mono ?_; rintro e w1 ⟨b0, m0', d0, b1, m1', d1, b2, m2', d2, lo, T, rfl, hlo, hI, k1⟩; have HI : Hid (ImP w1 lo T w1.heap.size b0 m0' d0 b1 m1' d1 b2 m2' d2 x) := hI; have K1 : Hid (Kept No w w1) := HK0.out.trans k1 (fun _ h => h.elim); have KB1 := hid k1; clear hlo hI k1)
    | (go_at_call 6; refine (worst_err p _ (HG.out.1.kept K1.out) (ops_of HG.out.2 K1.out) HI.out.img HE.out).mono ?_; rintro e w2 ⟨rfl, k2⟩; rw [← HER.out]; have K2 : Hid (Kept No w w2) := K1.out.trans k2 (fun _ h => h.elim); have KB2 := hid (KB1.out.trans k2 (fun _ h => h.elim)); clear k2))
  clear HI m0 m1 m2
  obtain ⟨m0, m1, m2, _⟩ := HM.out w2 KB2.out
  go_upto_region 4 with (first
    | (go_at_call 7; refine (HC.out _ K2.out).mono ?_; rintro e w3 ⟨b0, m0', d0, b1, m1', d1, b2, m2', d2, lo, T, rfl, hlo, hI, k3⟩; have HI : Hid (ImP w3 lo T w3.heap.size b0 m0' d0 b1 m1' d1 b2 m2' d2 x) := hI; have K3 : Hid (Kept No w w3) := K2.out.trans k3 (fun _ h => h.elim); clear hlo hI k3)
    | (go_at_call 11; refine (span_err p _ (HG.out.1.kept K3.out) (ops_of HG.out.2 K3.out) HI.out.img HE.out).mono ?_; rintro e w4 ⟨rfl, k4⟩; rw [← HER.out]; have K4 : Hid (Kept No w w4) := K3.out.trans k4 (fun _ h => h.elim); clear k4))
  clear HI
  go_wp2_with (go_at_call 5; refine (known_yes _ (HG.out.1.kept K4.out) (ops_of HG.out.2 K4.out)).mono ?_; rintro e w5 ⟨rfl, k5⟩; have K5 : Hid (Kept No w w5) := K4.out.trans k5 (fun _ h => h.elim); clear k5)
  go_ret
  exact ⟨rfl, K5.out⟩
end Go.Proofs.YtnmhcnppdhdhfaaGreatDoor

namespace Go.Proofs.YtnmhcnppdhdhfaaGreatDoor
open Go.RowKit Plain Rp
set_option linter.unusedVariables false
set_option linter.unusedSimpArgs false
set_option maxRecDepth 100000

/-- one less for one process: the run finds the late job -/
theorem run_tight {F F2 : Nat → Prop} {a : Option Addr} {n c : Nat} {xs : List Prc} {ta : Option Addr} {tn tc : Nat} {R : List (Nat × Nat)} {gl cw m m' s : Nat} {d : Array Wr} (fo : Nat → Nat) (p i : Nat) (v : Nat → Int) (w : World)
    (hP : Ls 6 elPrc w F a n c xs) (hR : Tn w F2 ta tn tc R) (hTi : Rule.Tile fo 0 (2 * m') R) (hcw : n ≤ cw) (hcw2 : cw ≤ 9223372036854775807) (hn : n ≤ 70000) (hN : 2 * m' ≤ 20000)
    (h : Ply (occB fo p) m n s xs d) (h1 : ∀ j, j < s → v (plc d j) = ((wrst (lv (occB fo p) (Td d) (Cd d) j) (fun _ => Cd d j) (Td d j) (2 * m) : Nat) : Int)) (h2 : ∀ l, s ≤ l → l < n → v (plc d l) = -1)
    (hm : 1 ≤ m') (ho : again (occB fo p) m') (hT : ∀ j, j < n → (xs.getD j dPrc).pe.toNat ∣ m') (hi : i < n) (hvi : v i ≠ -1) (hW : RdN w gl n (fun a => if a = i then v i - 1 else v a)) :
    Calls Tryz.prog 10 #[.slice a n c, .int .i64 (p : Int), .slice ta tn tc, .slice none 0 0, .slice (some ⟨gl, 0, none⟩) n cw] w fun e w' => e = .returned (.bool false) ∧ Kept No w w' := by
  obtain ⟨l, hl, rfl⟩ := h.sur i hi
  have hls : l < s := by
    by_cases hls : l < s
    · exact hls
    · exact absurd (h2 l (by omega) hl) hvi
  have hsn := h.sn
  have inj := (h.sch [] v (fun j hj => by rw [h1 j hj]; omega) h2)
  have hS : Sch (occB fo p) (Td d) (takC [] xs d) n s (plc d) (prs xs) (fun a => if a = plc d l then v (plc d l) - 1 else v a) (fun i => (xs.getD i dPrc).pe) (fun ct i => tkV [] (xs.getD i dPrc).ca ct i) := by
    refine h.sch [] _ (fun j hj => ?_) (fun k hk1 hk2 => ?_)
    · show 0 ≤ if plc d j = plc d l then v (plc d l) - 1 else v (plc d j)
      split
      · have := (h.tight hls).2.1
        have hC : 1 ≤ Cd d l := by rw [h.C l hl]; have := (h.pe _ (h.lt l hl)).2.2.1; omega
        rw [h1 l hls]; omega
      · rw [h1 j hj]; omega
    · show (if plc d k = plc d l then v (plc d l) - 1 else v (plc d k)) = -1
      rw [if_neg (fun e => by have := inj.inj hk2 hl e; omega)]
      exact h2 k hk1 hk2
  have hbd := ws_bd h h1 h2
  have hc := run_any fo p (2 * m') (Td d) (takC [] xs d) s (plc d) _ w hP hR hTi (ls_none w (fun _ => True)) hW hcw hcw2 hn hN h.pe (fun i hi => by
    show -1 ≤ (if i = plc d l then v (plc d l) - 1 else v i) ∧ (if i = plc d l then v (plc d l) - 1 else v i) ≤ 4398046511104
    have := hbd i hi
    split
    · rename_i e; subst e; omega
    · omega) hS
  refine hc.mono ?_
  rintro e w' ⟨b', rfl, k, ht, _⟩
  cases b' with
  | false => exact ⟨rfl, k⟩
  | true =>
    exfalso
    have hTm : ∀ l, l < n → m' % Td d l = 0 := fun l hl => by rw [h.T l hl]; exact Nat.mod_eq_zero_of_dvd (hT _ (h.lt l hl))
    obtain ⟨t, t1, t2, t3⟩ := h.tight2 hm ho hTm hls
    have h3 : ((t % Td d l + 1 : Nat) : Int) ≤ if plc d l = plc d l then v (plc d l) - 1 else v (plc d l) := ht rfl t t1 l hls (by rw [h.full hl, h.fullL hl]; exact t2)
    rw [if_pos rfl, h1 l hls] at h3
    omega
theorem tight_bd {o : Nat → Bool} {m n s : Nat} {xs : List Prc} {d : Array Wr} {v : Nat → Int} (h : Ply o m n s xs d) (h1 : ∀ j, j < s → v (plc d j) = ((wrst (lv o (Td d) (Cd d) j) (fun _ => Cd d j) (Td d j) (2 * m) : Nat) : Int)) (h2 : ∀ l, s ≤ l → l < n → v (plc d l) = -1) {i : Nat} (hi : i < n) (hvi : v i ≠ -1) : (xs.getD i dPrc).ca ≤ v i ∧ v i ≤ (xs.getD i dPrc).pe ∧ 1 ≤ v i ∧ v i ≤ 2199023255552 := by
  obtain ⟨l, hl, rfl⟩ := h.sur i hi
  have hls : l < s := by
    by_cases hls : l < s
    · exact hls
    · exact absurd (h2 l (by omega) hl) hvi
  obtain ⟨_, t2, t3⟩ := h.tight hls
  have e1 := h.C l hl
  have e2 := h.T l hl
  have e3 := h.pe _ (h.lt l hl)
  rw [h1 l hls]
  omega
set_option maxHeartbeats 16000000 in
theorem tight_in {a0 a1 a2 : Option Addr} {n0 c0 n1 c1 n2 c2 : Nat} {x : Im} (w : World) (hg : Gl w) (hO : Lg.Ops w) (h : Img w (Hn w) a0 n0 c0 a1 n1 c1 a2 n2 c2 x) (hS : szIm x) (q : Nat) (z : Int) (hp : Pim x n0 q) :
    Calls Tryz.prog 4 #[.agg #[.slice a0 n0 c0, .slice a1 n1 c1, .slice a2 n2 c2], .int .i64 (q : Int), .int .i64 z] w fun e w' => e = .returned (.bool true) ∧ Kept No w w' := by
  obtain ⟨K0, HM0⟩ := imb w (.slice a0 n0 c0) (.slice a1 n1 c1) (.slice a2 n2 c2)
  obtain ⟨m0, m1, m2, _⟩ := HM0 _ (Kept.refl _ _)
  have HK0 : Hid (Kept No w (w.alloc (.cells #[.slice a0 n0 c0, .slice a1 n1 c1, .slice a2 n2 c2] 26))) := K0
  have HM : Hid (∀ W, Kept No (w.alloc (.cells #[.slice a0 n0 c0, .slice a1 n1 c1, .slice a2 n2 c2] 26)) W → W.cell? ⟨w.heap.size, 0, none⟩ = some (.slice a0 n0 c0) ∧ W.cell? ⟨w.heap.size, 1, none⟩ = some (.slice a1 n1 c1) ∧ W.cell? ⟨w.heap.size, 2, none⟩ = some (.slice a2 n2 c2) ∧ Kept No w W) := HM0
  have hcC := fun (W : World) (k : Kept No w W) => copy_apart a0 n0 c0 a1 n1 c1 a2 n2 c2 x W (img_hn h k) hS
  have HC := hid hcC
  have HG : Hid (Gl w ∧ Lg.Ops w) := ⟨hg, hO⟩
  have HPM := hid hp
  have hlen := h.ps.len
  have hnp := chk_np hp.ck (i := q - 1) (by have := hp.q1; have := hp.q2; omega)
  have hq1 := hp.q1
  have hq2 := hp.q2
  have hn32 : n0 ≤ 70000 := by
    have ht : timF (svs x.parts) n0 = none := by rw [← hlen]; exact chk_tim hp.ck
    have := (vd_of (xs := svs x.parts) (by rw [svs_len, hlen]; exact ht)).num
    rw [svs_len, hlen] at this; omega
  have HPS : Hid (∀ W, Kept No w W → Ls 21 elPn W (Hn w) a0 n0 c0 x.parts) := fun W k => h.ps.kept k (fun _ _ h => h) (elPn_kept k (fun _ _ h => h))
  obtain ⟨Q, hQ⟩ : ∃ Q, Q = q - 1 := ⟨_, rfl⟩
  have hx : x.parts[Q]? = some (x.parts.getD Q dPn) := by rw [List.getD, List.getElem?_eq_getElem (by omega)]; rfl
  obtain ⟨pb, po, cs, rfl, _, _, hr, hPn⟩ := h.ps.at' _ _ hx
  obtain ⟨b0, n0', k0, b1, n1', k1, b2, n2', k2, b3, n3, k3, b4, n4, k4, b5, n5, k5, he, _, _, hL, _⟩ := hPn.sl
  have c8 : w.cell? ⟨pb, po + Q * 21 + 8, none⟩ = some (.slice b2 n2' k2) := hr 8 _ (by rw [he]; rfl)
  have HC8 : Hid (∀ W, Kept No w W → W.cell? ⟨pb, po + Q * 21 + 8, none⟩ = some (.slice b2 n2' k2)) := fun W k => k.cell c8 (fun h => h)
  have HL : Hid (∀ W, Kept No w W → Ls 6 elPrc W (Hn w) b2 n2' k2 (x.parts.getD Q dPn).procs) := fun W k => hL.kept k (fun _ _ h => h) (elPrc_kept k (fun _ _ h => h))
  have hnl := hL.len
  have HQ : Hid (Q = q - 1) := hQ
  have hsl : (svs x.parts).length = n0 := by rw [svs_len, hlen]
  have HSL := hid hsl
  have HOK : Hid (∀ i, i < n0 → ((svs x.parts).getD i ⟨0, 0, 0, 0⟩).ok) := fun i hi => svs_ok h.ps i hi
  have hqQ : wrap64 ((q : Int) - 1) = (Q : Int) := by unfold wrap64; omega
  have hQ2 : (Q : Int) < (n0 : Int) := by omega
  have hqa : (q : Int) - 1 = (Q : Int) := by omega
  have hWP := fun (W : World) (F : Nat → Prop) (b0 : Option Addr) (d0 : Nat) (b1 : Option Addr) (m1 d1 : Nat) (b2 : Option Addr) (m2 d2 : Nat) (k : Kept No w W) (hI : Img W F b0 n0 d0 b1 m1 d1 b2 m2 d2 x) (hF : ∀ k, F k → k < W.heap.size) => worst_ply hp W (hg.kept k) (ops_of hO k) hI hF
  have hSP := fun (W : World) (F : Nat → Prop) (b0 : Option Addr) (d0 : Nat) (b1 : Option Addr) (m1 d1 : Nat) (b2 : Option Addr) (m2 d2 : Nat) (k : Kept No w W) (hI : Img W F b0 n0 d0 b1 m1 d1 b2 m2 d2 x) => span_yes q W (hg.kept k) (ops_of hO k) hI hp.ck hp.q1 hp.q2 hp.ft hp.lc
  rw [← hQ] at hWP hnp hSP
  rw [hnl] at hWP hSP
  have HWP := hid hWP
  have HSP := hid hSP
  have hnl2 := hnl
  rw [hnl] at hnp
  clear h hS hg hO HM0 K0 hx hr hPn hL he hp hWP hSP hQ c8 hnl hcC
  go_enter Tryz.func4, Tryz.ntmps4
  go_upto_region 2 with (first
    | (go_at_call 7; refine (HC.out _ HK0.out).mono ?_; rintro e w1 ⟨e0, u0, d0', e1, u1, d1', e2, u2, d2', lo, T, rfl, hlo, hI, k1⟩; have hm0 := hI.ps.len.symm.trans hlen; subst hm0; have HI : Hid (ImP w1 lo T w1.heap.size e0 u0 d0' e1 u1 d1' e2 u2 d2' x) := hI; have K1 := hid (HK0.out.trans k1 (fun _ h => h.elim)); have KB1 := hid k1; clear hlo hI k1)
    | (go_at_call 6; refine (HWP.out _ _ _ _ _ _ _ _ _ _ K1.out HI.out.img (fun k hk => hk.2)).mono ?_; rintro e w2 ⟨gl, m, s, d, v, rfl, hmH, hmT, hPl, hv1, hv2, hNm, hgl, k2⟩; have HPL := hid hPl; have HV1 := hid hv1; have HV2 := hid hv2; have HNM := hid hNm; have K2 := hid (K1.out.trans k2 (fun _ h => h.elim)); have KB2 := hid (KB1.out.trans k2 (fun _ h => h.elim)); clear hmH hmT hPl hv1 hv2 hNm hgl k2 HI))
  clear m0 m1 m2
  obtain ⟨m0, m1, m2, _⟩ := HM.out w2 KB2.out
  go_upto_region 3 with (first
    | (go_at_call 7; refine (HC.out _ K2.out).mono ?_; rintro e w3 ⟨f0, y0, g0', f1, y1, g1', f2, y2, g2', lo2, T2, rfl, hlo, hI, k3⟩; have hm0 := hI.ps.len.symm.trans hlen; subst hm0; have HI : Hid (ImP w3 lo2 T2 w3.heap.size f0 y0 g0' f1 y1 g1' f2 y2 g2' x) := hI; have K3 := hid (K2.out.trans k3 (fun _ h => h.elim)); have KB3 := hid (KB2.out.trans k3 (fun _ h => h.elim)); have KC3 := hid k3; clear hlo hI k3)
    | (go_at_call 11; obtain ⟨m', hm1, hm2, hmH, hmT, cSp⟩ := HSP.out _ _ _ _ _ _ _ _ _ _ K3.out HI.out.img; obtain ⟨N, hN⟩ : ∃ N, N = 2 * m' := ⟨_, rfl⟩; (go_loud (rw [← hN] at cSp)); (go_loud (refine cSp.mono ?_)); (go_loud (clear cSp)); rintro e w4 ⟨rfl, k4⟩; (go_loud (have HMH := hid hmH)); (go_loud (have HMT := hid hmT)); (go_loud (have HN := hid hN)); (go_loud (have HM1 := hid hm1)); (go_loud (have hN1 : N ≤ 2097152 := by omega)); (go_loud (have K4 := hid (K3.out.trans k4 (fun _ h => h.elim)))); (go_loud (have KB4 := hid (KB3.out.trans k4 (fun _ h => h.elim)))); (go_loud (have KC4 := hid (KC3.out.trans k4 (fun _ h => h.elim)))); (go_loud (clear hmH hmT k4 HI hN hm1 hm2))))
  clear m0 m1 m2
  by_cases g : 20000 < (N : Int)
  · have g2 : decide (20000 < (N : Int)) = true := by simpa using g
    go_wp2_with (go_at_call 5; refine (known_yes _ (HG.out.1.kept K4.out) (ops_of HG.out.2 K4.out)).mono ?_; rintro e w5 ⟨rfl, k5⟩; have K5 : Hid (Kept No w w5) := K4.out.trans k5 (fun _ h => h.elim); clear k5)
    go_ret
    exact ⟨rfl, K5.out⟩
  have g2 : decide (20000 < (N : Int)) = false := by simpa using g
  have hN : N ≤ 20000 := by omega
  have hN2 : (N : Int) ≤ 20000 := by omega
  obtain ⟨m0, m1, m2, _⟩ := HM.out w4 KB4.out
  have cS := lservers_any (Hn w) _ _ _ (.slice a1 n1 c1) (.slice a2 n2 c2) x.parts w4 (HPS.out w4 K4.out) hn32
  go_upto_region 6 with (first
    | (go_at_call 9; refine cS.mono ?_; clear cS; rintro e w5 ⟨vs, rfl, hown, k5⟩; have hlt := hown.lt; obtain ⟨sa, sc, rfl, hsv⟩ := own_sv hown HSL.out HOK.out; have K5 := hid (K4.out.trans k5 (fun _ h => h.elim)); have KB5 := hid (KB4.out.trans k5 (fun _ h => h.elim)); have KC5 := hid (KC4.out.trans k5 (fun _ h => h.elim)); have cR := runs_law N w5 (HG.out.1.kept K5.out) HPM.out.ck HSL.out hsv (fun g hg => (hlt g hg).2) hN; clear hown k5 hlt hsv)
    | (go_at_call 8; refine cR.mono ?_; clear cR; rintro e w6 ⟨ta, tn, tc, rfl, k6, hTn⟩; have HTN := hid hTn; have K6 := hid (K5.out.trans k6 (fun _ h => h.elim)); have KC6 := hid (KC5.out.trans k6 (fun _ h => h.elim)); obtain ⟨z0, _, _, _⟩ := HM.out w6 (KB5.out.trans k6 (fun _ h => h.elim)); clear k6 hTn))
  clear m0 m1 m2
  have c8 := HC8.out w6 K6.out
  go_upto_region 7 with fail
  clear z0 c8
  have HRN : Hid (∀ W, Kept No w6 W → Calls Tryz.prog 10 #[.slice b2 n2' k2, .int .i64 (q : Int), .slice ta tn tc, .slice none 0 0, .slice (some ⟨gl, 0, none⟩) n2' n2'] W fun e w' => e = .returned (.bool true) ∧ Kept No W w') := fun W kW => by
    have kk := K6.out.trans kW (fun _ h => h.elim)
    refine run_safe (Rule.occ (sys (svs x.parts))) q N v W (HL.out W kk) (HTN.out.kept kW (fun _ _ h => h)) (Rule.runsOf_tile _ 0 N) (ls_none W (fun _ => True)) ?_ (Nat.le_refl _) (by omega) (by omega) hN HPL.out HV1.out HV2.out
    have k24 : Kept No w2 W := KC6.out.trans kW (fun _ h => h.elim)
    exact fun i hi => k24.cell (HNM.out.2 i hi) (fun h => h)
  go_upto_region 9 with (first
    | (go_at_call 5; refine (known_yes _ (HG.out.1.kept K6.out) (ops_of HG.out.2 K6.out)).mono ?_; rintro e w7 ⟨rfl, k7⟩; have K7 := hid k7; clear k7)
    | (go_at_call 10; refine (HRN.out _ K7.out).mono ?_; rintro e w8 ⟨rfl, k8⟩; have K68 := hid (K7.out.trans k8 (fun _ h => h.elim)); have K8 := hid (K6.out.trans K68.out (fun _ h => h.elim)); have KC8 := hid (KC6.out.trans K68.out (fun _ h => h.elim)); clear k8))
  clear HRN
  by_cases h3 : z < 0
  · have g3 : decide (z < 0) = true := by simpa using h3
    go_wp2
    go_ret
    exact ⟨rfl, K8.out⟩
  obtain ⟨W, rfl⟩ := Int.eq_ofNat_of_zero_le (show 0 ≤ z by omega)
  have g3 : decide ((W : Int) < 0) = false := by simp only [decide_eq_false_iff_not]; omega
  by_cases h4 : n2' ≤ W
  · have g4 : decide ((n2' : Int) ≤ (W : Int)) = true := by simp only [decide_eq_true_eq]; omega
    go_wp2
    go_ret
    exact ⟨rfl, K8.out⟩
  have g4 : decide ((n2' : Int) ≤ (W : Int)) = false := by simp only [decide_eq_false_iff_not]; omega
  have g5 : W < n2' := by omega
  have g5i : (W : Int) < (n2' : Int) := by omega
  have l0 : w8.cell? ⟨gl, W, none⟩ = some (.int .i64 (v W)) := KC8.out.cell (HNM.out.2 W g5) (fun h => h)
  by_cases h6 : v W = -1
  · have g6 : (v W == -1) = true := by simpa using h6
    go_wp2
    go_ret
    exact ⟨rfl, K8.out⟩
  have g6 : (v W == -1) = false := by simpa using h6
  go_upto_region 11 with fail
  obtain ⟨bd1, bd2, bd3, bd4⟩ := tight_bd HPL.out HV1.out HV2.out g5 h6
  obtain ⟨pb2, po2, rfl, _, _, _, _, l2, _, l4, _⟩ := jproc (HL.out w8 K8.out) g5
  obtain ⟨y, hy⟩ : ∃ y, y = ((x.parts.getD Q dPn).procs.getD W dPrc).ca := ⟨_, rfl⟩
  obtain ⟨z, hz⟩ : ∃ z, z = ((x.parts.getD Q dPn).procs.getD W dPrc).pe := ⟨_, rfl⟩
  obtain ⟨u, hu⟩ : ∃ u, u = v W := ⟨_, rfl⟩
  have HU := hid hu
  have HNE : Hid (v W ≠ -1) := h6
  rw [← hy] at l4 bd1
  rw [← hz] at l2 bd2
  rw [← hu] at l0 bd1 bd2 bd3 bd4 g6
  clear hy hz hu h6
  have r1 : decide (u < y) = false := by simp only [decide_eq_false_iff_not]; omega
  have r2 : decide (z < u) = false := by simp only [decide_eq_false_iff_not]; omega
  go_quiet (fail)
  go_upto_region 13 with fail
  have K9 := hid (K8.out.drewN nq)
  have KC9 := hid (KC8.out.drewN nq)
  have KD9 := hid (K68.out.drewN nq)
  clear K8 KC8 K68 l0 l2 l4 g6 r1 r2
  obtain ⟨w9, hw9⟩ : ∃ w9, w9 = w8.drewN nq := ⟨_, rfl⟩
  rw [← hw9] at K9 KC9 KD9 ⊢
  clear hw9
  have hr9 : RdN w9 gl n2' v := fun i hi => KC9.out.cell (HNM.out.2 i hi) (fun h => h)
  have hn7 : n2' ≤ 70000 := by omega
  go_upto_region 14 with (at_builtin; refine copyNm rfl _ _ rfl w9.heap.size rfl (madeK w9 _ _) (by simp) gl n2' n2' rfl v (hr9.kept ((Kept.refl No w9).alloc _)) hn7 ?_; intro g9 cap v1 HN1 KN1)
  have la : v1.cell? ⟨g9, W, none⟩ = some (.int .i64 u) := by rw [HU.out]; exact HN1.out.1.2 W g5
  have fz : v1.frozen? ⟨g9, W, none⟩ = false := HN1.out.1.fz W
  obtain ⟨u2, hu2⟩ : ∃ u2, u2 = u - 1 := ⟨_, rfl⟩
  have hw2 : wrap64 (u - 1) = u2 := by unfold wrap64; omega
  have HU2 : Hid (u2 = v W - 1) := by show u2 = v W - 1; rw [hu2, HU.out]
  have HU3 := hid hu2
  clear hu2
  go_upto_region 15 with fail
  rw [← HU3.out]
  have hst : Nm (v1.setCell ⟨g9, W, none⟩ (.int .i64 u2)) g9 n2' (fun a => if a = W then v W - 1 else v a) := by
    have := HN1.out.1.put W u2
    rw [HU2.out] at this ⊢
    exact this
  have KE : Hid (Kept No w6 (v1.setCell ⟨g9, W, none⟩ (.int .i64 u2))) := by
    have h1 := KD9.out.trans (((Kept.refl No w9).alloc (.cells #[] 3)).trans KN1.out (fun k e => .inr (by subst e; exact Nat.le_refl _))) (fun _ h => h.elim)
    have := HN1.out.2.1
    have := KD9.out.size
    exact h1.setCell (p := ⟨g9, W, none⟩) (.inr (by show w6.heap.size ≤ g9; omega)) _
  have HCP := hid (show n2' ≤ cap ∧ cap ≤ 9223372036854775807 from HN1.out.2.2)
  clear HN1 KN1 la fz hw2
  obtain ⟨w10, hw10⟩ : ∃ w10, w10 = v1.setCell ⟨g9, W, none⟩ (.int .i64 u2) := ⟨_, rfl⟩
  rw [← hw10] at hst KE ⊢
  have cT := run_tight (Rule.occ (sys (svs x.parts))) q W v w10 (HL.out w10 (K6.out.trans KE.out (fun _ h => h.elim))) (by have := HTN.out.kept KE.out (fun _ _ h => h); rw [HN.out] at this; exact this) (Rule.runsOf_tile _ 0 (2 * m')) HCP.out.1 HCP.out.2 (by omega) (by have := HN.out; omega) HPL.out HV1.out HV2.out HM1.out (occ_again (by rw [HSL.out, ← hlen]; exact chk_tim HPM.out.ck) q HMH.out HM1.out) HMT.out g5 HNE.out hst.2
  clear hst hw10
  go_wp2_with (go_at_call 10; refine cT.mono ?_; clear cT; rintro e w11 ⟨rfl, k11⟩; have K11 := hid ((K6.out.trans KE.out (fun _ h => h.elim)).trans k11 (fun _ h => h.elim)); clear k11)
  go_ret
  exact ⟨rfl, K11.out⟩
end Go.Proofs.YtnmhcnppdhdhfaaGreatDoor

namespace Go.Proofs.YtnmhcnppdhdhfaaGreatDoor
open Go.RowKit Plain Rp
set_option linter.unusedVariables false
set_option maxRecDepth 100000

theorem tight_law {a0 a1 a2 : Option Addr} {n0 c0 n1 c1 n2 c2 : Nat} {x : Im} (w : World) (hg : Gl w) (hO : Lg.Ops w) (h : Img w (Hn w) a0 n0 c0 a1 n1 c1 a2 n2 c2 x) (hS : szIm x) (p z : Int) :
    Calls Tryz.prog 4 #[.agg #[.slice a0 n0 c0, .slice a1 n1 c1, .slice a2 n2 c2], .int .i64 p, .int .i64 z] w fun e w' => e = .returned (.bool true) ∧ Kept No w w' := by
  by_cases he : woE x p = 0
  · obtain ⟨q, rfl, hp⟩ := pim_of h.ps.len he
    exact tight_in w hg hO h hS q z hp
  · exact tight_err w hg hO h hS p z he
end Go.Proofs.YtnmhcnppdhdhfaaGreatDoor
