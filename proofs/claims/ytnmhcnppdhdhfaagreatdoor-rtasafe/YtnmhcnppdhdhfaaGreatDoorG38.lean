/-
  One text: RMul, RMuy.
-/
import Derived.Test.YtnmhcnppdhdhfaaGreatDoorG21
import Derived.Test.YtnmhcnppdhdhfaaGreatDoorG26
import Derived.Test.YtnmhcnppdhdhfaaGreatDoorG37
namespace Go.Proofs.YtnmhcnppdhdhfaaGreatDoor
open Go.RowKit Plain
set_option linter.unusedVariables false
set_option linter.unusedSimpArgs false
set_option maxRecDepth 100000

/-- an image in its box -/
theorem imb (w : World) (v0 v1 v2 : Value) : Kept No w (w.alloc (.cells #[v0, v1, v2] 26)) ∧ ∀ W, Kept No (w.alloc (.cells #[v0, v1, v2] 26)) W → W.cell? ⟨w.heap.size, 0, none⟩ = some v0 ∧ W.cell? ⟨w.heap.size, 1, none⟩ = some v1 ∧ W.cell? ⟨w.heap.size, 2, none⟩ = some v2 ∧ Kept No w W := by
  have K0 : Kept No w (w.alloc (.cells #[v0, v1, v2] 26)) := (Kept.refl No w).alloc _
  exact ⟨K0, fun W k => ⟨k.cell (by simp) (fun h => h), k.cell (by simp) (fun h => h), k.cell (by simp) (fun h => h), K0.trans k (fun _ h => h.elim)⟩⟩

set_option maxHeartbeats 8000000 in
theorem mul_refused {F : Nat → Prop} {a0 : Option Addr} {n0 c0 : Nat} {a1 : Option Addr} {n1 c1 : Nat} {a2 : Option Addr} {n2 c2 : Nat} {x : Im} (p : Int) (w : World) (hg : Gl w) (h : Img w F a0 n0 c0 a1 n1 c1 a2 n2 c2 x) (hz : fe (chkF x) ≠ 0) :
    Calls Tryz.prog 15 #[.agg #[.slice a0 n0 c0, .slice a1 n1 c1, .slice a2 n2 c2], .int .i64 p] w fun e w' => e = .returned (.tuple #[.int .i64 0, .int .i64 (fe (chkF x))]) ∧ Kept No w w' := by
  obtain ⟨K0, HM0⟩ := imb w (.slice a0 n0 c0) (.slice a1 n1 c1) (.slice a2 n2 c2)
  have cK := check_any _ (hg.kept K0) (h.kept K0 (fun _ _ h => h))
  obtain ⟨m0, m1, m2, _⟩ := HM0 _ (Kept.refl _ _)
  have HM : Hid (∀ W, Kept No (w.alloc (.cells #[.slice a0 n0 c0, .slice a1 n1 c1, .slice a2 n2 c2] 26)) W → W.cell? ⟨w.heap.size, 0, none⟩ = some (.slice a0 n0 c0) ∧ W.cell? ⟨w.heap.size, 1, none⟩ = some (.slice a1 n1 c1) ∧ W.cell? ⟨w.heap.size, 2, none⟩ = some (.slice a2 n2 c2) ∧ Kept No w W) := HM0
  clear HM0 K0 h hg
  generalize fe (chkF x) = z at *
  generalize fn (chkF x) = z2 at *
  go_enter Tryz.func15, Tryz.ntmps15
  go_wp2_with (go_at_call 25; refine cK.mono ?_; rintro e w1 ⟨rfl, k1⟩; obtain ⟨q0, q1, q2, K⟩ := HM.out _ k1; clear k1)
  go_ret2
  exact ⟨rfl, K⟩

set_option maxHeartbeats 8000000 in
theorem mul_out {F : Nat → Prop} {a0 : Option Addr} {n0 c0 : Nat} {a1 : Option Addr} {n1 c1 : Nat} {a2 : Option Addr} {n2 c2 : Nat} {x : Im} (p : Int) (w : World) (hg : Gl w) (h : Img w F a0 n0 c0 a1 n1 c1 a2 n2 c2 x) (hz : fe (chkF x) = 0) (hp : p < 1 ∨ (n0 : Int) < p) :
    Calls Tryz.prog 15 #[.agg #[.slice a0 n0 c0, .slice a1 n1 c1, .slice a2 n2 c2], .int .i64 p] w fun e w' => e = .returned (.tuple #[.int .i64 0, .int .i64 220]) ∧ Kept No w w' := by
  obtain ⟨K0, HM0⟩ := imb w (.slice a0 n0 c0) (.slice a1 n1 c1) (.slice a2 n2 c2)
  have cK := check_any _ (hg.kept K0) (h.kept K0 (fun _ _ h => h))
  obtain ⟨m0, m1, m2, _⟩ := HM0 _ (Kept.refl _ _)
  have HM : Hid (∀ W, Kept No (w.alloc (.cells #[.slice a0 n0 c0, .slice a1 n1 c1, .slice a2 n2 c2] 26)) W → W.cell? ⟨w.heap.size, 0, none⟩ = some (.slice a0 n0 c0) ∧ W.cell? ⟨w.heap.size, 1, none⟩ = some (.slice a1 n1 c1) ∧ W.cell? ⟨w.heap.size, 2, none⟩ = some (.slice a2 n2 c2) ∧ Kept No w W) := HM0
  rw [hz] at cK
  clear HM0 K0 h hg hz
  generalize fn (chkF x) = z2 at *
  by_cases h1 : p < 1
  · clear hp
    go_enter Tryz.func15, Tryz.ntmps15
    go_wp2_with (go_at_call 25; refine cK.mono ?_; rintro e w1 ⟨rfl, k1⟩; obtain ⟨q0, q1, q2, K⟩ := HM.out _ k1; clear k1)
    go_ret2
    exact ⟨rfl, K⟩
  · have h2 : (n0 : Int) < p := by omega
    clear hp
    go_enter Tryz.func15, Tryz.ntmps15
    go_wp2_with (go_at_call 25; refine cK.mono ?_; rintro e w1 ⟨rfl, k1⟩; obtain ⟨q0, q1, q2, K⟩ := HM.out _ k1; clear k1)
    go_ret2
    exact ⟨rfl, K⟩

theorem er_notB {o : Oper} {a : Act} {w : World} (x : Operand) (ho : o.op = .unOp .not 4 x) (v : Bool) (hx : a.eval x = .bool v) : (execOp a.eval o).run Tryz.prog w = .ok (.value (.bool (!v))) w := by
  simp only [execOp, ho, hx]; simp [go_sem]
theorem er_c_rfits {o : Oper} {a : Act} {w : World} (x0 : Operand) (ts : Array TypeId) (ho : o.op = .call { callee := .value (.func 26), args := #[x0], argTypes := ts }) (v0 : Value) (h0 : a.eval x0 = v0) : (execOp a.eval o).run Tryz.prog w = .ok (.enter 26 #[v0]) w := by
  subst h0
  simp [execOp, ho, go_sem, Act.eval]

set_option maxHeartbeats 8000000 in
theorem mul_unfit {F : Nat → Prop} {a0 : Option Addr} {n0 c0 : Nat} {a1 : Option Addr} {n1 c1 : Nat} {a2 : Option Addr} {n2 c2 : Nat} {x : Im} (p : Nat) (w : World) (hg : Gl w) (hO : Lg.Ops w) (h : Img w F a0 n0 c0 a1 n1 c1 a2 n2 c2 x) (hz : fe (chkF x) = 0) (hp1 : 1 ≤ p) (hp2 : p ≤ n0) (hf : rfitB (x.parts.getD (p - 1) dPn) = false) :
    Calls Tryz.prog 15 #[.agg #[.slice a0 n0 c0, .slice a1 n1 c1, .slice a2 n2 c2], .int .i64 (p : Int)] w fun e w' => e = .returned (.tuple #[.int .i64 0, .int .i64 250]) ∧ Kept No w w' := by
  obtain ⟨K0, HM0⟩ := imb w (.slice a0 n0 c0) (.slice a1 n1 c1) (.slice a2 n2 c2)
  have cK := check_any _ (hg.kept K0) (h.kept K0 (fun _ _ h => h))
  obtain ⟨m0, m1, m2, _⟩ := HM0 _ (Kept.refl _ _)
  have HM : Hid (∀ W, Kept No (w.alloc (.cells #[.slice a0 n0 c0, .slice a1 n1 c1, .slice a2 n2 c2] 26)) W → W.cell? ⟨w.heap.size, 0, none⟩ = some (.slice a0 n0 c0) ∧ W.cell? ⟨w.heap.size, 1, none⟩ = some (.slice a1 n1 c1) ∧ W.cell? ⟨w.heap.size, 2, none⟩ = some (.slice a2 n2 c2) ∧ Kept No w W) := HM0
  rw [hz] at cK
  have hmax := h.ps.max
  have hcap := h.ps.cap
  have hlen := h.ps.len
  have hx : x.parts[p - 1]? = some (x.parts.getD (p - 1) dPn) := by rw [List.getD, List.getElem?_eq_getElem (by omega)]; rfl
  obtain ⟨b, o, cs, rfl, hb, hl, hr, hE⟩ := h.ps.at' _ _ hx
  generalize x.parts.getD (p - 1) dPn = y at *
  have h1 : ∀ v ∈ cs, v.oneCell' = true := by
    obtain ⟨a0, n0, c0, a1, n1, c1, a2, n2, c2, a3, n3, c3, a4, n4, c4, a5, n5, c5, e, _⟩ := hE.sl
    rw [e]
    simp [Value.oneCell']
  have HX : Hid (w.rangeAt b (o + (p - 1) * 21) cs ∧ cs.length = 21 ∧ (∀ v ∈ cs, v.oneCell' = true) ∧ elPn w F cs y ∧ Lg.Ops w) := ⟨hr, hl, h1, hE, hO⟩
  clear HM0 K0 h hg hz hO hr hl h1 hE hx hlen
  generalize fn (chkF x) = z2 at *
  have g1 : ¬ (p : Int) < 1 := by omega
  have g2 : ¬ (n0 : Int) < (p : Int) := by omega
  have hsub : wrap64 ((p : Int) - 1) = ((p - 1 : Nat) : Int) := by rw [← w64i, IntWalk.i64_in _ ⟨by omega, by omega⟩]; omega
  go_enter Tryz.func15, Tryz.ntmps15
  go_upto_region 6 with (go_at_call 25; refine cK.mono ?_; rintro e w1 ⟨rfl, k1⟩; obtain ⟨q0, q1, q2, K⟩ := HM.out _ k1; clear k1)
  obtain ⟨hr, hl, h1, hE, hO⟩ := HX.out
  obtain ⟨w2, hst, hrg, hk2⟩ := box_PnE w1 cs hl h1
  have HLD := run_loadAt_mid w1 b (o + (p - 1) * 21) _ cs _ (rangeAt_kept hr K (fun h => h)) Tryz.underlying48 rfl (by rw [hl]; exact sizeEPn)
  have HRD := run_loadAt_mid w2 w1.heap.size 0 _ cs _ hrg Tryz.underlying48 rfl (by rw [hl]; exact sizeEPn)
  have kw2 := K.trans hk2 (fun _ h => h.elim)
  have cf := rfits_any F cs y w2 (elPn_kept kw2 (fun _ _ h => h) _ _ hE) (ops_kept hO kw2 (fun h => h))
  rw [hf] at cf
  refine wp_region_lit ?_
  refine l_take 33 rfl rfl (er_fIm0 _ rfl w.heap.size 0 rfl) ?_
  simp only [Act.put, List.setIfInBounds_toArray, List.set_cons_zero, List.set_cons_succ]
  refine l_take 34 rfl rfl (er_ldPs _ rfl w.heap.size 0 _ rfl q0) ?_
  simp only [Act.put, List.setIfInBounds_toArray, List.set_cons_zero, List.set_cons_succ]
  refine l_take 35 rfl rfl (er_mv _ rfl (.int .i64 (p : Int)) rfl) ?_
  simp only [Act.put, List.setIfInBounds_toArray, List.set_cons_zero, List.set_cons_succ]
  refine l_take 36 rfl rfl (er_sub _ _ rfl p 1 ((p - 1 : Nat) : Int) rfl rfl hsub) ?_
  simp only [Act.put, List.setIfInBounds_toArray, List.set_cons_zero, List.set_cons_succ]
  refine l_take 37 rfl rfl (er_idxPn _ _ rfl b o n0 c0 (p - 1) (by omega) (by omega) rfl rfl) ?_
  simp only [Act.put, List.setIfInBounds_toArray, List.set_cons_zero, List.set_cons_succ]
  refine l_take 38 rfl rfl (er_ld _ _ rfl _ _ rfl HLD) ?_
  simp only [Act.put, List.setIfInBounds_toArray, List.set_cons_zero, List.set_cons_succ]
  refine l_make 8 rfl rfl (er_alPn rfl) ?_
  simp only [Act.put, List.setIfInBounds_toArray, List.set_cons_zero, List.set_cons_succ]
  refine l_turn rfl rfl (er_st _ _ _ rfl _ _ rfl rfl hst) ?_
  go_upto_region 7 with fail
  refine wp_region_lit ?_
  refine l_take 39 rfl rfl (er_ld _ _ rfl _ _ rfl HRD) ?_
  simp only [Act.put, List.setIfInBounds_toArray, List.set_cons_zero, List.set_cons_succ]
  refine l_call 40 (f := 26) (args := #[.agg cs.toArray]) rfl rfl (er_c_rfits (.tmp 39) _ rfl _ rfl) cf ?_
  rintro e w3 ⟨rfl, hk3⟩
  refine ⟨_, rfl, ?_⟩
  simp only [Act.put, List.setIfInBounds_toArray, List.set_cons_zero, List.set_cons_succ]
  have HK : Hid (Kept No w w3) := kw2.trans hk3 (fun _ h => h.elim)
  refine l_take 41 rfl rfl (er_notB _ rfl false rfl) ?_
  simp only [Act.put, List.setIfInBounds_toArray, List.set_cons_zero, List.set_cons_succ]
  clear hst hrg hk2 HLD HRD kw2 cf hk3 hr hl h1 hE hO K q0 q1 q2
  go_wp2
  go_ret2
  exact ⟨rfl, HK.out⟩
end Go.Proofs.YtnmhcnppdhdhfaaGreatDoor

namespace Go.Proofs.YtnmhcnppdhdhfaaGreatDoor
open Go.RowKit Plain
set_option linter.unusedVariables false
set_option linter.unusedSimpArgs false
set_option maxRecDepth 100000

def zR (H : Nat) (ps : List Prc) (i : Nat) : Int := if i = 0 then (H : Int) else (ps.getD (i - 1) dPrc).pe
def psR (H : Nat) (ps : List Prc) (k : Nat) : List Int := (List.range k).map (zR H ps)
theorem psR_len (H : Nat) (ps : List Prc) (k : Nat) : (psR H ps k).length = k := by simp [psR]
theorem psR_succ (H : Nat) (ps : List Prc) (k : Nat) : (psR H ps (k + 2)).map iv = (psR H ps (k + 1)).map iv ++ [.int .i64 (ps.getD k dPrc).pe] := by
  rw [psR, List.range_succ, List.map_append, List.map_append]
  rfl
theorem psR_get (H : Nat) (ps : List Prc) (k i : Nat) (h : i < k) : ((psR H ps k).map iv)[i]? = some (.int .i64 (zR H ps i)) := by simp [psR, h, iv]
theorem rowR_of (w : World) (B : Nat) (t : TypeId) (v : Value) (H : Nat) (ps : List Prc) (n : Nat) (h : w.ownsRow B t 1 v n ((psR H ps n).map iv)) (hok : ∀ i, i < n → I64 (zR H ps i)) : ∃ a c, v = .slice a n c ∧ Row w a n (zR H ps) := by
  rcases owns_cells h with ⟨rfl, h0⟩ | ⟨g, cap, rfl, hb, hg, hn, hm, hc, hf⟩
  · exact ⟨none, 0, by rw [h0], fun i hi => by omega⟩
  · exact ⟨_, cap, rfl, fun i hi => ⟨g, 0, rfl, by rw [Nat.zero_add]; exact hc i _ (psR_get H ps n i hi), hok i hi⟩⟩
def mulV (H : Nat) (ps : List Prc) : Value := if lcmB (zR H ps) (ps.length + 1) 1048576 then .tuple #[.int .i64 (lcmV (zR H ps) (ps.length + 1) 1048576), .int .i64 0] else .tuple #[.int .i64 0, .int .i64 102]
theorem er_c_hyper {o : Oper} {a : Act} {w : World} (x0 : Operand) (ts : Array TypeId) (ho : o.op = .call { callee := .value (.func 17), args := #[x0], argTypes := ts }) (v0 : Value) (h0 : a.eval x0 = v0) : (execOp a.eval o).run Tryz.prog w = .ok (.enter 17 #[v0]) w := by
  subst h0
  simp [execOp, ho, go_sem, Act.eval]

set_option maxHeartbeats 8000000 in
theorem mul_yes {F : Nat → Prop} {a0 : Option Addr} {n0 c0 : Nat} {a1 : Option Addr} {n1 c1 : Nat} {a2 : Option Addr} {n2 c2 : Nat} {x : Im} (p : Nat) (w : World) (hg : Gl w) (hO : Lg.Ops w) (h : Img w F a0 n0 c0 a1 n1 c1 a2 n2 c2 x) (hz : fe (chkF x) = 0) (hp1 : 1 ≤ p) (hp2 : p ≤ n0) (hf : rfitB (x.parts.getD (p - 1) dPn) = true) (ht : timF (svs x.parts) n0 = none) (hn64 : (x.parts.getD (p - 1) dPn).procs.length ≤ 70000) :
    Calls Tryz.prog 15 #[.agg #[.slice a0 n0 c0, .slice a1 n1 c1, .slice a2 n2 c2], .int .i64 (p : Int)] w fun e w' => e = .returned (mulV (hyp (svs x.parts)) (x.parts.getD (p - 1) dPn).procs) ∧ Kept No w w' := by
  obtain ⟨K0, HM0⟩ := imb w (.slice a0 n0 c0) (.slice a1 n1 c1) (.slice a2 n2 c2)
  have cK := check_any _ (hg.kept K0) (h.kept K0 (fun _ _ h => h))
  obtain ⟨m0, m1, m2, _⟩ := HM0 _ (Kept.refl _ _)
  have HM : Hid (∀ W, Kept No (w.alloc (.cells #[.slice a0 n0 c0, .slice a1 n1 c1, .slice a2 n2 c2] 26)) W → W.cell? ⟨w.heap.size, 0, none⟩ = some (.slice a0 n0 c0) ∧ W.cell? ⟨w.heap.size, 1, none⟩ = some (.slice a1 n1 c1) ∧ W.cell? ⟨w.heap.size, 2, none⟩ = some (.slice a2 n2 c2) ∧ Kept No w W) := HM0
  rw [hz] at cK
  have hmax := h.ps.max
  have hcap := h.ps.cap
  have hlen := h.ps.len
  have hx : x.parts[p - 1]? = some (x.parts.getD (p - 1) dPn) := by rw [List.getD, List.getElem?_eq_getElem (by omega)]; rfl
  obtain ⟨b, o, cs, rfl, hb, hl, hr, hE⟩ := h.ps.at' _ _ hx
  generalize x.parts.getD (p - 1) dPn = y at *
  have h1 : ∀ v ∈ cs, v.oneCell' = true := by
    obtain ⟨a0, n0, c0, a1, n1, c1, a2, n2, c2, a3, n3, c3, a4, n4, c4, a5, n5, c5, e, _⟩ := hE.sl
    rw [e]
    simp [Value.oneCell']
  have hv := vd_of (xs := svs x.parts) (by rw [svs_len, hlen]; exact ht)
  have HPS : Hid (Ls 21 elPn w F (some ⟨b, o, none⟩) n0 c0 x.parts ∧ timF (svs x.parts) (svs x.parts).length = none ∧ (svs x.parts).length = n0 ∧ Gl w ∧ hyp (svs x.parts) ≤ 1048576) := ⟨h.ps, by rw [svs_len, hlen]; exact ht, by rw [svs_len, hlen], hg, hv.hyp2⟩
  have hn32 : n0 ≤ 70000 := by have := hv.num; rw [svs_len, hlen] at this; omega
  have HX : Hid (w.rangeAt b (o + (p - 1) * 21) cs ∧ cs.length = 21 ∧ (∀ v ∈ cs, v.oneCell' = true) ∧ elPn w F cs y ∧ Lg.Ops w) := ⟨hr, hl, h1, hE, hO⟩
  clear HM0 K0 h hg hz hO hr hl h1 hE hx hlen ht hv
  generalize fn (chkF x) = z2 at *
  have g1 : ¬ (p : Int) < 1 := by omega
  have g2 : ¬ (n0 : Int) < (p : Int) := by omega
  have hsub : wrap64 ((p : Int) - 1) = ((p - 1 : Nat) : Int) := by rw [← w64i, IntWalk.i64_in _ ⟨by omega, by omega⟩]; omega
  go_enter Tryz.func15, Tryz.ntmps15
  go_upto_region 6 with (go_at_call 25; refine cK.mono ?_; rintro e w1 ⟨rfl, k1⟩; obtain ⟨q0, q1, q2, K⟩ := HM.out _ k1; have HK1 : Hid (Kept No (w.alloc (.cells #[.slice (some ⟨b, o, none⟩) n0 c0, .slice a1 n1 c1, .slice a2 n2 c2] 26)) w1) := k1; clear k1)
  obtain ⟨hr, hl, h1, hE, hO⟩ := HX.out
  obtain ⟨w2, hst, hrg, hk2⟩ := box_PnE w1 cs hl h1
  have HLD := run_loadAt_mid w1 b (o + (p - 1) * 21) _ cs _ (rangeAt_kept hr K (fun h => h)) Tryz.underlying48 rfl (by rw [hl]; exact sizeEPn)
  have HRD := run_loadAt_mid w2 w1.heap.size 0 _ cs _ hrg Tryz.underlying48 rfl (by rw [hl]; exact sizeEPn)
  have kw2 := K.trans hk2 (fun _ h => h.elim)
  have cf := rfits_any F cs y w2 (elPn_kept kw2 (fun _ _ h => h) _ _ hE) (ops_kept hO kw2 (fun h => h))
  rw [hf] at cf
  refine wp_region_lit ?_
  refine l_take 33 rfl rfl (er_fIm0 _ rfl w.heap.size 0 rfl) ?_
  simp only [Act.put, List.setIfInBounds_toArray, List.set_cons_zero, List.set_cons_succ]
  refine l_take 34 rfl rfl (er_ldPs _ rfl w.heap.size 0 _ rfl q0) ?_
  simp only [Act.put, List.setIfInBounds_toArray, List.set_cons_zero, List.set_cons_succ]
  refine l_take 35 rfl rfl (er_mv _ rfl (.int .i64 (p : Int)) rfl) ?_
  simp only [Act.put, List.setIfInBounds_toArray, List.set_cons_zero, List.set_cons_succ]
  refine l_take 36 rfl rfl (er_sub _ _ rfl p 1 ((p - 1 : Nat) : Int) rfl rfl hsub) ?_
  simp only [Act.put, List.setIfInBounds_toArray, List.set_cons_zero, List.set_cons_succ]
  refine l_take 37 rfl rfl (er_idxPn _ _ rfl b o n0 c0 (p - 1) (by omega) (by omega) rfl rfl) ?_
  simp only [Act.put, List.setIfInBounds_toArray, List.set_cons_zero, List.set_cons_succ]
  refine l_take 38 rfl rfl (er_ld _ _ rfl _ _ rfl HLD) ?_
  simp only [Act.put, List.setIfInBounds_toArray, List.set_cons_zero, List.set_cons_succ]
  refine l_make 8 rfl rfl (er_alPn rfl) ?_
  simp only [Act.put, List.setIfInBounds_toArray, List.set_cons_zero, List.set_cons_succ]
  refine l_turn rfl rfl (er_st _ _ _ rfl _ _ rfl rfl hst) ?_
  go_upto_region 7 with fail
  refine wp_region_lit ?_
  refine l_take 39 rfl rfl (er_ld _ _ rfl _ _ rfl HRD) ?_
  simp only [Act.put, List.setIfInBounds_toArray, List.set_cons_zero, List.set_cons_succ]
  refine l_call 40 (f := 26) (args := #[.agg cs.toArray]) rfl rfl (er_c_rfits (.tmp 39) _ rfl _ rfl) cf ?_
  rintro e w3 ⟨rfl, hk3⟩
  refine ⟨_, rfl, ?_⟩
  simp only [Act.put, List.setIfInBounds_toArray, List.set_cons_zero, List.set_cons_succ]
  have HK : Hid (Kept No w w3) := kw2.trans hk3 (fun _ h => h.elim)
  refine l_take 41 rfl rfl (er_notB _ rfl true rfl) ?_
  simp only [Act.put, List.setIfInBounds_toArray, List.set_cons_zero, List.set_cons_succ]
  obtain ⟨a0', n0', c0', a1', n1', c1', b2, m2, k2, a3', n3', c3', a4', n4', c4', a5', n5', c5', he, _, _, hL, _⟩ := hE.sl
  have c8 : w3.cell? ⟨w1.heap.size, 8, none⟩ = some (.slice b2 m2 k2) := hk3.cell (by have := hrg 8 (.slice b2 m2 k2) (by rw [he]; rfl); rw [Nat.zero_add] at this; exact this) (fun h => h)
  obtain ⟨r0, r1, r2, kw3⟩ := HM.out w3 (HK1.out.trans (hk2.trans hk3 (fun _ h => h.elim)) (fun _ h => h.elim))
  have s0 : w3.rangeAt w.heap.size 0 [.slice (some ⟨b, o, none⟩) n0 c0, .slice a1 n1 c1, .slice a2 n2 c2] := fun j v hv => by
    match j, hv with
    | 0, hv => injection hv with hv; subst hv; exact r0
    | 1, hv => injection hv with hv; subst hv; exact r1
    | 2, hv => injection hv with hv; subst hv; exact r2
  have HLI := run_loadAt_mid w3 w.heap.size 0 26 _ _ s0 Tryz.underlying26 rfl sizeIm
  obtain ⟨hps, ht2, hsl, hgl, hy2⟩ := HPS.out
  have hps3 : Ls 21 elPn w3 F (some ⟨b, o, none⟩) n0 c0 x.parts := hps.kept kw3 (fun _ _ h => h) (elPn_kept kw3 (fun _ _ h => h))
  have csv := serversOf_any F (some ⟨b, o, none⟩) n0 c0 (.slice a1 n1 c1) (.slice a2 n2 c2) x.parts w3 hps3 hn32
  have HP : Hid (Ls 6 elPrc w F b2 m2 k2 y.procs) := hL
  have hm2 := hL.len
  clear hst hrg hk2 HLD HRD kw2 cf hk3 hr hl h1 hE hO K q0 q1 q2 r0 r1 r2 s0 he hL
  go_upto_region 9 with fail
  refine wp_region_lit ?_
  refine l_take 43 rfl rfl (er_ld _ _ rfl _ _ rfl HLI) ?_
  simp only [Act.put, List.setIfInBounds_toArray, List.set_cons_zero, List.set_cons_succ]
  refine l_call 44 (f := 27) (args := #[.agg #[.slice (some ⟨b, o, none⟩) n0 c0, .slice a1 n1 c1, .slice a2 n2 c2]]) rfl rfl (er_c_rsrv (.tmp 43) _ rfl _ rfl) csv ?_
  rintro e w4 ⟨v, rfl, hown, hk4⟩
  refine ⟨_, rfl, ?_⟩
  simp only [Act.put, List.setIfInBounds_toArray, List.set_cons_zero, List.set_cons_succ]
  obtain ⟨sa, sc, rfl, hsv⟩ := own_sv hown hsl (fun i hi => svs_ok hps i hi)
  have kw4 := kw3.trans hk4 (fun _ h => h.elim)
  have ch := hyper_any _ sa n0 sc (svs x.parts) w4 (hgl.kept kw4) hsv
  rw [← hsl, (tim_yes ht2).1, (tim_yes ht2).2, hsl] at ch
  refine l_call 45 (f := 17) (args := #[.slice sa n0 sc]) rfl rfl (er_c_hyper (.tmp 44) _ rfl _ rfl) ch ?_
  rintro e w5 ⟨rfl, hk5⟩
  refine ⟨_, rfl, ?_⟩
  simp only [Act.put, List.setIfInBounds_toArray, List.set_cons_zero, List.set_cons_succ]
  have c85 := hk5.cell (hk4.cell c8 (fun h => h)) (fun h => h)
  have HK5 : Hid (Kept No w w5) := kw4.trans hk5 (fun _ h => h.elim)
  have HH : Hid (hyp (svs x.parts) ≤ 1048576) := hy2
  clear hown hk4 hsv ch hk5 kw4 kw3 csv c8 hps3 HLI hps ht2 hsl hgl hy2 HPS HX HM HK1
  generalize hHe : hyp (svs x.parts) = H at *
  have c8a : (w5.alloc (.cells #[.int .i64 (H : Int)] 3)).cell? ⟨w1.heap.size, 8, none⟩ = some (.slice b2 m2 k2) := ((Kept.refl No w5).alloc _).cell c85 (fun h => h)
  have HOW0 : Hid ((w5.alloc (.cells #[.int .i64 (H : Int)] 3)).ownsRow w.heap.size 3 1 (.slice (some ⟨w5.heap.size, 0, none⟩) 1 1) 1 ((psR H y.procs 1).map iv) ∧ Kept No w (w5.alloc (.cells #[.int .i64 (H : Int)] 3))) := by
    refine ⟨⟨rfl, .inr ⟨w5.heap.size, 1, #[.int .i64 (H : Int)], rfl, HK5.out.size, heap_alloc_new _ _, Nat.le_refl _, by unfold maxLen; omega, rfl, rfl⟩⟩, HK5.out.alloc _⟩
  obtain ⟨i0, hi, hz0, hz1, hz2⟩ := info_parts Tryz.infoI
  go_wp2
  clear c8a c85 HK5
  generalize w5.alloc (.cells #[.int .i64 (H : Int)] 3) = w6 at *
  have e3 : decide (n0 < p) = false := by simp; omega
  simp only [e3, Bool.or_false, Bool.not_true]
  go_loopw [11, 53] (fun v x wr => ∃ k : Nat, k ≤ m2 ∧ x = .int .i64 k ∧ Kept No w wr ∧ wr.ownsRow w.heap.size 3 1 v (k + 1) ((psR H y.procs (k + 1)).map iv)) (fun _ x _ => m2 - (intOf x).toNat)
  case atStart => exact ⟨0, by omega, rfl, HOW0.out.2, HOW0.out.1⟩
  case round =>
    obtain ⟨k, hk, rfl, hkr, hown⟩ := hrel
    by_cases hlt : k < m2
    · have hx : y.procs[k]? = some (y.procs.getD k dPrc) := by rw [List.getD, List.getElem?_eq_getElem (by omega)]; rfl
      have hcap2 := HP.out.cap
      have hmax2 := HP.out.max
      obtain ⟨b', o', cs', rfl, hb', hl', hr', he', hok'⟩ := HP.out.at' k _ hx
      have HNX : Hid ((psR H y.procs (k + 2)).map iv = (psR H y.procs (k + 1)).map iv ++ [.int .i64 (y.procs.getD k dPrc).pe]) := psR_succ H y.procs k
      have HL : Hid (((psR H y.procs (k + 1)).map iv).length = k + 1) := by show ((psR H y.procs (k + 1)).map iv).length = k + 1; rw [List.length_map, psR_len]
      generalize (psR H y.procs (k + 1)).map iv = L0 at *
      generalize y.procs.getD k dPrc = z at *
      have h1' : ∀ v ∈ cs', v.oneCell' = true := by
        rw [he']
        simp [Value.oneCell']
      generalize wr = wo at *
      obtain ⟨w7, hst, hrg, hk2⟩ := box_Prc wo cs' hl' h1'
      have HLD : Hid ((Instr.loadAt 54 (.pointer (some ⟨b', o' + k * 6, none⟩))).run Tryz.prog wo = .ok (.agg cs'.toArray) wo) := run_loadAt_mid wo b' (o' + k * 6) _ cs' _ (rangeAt_kept hr' hkr (fun h => h)) Tryz.underlying54 rfl (by rw [hl']; exact sizeEPrc)
      have HST : Hid ((Instr.storeAt 54 (.pointer (some ⟨wo.heap.size, 0, none⟩)) (.agg cs'.toArray)).run Tryz.prog (wo.alloc (.cells #[.int .i64 0, .int .i64 0, .int .i64 0, .int .i64 0, .int .i64 0, .bool false] 54)) = .ok () w7) := hst
      rw [he'] at hrg
      have p2 := hrg 2 _ rfl
      simp only [Nat.zero_add] at p2
      have HW : Hid (Kept No w w7) := hkr.trans hk2 (fun _ h => h.elim)
      have HOW : Hid (w7.ownsRow w.heap.size 3 1 u11 (k + 1) L0) := hk2.owns hown (fun _ _ h => h)
      have hn' : m2 ≤ 9223372036854775807 := by omega
      clear hkr hown hr' hl' h1' hst hrg hk2 hx hb' he' hok'
      generalize Value.agg cs'.toArray = av at *
      go_upto_region 13 with fail
      refine wp_region_lit ?_
      refine l_take 55 rfl rfl (er_idxPrc _ _ rfl b' o' m2 k2 k hlt hn' rfl rfl) ?_
      simp only [Act.put, List.setIfInBounds_toArray, List.set_cons_zero, List.set_cons_succ]
      refine l_take 56 rfl rfl (er_ld _ _ rfl _ _ rfl HLD.out) ?_
      simp only [Act.put, List.setIfInBounds_toArray, List.set_cons_zero, List.set_cons_succ]
      refine l_make 13 rfl rfl (er_alPrc rfl) ?_
      simp only [Act.put, List.setIfInBounds_toArray, List.set_cons_zero, List.set_cons_succ]
      refine l_turn rfl rfl (er_st _ _ _ rfl _ _ rfl rfl HST.out) ?_
      clear HST HLD
      go_wp2_with (at_builtin; refine wpList_append_own_at _ rfl _ _ 27 rfl w.heap.size 3 i0 (.int .i64 0) 1 8 Tryz.underlying27 hi hz0 hz1 hz2 rfl (by decide) _ _ _ rfl (HOW.out.alloc _) ⟨w7.heap.size, 0, none⟩ 1 1 [.int .i64 z.pe] rfl rfl (cell_one_at _ _ _ _ rfl) (one_one _ _) (by unfold maxLen; omega) (by omega) (by have := HW.out.size; simp; omega) ?_; intro v1 w8 own1 grow1 _ at1)
      have HK6 : Hid (Kept No w w8 ∧ w8.ownsRow w.heap.size 3 1 v1 (k + 2) ((psR H y.procs (k + 2)).map iv)) := by
        exact ⟨(HW.out.alloc _).grown grow1 (fun g e => .inr (HOW.out.lt g e).1), by rw [HNX.out]; exact own1⟩
      clear own1 grow1 at1
      go_wp2
      go_roundw
      case rel => exact ⟨k + 1, by omega, by go_num, HK6.out.1, HK6.out.2⟩
      case measure => simp [intOf]; omega
    · have hke : k = m2 := by omega
      subst hke
      have HO : Hid (wr.ownsRow w.heap.size 3 1 u11 (k + 1) ((psR H y.procs (k + 1)).map iv) ∧ Kept No w wr) := ⟨hown, hkr⟩
      obtain ⟨qa, qc, rfl, hrow⟩ := rowR_of wr w.heap.size 3 u11 H y.procs (k + 1) hown (fun i hi => by
        unfold zR
        split
        · have := HH.out; unfold I64; omega
        · have hx : y.procs[i - 1]? = some (y.procs.getD (i - 1) dPrc) := by rw [List.getD, List.getElem?_eq_getElem (by omega)]; rfl
          obtain ⟨_, _, _, _, _, _, _, _, ho⟩ := HP.out.at' (i - 1) _ hx
          exact ho.2.2.1)
      have hc := lcmInt_any qa (k + 1) qc (zR H y.procs) 1048576 wr (by omega) (by unfold I64; omega) hrow
      have HV : Hid (mulV H y.procs = if lcmB (zR H y.procs) (k + 1) 1048576 then .tuple #[.int .i64 (lcmV (zR H y.procs) (k + 1) 1048576), .int .i64 0] else .tuple #[.int .i64 0, .int .i64 102]) := by
        show mulV H y.procs = _
        unfold mulV
        rw [hm2]
      clear hown hkr hrow
      generalize lcmV (zR H y.procs) (k + 1) 1048576 = lv1 at *
      cases hB : lcmB (zR H y.procs) (k + 1) 1048576 with
      | true =>
        rw [hB] at hc
        have HV2 : Hid (mulV H y.procs = .tuple #[.int .i64 lv1, .int .i64 0]) := by show _ = _; rw [HV.out, hB]; rfl
        clear HV
        go_wp2_with (go_at_call 28; refine hc.mono ?_; rintro e w9 ⟨rfl, nn, rfl⟩)
        go_ret2
        subst hHe
        exact ⟨by rw [HV2.out]; rfl, HO.out.2.drewN _⟩
      | false =>
        rw [hB] at hc
        have HV2 : Hid (mulV H y.procs = .tuple #[.int .i64 0, .int .i64 102]) := by show _ = _; rw [HV.out, hB]; rfl
        clear HV
        go_wp2_with (go_at_call 28; refine hc.mono ?_; rintro e w9 ⟨rfl, nn, rfl⟩)
        go_ret2
        subst hHe
        exact ⟨by rw [HV2.out]; rfl, HO.out.2.drewN _⟩
end Go.Proofs.YtnmhcnppdhdhfaaGreatDoor
