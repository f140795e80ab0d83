/-
  port: New.
-/
import Derived.Test.YthebokkogeigoaaPSet
namespace Go.Proofs.Ythebokkogeigoaa
open Go.RowKit
set_option linter.unusedVariables false
set_option maxRecDepth 100000

/-- a port as the image has it -/
structure Pr where
  pt : Int
  kd : Int
  out : Bool
  sz : Int
  dp : Int
  rf : Int
/-- a list of ports that is read -/
structure Pl (w : World) (F : Nat → Prop) (a : Option Addr) (n c : Nat) (ps : Nat → Pr) : Prop where
  cap : n ≤ c
  max : c ≤ 9223372036854775807
  at' : ∀ i, i < n → ∃ b o, a = some ⟨b, o, none⟩ ∧ F b ∧ w.cell? ⟨b, o + i * 6, none⟩ = some (.int .i64 (ps i).pt) ∧ w.cell? ⟨b, o + i * 6 + 1, none⟩ = some (.int .i64 (ps i).kd) ∧ w.cell? ⟨b, o + i * 6 + 2, none⟩ = some (.bool (ps i).out) ∧ w.cell? ⟨b, o + i * 6 + 3, none⟩ = some (.int .i64 (ps i).sz) ∧ w.cell? ⟨b, o + i * 6 + 4, none⟩ = some (.int .i64 (ps i).dp) ∧ w.cell? ⟨b, o + i * 6 + 5, none⟩ = some (.int .i64 (ps i).rf)
theorem Pl.kept {w w' : World} {F G : Nat → Prop} {a : Option Addr} {n c : Nat} {ps : Nat → Pr} (h : Pl w F a n c ps) (k : Kept G w w') (hd : ∀ b, F b → ¬ G b) : Pl w' F a n c ps :=
  ⟨h.cap, h.max, fun i hi => by
    obtain ⟨b, o, e, hb, h0, h1, h2, h3, h4, h5⟩ := h.at' i hi
    exact ⟨b, o, e, hb, k.cell h0 (hd b hb), k.cell h1 (hd b hb), k.cell h2 (hd b hb), k.cell h3 (hd b hb), k.cell h4 (hd b hb), k.cell h5 (hd b hb)⟩⟩
theorem Pl.mono {w : World} {F G : Nat → Prop} {a : Option Addr} {n c : Nat} {ps : Nat → Pr} (h : Pl w F a n c ps) (hF : ∀ b, F b → G b) : Pl w G a n c ps :=
  ⟨h.cap, h.max, fun i hi => by
    obtain ⟨b, o, e, hb, r⟩ := h.at' i hi
    exact ⟨b, o, e, hF b hb, r⟩⟩
/-- an empty port -/
def Pr.en (p : Pr) (g : Nat) : En := { eb := g, pt := p.pt, kd := p.kd, out := p.out, sz := p.sz, dp := p.dp, rf := p.rf, it := .slice none 0 0, ms := [], xs := [], has := false, tk := 0, sv := .slice none 0 0, sx := [], lost := 0 }
theorem Pt.add {w w' : World} {B b mb c c' : Nat} {S : Pd} (h : Pt w B b mb c S) {j : Nat} (hj : j < S.n) (ho : S.own j = false) (p : Pr) (T : Tm w' mb (fun y => if y = (j : Int) + 1 then some w.heap.size else (S.idx y).map (fun i => (S.en i).eb)) c') (K : Kept (fun k => k = mb) (w.alloc (.cells (p.en w.heap.size).cells 90)) w') :
    Pt w' B b mb c' ⟨S.n, upd S.own j true, upd S.en j (p.en w.heap.size)⟩ ∧ Kept (fun k => k = mb) w w' := by
  have Ka : Kept (fun k => k = mb) w w' := ((Kept.refl (fun k => k = mb) w).alloc _).trans K (fun k e => .inl e)
  have hml := h.map.lt
  have hB := h.B_le
  have fresh : ∀ k, Ef (p.en w.heap.size) k → k = w.heap.size := by
    rintro k ((hk | hk) | (⟨v, hv, hk⟩ | hk))
    · exact hk
    · cases hk
    · cases hv
    · cases hk
  have nm : ∀ i, i < S.n → S.own i = true → ∀ k, Ef (S.en i) k → ¬ k = mb := fun i hi hoi k hk e => by
    obtain ⟨_, _, cs, t, h2, _⟩ := (h.ends i hi hoi).ef_blk hk
    rw [e] at h2
    exact h.map.not_cells h2
  have own_ne : ∀ i, upd S.own j true i = true → i ≠ j → S.own i = true := fun i hi hij => by rw [upd_oth _ _ hij] at hi; exact hi
  refine ⟨⟨Ka.at' h.box (fun e => h.map.not_cells (e ▸ h.box)), h.low, h.mlow, T.congr (fun x hx => ?_), fun i hi hoi => ?_, fun i l hi hl hoi hol hil k hk hk' => ?_⟩, Ka⟩
  · show (if x = (j : Int) + 1 then some w.heap.size else (S.idx x).map (fun i => (S.en i).eb)) = (Pd.idx ⟨S.n, upd S.own j true, upd S.en j (p.en w.heap.size)⟩ x).map (fun i => (upd S.en j (p.en w.heap.size) i).eb)
    by_cases e : x = (j : Int) + 1
    · rw [if_pos e, e, Pd.idx_of (S := ⟨S.n, upd S.own j true, upd S.en j (p.en w.heap.size)⟩) hj (upd_same _ _ _)]
      simp only [Option.map_some, upd_same]
      rfl
    · rw [if_neg e]
      by_cases e2 : 1 ≤ x ∧ x ≤ (S.n : Int)
      · have e3 : (x - 1).toNat ≠ j := by omega
        unfold Pd.idx
        simp only [upd_oth _ _ e3]
        split
        · simp only [Option.map_some, upd_oth _ _ e3]
        · rfl
      · unfold Pd.idx
        rw [if_neg (fun q => e2 ⟨q.1, q.2.1⟩), if_neg (fun q => e2 ⟨q.1, q.2.1⟩)]
        rfl
  · show Ep w' B (upd S.en j (p.en w.heap.size) i)
    by_cases e : i = j
    · subst e
      rw [upd_same]
      refine ⟨K.at' (alloc_new w _) (fun e => ?_), hB, .inl ⟨rfl, rfl⟩, rfl, fun _ _ _ hv => (by cases hv), fun _ _ _ _ hv => (by cases hv), World.ownsRow_nil _ _ _ _, fun _ hv => (by cases hv)⟩
      have e' : w.heap.size = mb := e
      omega
    · rw [upd_oth _ _ e]
      have hoi' := own_ne i hoi e
      exact (h.ends i hi hoi').kept Ka (fun k hk => nm i hi hoi' k hk)
  · have hk1 : Ef (upd S.en j (p.en w.heap.size) i) k := hk
    have hk2 : Ef (upd S.en j (p.en w.heap.size) l) k := hk'
    by_cases e : i = j
    · subst e
      rw [upd_same] at hk1
      have e2 : l ≠ i := fun q => hil q.symm
      rw [upd_oth _ _ e2] at hk2
      have := ((h.ends l hl (own_ne l hol e2)).ef_blk hk2).2.1
      have := fresh k hk1
      omega
    · rw [upd_oth _ _ e] at hk1
      by_cases e2 : l = j
      · subst e2
        rw [upd_same] at hk2
        have := ((h.ends i hi (own_ne i hoi e)).ef_blk hk1).2.1
        have := fresh k hk2
        omega
      · rw [upd_oth _ _ e2] at hk2
        exact h.apart i l hi hl (own_ne i hoi e) (own_ne l hol e2) hil k hk1 hk2
/-- the ports of a partition as New makes them -/
def pdNew (n : Nat) (ps : Nat → Pr) (part : Int) (j : Nat) (eb : Nat → Nat) : Pd := ⟨n, fun i => decide (i < j) && ((ps i).pt == part), fun i => (ps i).en (eb i)⟩
theorem pdNew_no {n : Nat} {ps : Nat → Pr} {part : Int} {j : Nat} {eb : Nat → Nat} (h : ¬ (ps j).pt = part) : pdNew n ps part (j + 1) eb = pdNew n ps part j eb := by
  unfold pdNew
  congr 1
  funext i
  by_cases e : i = j
  · subst e
    rw [show ((ps i).pt == part) = false by simp [h]]
    simp
  · rw [show decide (i < j + 1) = decide (i < j) by simp; omega]
theorem pdNew_yes {n : Nat} {ps : Nat → Pr} {part : Int} {j : Nat} {eb : Nat → Nat} (h : (ps j).pt = part) (g : Nat) : (⟨(pdNew n ps part j eb).n, upd (pdNew n ps part j eb).own j true, upd (pdNew n ps part j eb).en j ((ps j).en g)⟩ : Pd) = pdNew n ps part (j + 1) (upd eb j g) := by
  unfold pdNew
  congr 1
  · funext i
    unfold upd
    by_cases e : i = j
    · subst e; simp [h]
    · rw [if_neg e, show decide (i < j + 1) = decide (i < j) by simp; omega]
  · funext i
    unfold upd
    by_cases e : i = j
    · subst e; simp
    · simp [e]
section
variable {w : World} {a : Act} {o : Oper}
theorem Try.info6 : (Try.prog.info? 30).map (·.size) = some 6 := by kernel_rfl
theorem er_ld6 (x : Operand) (ho : o.op = .load 30 x) (g : Nat) (A : Array Value) (hx : a.eval x = .pointer (some ⟨g, 0, none⟩)) (hg : w.heap[g]? = some (.cells A 30)) (hA : A.size = 6) : (execOp a.eval o).run Try.prog w = .ok (.value (.agg A)) w := by
  have h := run_loadVar_row (P := Try.prog) w g 30 30 A (0, 0) _ hg Try.underlying30 rfl (by rw [hA]; exact Try.info6)
  unfold execOp
  simp only [ho, hx, Instr.loadAt, Instr.sureAddr, Sem.run_bind, Sem.run_pure, Result.andThen_ok, h]
theorem er_add1 (x : Operand) (ho : o.op = .binOp .add 3 x (.const (.int .i64 1)) 3) (j : Nat) (hx : a.eval x = .int .i64 (j : Int)) (hb : j ≤ 4611686018427387904) : (execOp a.eval o).run Try.prog w = .ok (.value (.int .i64 ((j : Int) + 1))) w := by
  have hw : IntKind.i64.wrap ((j : Int) + 1) = (j : Int) + 1 := by
    rw [IntWalk.i64_left]
    unfold wrap64
    omega
  simp only [execOp, ho, hx]; simp [go_sem, Act.eval, hw]
theorem er_boxE (x : Operand) (ho : o.op = .box 90 x) (A : Array Value) (hx : a.eval x = .agg A) (h1 : A.all (·.oneCell') = true) : (execOp a.eval o).run Try.prog w = .ok (.value (.pointer (some ⟨w.heap.size, 0, none⟩))) (w.alloc (.cells A 90)) := by
  simp only [execOp, ho, hx]
  simp [go_sem]
theorem er_mapu (x y z : Operand) (ho : o.op = .mapUpdate 85 x y z) (u v t : Value) (hx : a.eval x = u) (hy : a.eval y = v) (hz : a.eval z = t) (w' : World) (hr : (Instr.mapUpdate 85 u v t).run Try.prog w = .ok () w') : (execOp a.eval o).run Try.prog w = .ok .skip w' := by
  subst hx hy hz
  unfold execOp
  simp only [ho, Sem.run_bind, hr, Result.andThen_ok]
  rfl
theorem built_en (p0 p1 : Int) (p2 : Bool) (p3 p4 p5 : Int) : Try.prog.built 90 [(0, .agg #[.int .i64 p0, .int .i64 p1, .bool p2, .int .i64 p3, .int .i64 p4, .int .i64 p5])] = some #[.int .i64 p0, .int .i64 p1, .bool p2, .int .i64 p3, .int .i64 p4, .int .i64 p5, .slice none 0 0, .bool false, .int .i64 0, .slice none 0 0, .int .i64 0] := by kernel_rfl
end

set_option maxHeartbeats 4000000 in
theorem new_any {F : Nat → Prop} {a : Option Addr} {n c : Nat} {ps : Nat → Pr} (w : World) (pa ca : Option Addr) (pn pc cn cc : Nat) (part : Int) (hl : Pl w F a n c ps) (hn : n ≤ 4095) : Calls Try.prog 8 #[.agg #[.slice pa pn pc, .slice a n c, .slice ca cn cc], .int .i64 part] w fun r w' => ∃ b mb eb, r = .returned (.pointer (some ⟨b, 0, none⟩)) ∧ Pt w' w.heap.size b mb n (pdNew n ps part n eb) ∧ Kept No w w' := by
  have hcp := hl.cap
  have hmx := hl.max
  have HP := hid hl
  clear hl
  go_enter Try.func8, Try.ntmps8
  have hmk : ∀ W : World, (Instr.makeMap 85 none).run Try.prog W = .ok (.map (some W.heap.size)) (W.alloc (.map #[] 0)) := fun W => run_makeMap _ W
  go_upto_region 1 with fail
  have K1 : Kept No w (w.alloc (.cells #[.slice pa pn pc, .slice a n c, .slice ca cn cc] 27)) := (Kept.refl No w).alloc _
  have c1 : (w.alloc (.cells #[.slice pa pn pc, .slice a n c, .slice ca cn cc] 27)).heap[w.heap.size]? = some (.cells #[.slice pa pn pc, .slice a n c, .slice ca cn cc] 27) := alloc_new w _
  have KB : Hid (w.heap.size ≤ (w.alloc (.cells #[.slice pa pn pc, .slice a n c, .slice ca cn cc] 27)).heap.size) := K1.size
  generalize (w.alloc (.cells #[.slice pa pn pc, .slice a n c, .slice ca cn cc] 27)) = w1 at *
  have KM : Kept No w1 (w1.alloc (.map #[] 0)) := (Kept.refl No w1).alloc _
  have TM := hid (Tm.made w1)
  have HS2 := hid (World.size_alloc w1 (.map #[] 0))
  have cm : (w1.alloc (.map #[] 0)).cell? ⟨w.heap.size, 1, none⟩ = some (.slice a n c) := KM.cell ((cell_blk c1 1).trans rfl) (fun e => e)
  have CM := hid (KM.cell ((cell_blk c1 1).trans rfl) (fun e => e) : (w1.alloc (.map #[] 0)).cell? ⟨w.heap.size, 1, none⟩ = some (.slice a n c))
  have KK := hid (K1.trans KM (fun _ e => e.elim))
  have MB := hid (show w.heap.size ≤ w1.heap.size from K1.size)
  clear K1 c1 KM
  generalize hz : w.heap.size = zb at *
  have HZ := hid hz
  clear hz
  go_upto_region 2 with fail
  generalize (w1.alloc (.map #[] 0)) = w2 at *
  generalize w1.heap.size = mb at *
  clear cm hmk
  have P0 : Hid (Pt (w2.alloc (.cells #[.map (some mb), .int .i64 n] 87)) zb (mb + 1) mb 0 (pdNew n ps part 0 (fun _ => 0)) ∧ Kept No w (w2.alloc (.cells #[.map (some mb), .int .i64 n] 87))) := by
    have ka : Kept No w2 (w2.alloc (.cells #[.map (some mb), .int .i64 n] 87)) := (Kept.refl No w2).alloc _
    have hs := KK.out.size
    rw [HZ.out] at hs
    rw [← HS2.out]
    refine ⟨⟨alloc_new w2 _, hs, MB.out, (TM.out.kept ka (fun e => e)).congr (fun x _ => ?_), fun i _ h => ?_, fun i l _ _ h => ?_⟩, KK.out.trans ka (fun _ e => e.elim)⟩
    · have : (pdNew n ps part 0 (fun _ => 0)).idx x = none := by
        unfold Pd.idx pdNew
        simp
      rw [this]
      rfl
    · simp [pdNew] at h
    · simp [pdNew] at h
  have cm : (w2.alloc (.cells #[.map (some mb), .int .i64 n] 87)).cell? ⟨zb, 1, none⟩ = some (.slice a n c) := ((Kept.refl No w2).alloc _).cell CM.out (fun e => e)
  clear CM TM KK
  generalize (w2.alloc (.cells #[.map (some mb), .int .i64 n] 87)) = w3 at *
  clear HS2
  generalize mb + 1 = b at *
  go_upto_region 3 with fail
  clear cm
  go_loopw [17] (fun u wr => ∃ (j : Nat) (eb : Nat → Nat), j ≤ n ∧ u = .int .i64 j ∧ Pt wr zb b mb j (pdNew n ps part j eb) ∧ Kept No w wr) (fun u _ => n - (intOf u).toNat)
  case atStart => exact ⟨0, _, Nat.zero_le _, rfl, P0.out⟩
  case round =>
    clear P0
    obtain ⟨j, eb, hj, rfl, hp, hk⟩ := hrel
    have HH := hid (⟨hp, hk⟩ : _ ∧ _)
    clear hp hk
    by_cases hlt : j < n
    · have hltz : (j : Int) < (n : Int) := by omega
      obtain ⟨gb, go, rfl, _, e0, e1, e2, e3, e4, e5⟩ := (HP.out.kept HH.out.2 (fun _ _ e => e)).at' j hlt
      generalize hpj : ps j = p at *
      have HPJ := hid hpj
      clear hpj
      obtain ⟨p0, p1, p2, p3, p4, p5⟩ := p
      go_upto_region 5 with fail
      have HW : Hid (Pt (wr.alloc (.cells #[.int .i64 p0, .int .i64 p1, .bool p2, .int .i64 p3, .int .i64 p4, .int .i64 p5] 30)) zb b mb j (pdNew n ps part j eb) ∧ Kept No w (wr.alloc (.cells #[.int .i64 p0, .int .i64 p1, .bool p2, .int .i64 p3, .int .i64 p4, .int .i64 p5] 30)) ∧ (wr.alloc (.cells #[.int .i64 p0, .int .i64 p1, .bool p2, .int .i64 p3, .int .i64 p4, .int .i64 p5] 30)).heap[wr.heap.size]? = some (.cells #[.int .i64 p0, .int .i64 p1, .bool p2, .int .i64 p3, .int .i64 p4, .int .i64 p5] 30)) := ⟨HH.out.1.keep ((Kept.refl No wr).alloc _), HH.out.2.alloc _, alloc_new wr _⟩
      have c0 : (wr.alloc (.cells #[.int .i64 p0, .int .i64 p1, .bool p2, .int .i64 p3, .int .i64 p4, .int .i64 p5] 30)).cell? ⟨wr.heap.size, 0, none⟩ = some (.int .i64 p0) := (cell_blk HW.out.2.2 0).trans rfl
      clear e0 e1 e2 e3 e4 e5 HH
      generalize (wr.alloc (.cells #[.int .i64 p0, .int .i64 p1, .bool p2, .int .i64 p3, .int .i64 p4, .int .i64 p5] 30)) = wz at *
      generalize wr.heap.size = z at *
      by_cases hpt : p0 = part
      · have hpb : (p0 == part) = true := by simp [hpt]
        go_upto_region 6 with fail
        clear c0 hpb
        have hj62 : j ≤ 4611686018427387904 := by omega
        refine wp_region_held_drew (S := fun w' => w'.heap[b]? = some (.cells #[.map (some mb), .int .i64 n] 87) ∧ w'.heap[z]? = some (.cells #[.int .i64 p0, .int .i64 p1, .bool p2, .int .i64 p3, .int .i64 p4, .int .i64 p5] 30)) (by kernel_rfl) ⟨HW.out.1.box, HW.out.2.2⟩ (fun hS => ?_)
        refine d_take 0 26 rfl rfl (by kernel_rfl) (by kernel_rfl) (by kernel_rfl) (fun _ _ _ h => h) rfl (fun w' hw' => er_mv _ rfl (.pointer (some ⟨b, 0, none⟩)) rfl) hS ?_
        simp only [Act.put, List.setIfInBounds_toArray, List.set_cons_zero, List.set_cons_succ]
        refine d_take 1 27 rfl rfl (by kernel_rfl) (by kernel_rfl) (by kernel_rfl) (fun _ _ _ h => h) rfl (fun w' hw' => er_nil _ rfl ⟨b, 0, none⟩ rfl) hS ?_
        simp only [Act.put, List.setIfInBounds_toArray, List.set_cons_zero, List.set_cons_succ]
        refine d_take 2 28 rfl rfl (by kernel_rfl) (by kernel_rfl) (by kernel_rfl) (fun _ _ _ h => h) rfl (fun w' hw' => er_fP0 _ rfl b 0 rfl) hS ?_
        simp only [Act.put, List.setIfInBounds_toArray, List.set_cons_zero, List.set_cons_succ]
        refine d_take 3 29 rfl rfl (by kernel_rfl) (by kernel_rfl) (by kernel_rfl) (fun _ _ _ h => h) rfl (fun w' hw' => er_ldM _ rfl b 0 (.map (some mb)) rfl ((cell_blk hw'.1 0).trans rfl)) hS ?_
        simp only [Act.put, List.setIfInBounds_toArray, List.set_cons_zero, List.set_cons_succ]
        refine d_take 4 30 rfl rfl (by kernel_rfl) (by kernel_rfl) (by kernel_rfl) (fun _ _ _ h => h) rfl (fun w' hw' => er_mv _ rfl (.int .i64 (j : Int)) rfl) hS ?_
        simp only [Act.put, List.setIfInBounds_toArray, List.set_cons_zero, List.set_cons_succ]
        refine d_take 5 31 rfl rfl (by kernel_rfl) (by kernel_rfl) (by kernel_rfl) (fun _ _ _ h => h) rfl (fun w' hw' => er_add1 _ rfl j rfl hj62) hS ?_
        simp only [Act.put, List.setIfInBounds_toArray, List.set_cons_zero, List.set_cons_succ]
        refine d_take 6 32 rfl rfl (by kernel_rfl) (by kernel_rfl) (by kernel_rfl) (fun _ _ _ h => h) rfl (fun w' hw' => er_ld6 _ rfl z #[.int .i64 p0, .int .i64 p1, .bool p2, .int .i64 p3, .int .i64 p4, .int .i64 p5] rfl hw'.2 rfl) hS ?_
        simp only [Act.put, List.setIfInBounds_toArray, List.set_cons_zero, List.set_cons_succ]
        refine d_take 7 33 rfl rfl (by kernel_rfl) (by kernel_rfl) (by kernel_rfl) (fun _ _ _ h => h) rfl (fun w' hw' => er_build 90 _ rfl _ (by kernel_rfl) _ (built_en p0 p1 p2 p3 p4 p5)) hS ?_
        simp only [Act.put, List.setIfInBounds_toArray, List.set_cons_zero, List.set_cons_succ]
        have hpd : Pt wz.drew zb b mb j (pdNew n ps part j eb) := HW.out.1.keep (Kept.refl No wz).drew
        have KA : Kept No wz.drew (wz.drew.alloc (.cells #[.int .i64 p0, .int .i64 p1, .bool p2, .int .i64 p3, .int .i64 p4, .int .i64 p5, .slice none 0 0, .bool false, .int .i64 0, .slice none 0 0, .int .i64 0] 90)) := (Kept.refl No wz.drew).alloc _
        obtain ⟨w', hr, tm, km⟩ := (hpd.map.kept KA (fun e => e)).put (by omega) (x := (j : Int) + 1) (by unfold I6; omega) wz.heap.size
        have AD := hpd.add (j := j) hlt (by simp [pdNew]) ⟨p0, p1, p2, p3, p4, p5⟩ tm km
        rw [← HPJ.out] at AD
        rw [show (⟨(pdNew n ps part j eb).n, upd (pdNew n ps part j eb).own j true, upd (pdNew n ps part j eb).en j ((ps j).en wz.drew.heap.size)⟩ : Pd) = pdNew n ps part (j + 1) (upd eb j wz.drew.heap.size) from pdNew_yes (by rw [HPJ.out]; exact hpt) _] at AD
        have hbm : ¬ b = mb := fun e => hpd.map.not_cells (e ▸ hpd.box)
        have hzm : ¬ z = mb := fun e => hpd.map.not_cells (e ▸ HW.out.2.2)
        refine d_make 8 34 (by kernel_rfl) rfl rfl rfl (er_boxE _ rfl _ rfl (by kernel_rfl)) ⟨KA.at' hS.1 (fun e => e), KA.at' hS.2 (fun e => e)⟩ ?_
        simp only [Act.put, List.setIfInBounds_toArray, List.set_cons_zero, List.set_cons_succ]
        refine d_turn 9 (by kernel_rfl) rfl rfl rfl (er_mapu _ _ _ rfl (.map (some mb)) (.int .i64 ((j : Int) + 1)) (.pointer (some ⟨wz.heap.size, 0, none⟩)) rfl rfl rfl w' hr) ⟨km.at' (KA.at' hS.1 (fun e => e)) hbm, km.at' (KA.at' hS.2 (fun e => e)) hzm⟩ ?_
        refine wpAnyH_done (by kernel_rfl) ?_ _
        have HA := hid (⟨AD.1, (HW.out.2.1.drew).trans AD.2 (fun k e => .inr (by rw [e, HZ.out]; exact MB.out))⟩ : _ ∧ Kept No w w')
        clear AD tm km hr KA hpd hS
        go_wp2
        go_roundw
        case rel => exact ⟨j + 1, _, by omega, by go_num, HA.out⟩
        case measure => simp [intOf]; omega
      · have hpb : (p0 == part) = false := by simp [hpt]
        have HA := hid (⟨HW.out.1, HW.out.2.1⟩ : _ ∧ _)
        rw [← pdNew_no (n := n) (ps := ps) (part := part) (j := j) (eb := eb) (by rw [HPJ.out]; exact hpt)] at HA
        clear HW
        go_wp2
        go_roundw
        case rel => exact ⟨j + 1, eb, by omega, by go_num, ⟨HA.out.1.box, HA.out.1.low, HA.out.1.mlow, HA.out.1.map.up, HA.out.1.ends, HA.out.1.apart⟩, HA.out.2⟩
        case measure => simp [intOf]; omega
    · have hltz : ¬ (j : Int) < (n : Int) := by omega
      have hjn : j = n := by omega
      subst hjn
      go_wp2
      go_ret
      rw [HZ.out]
      exact ⟨b, rfl, ⟨mb, eb, HH.out.1⟩, HH.out.2⟩
end Go.Proofs.Ythebokkogeigoaa
