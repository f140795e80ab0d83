/-
  comingFrom, goingTo, least; FromPort, ToPort.
-/
import Derived.Test.YtfjaajjljmbmbaaGreatDoorCThose
import Derived.RegionIn
namespace Go.Proofs.YtfjaajjljmbmbaaGreatDoor
open Go.RowKit Go.Shelf Plain
attribute [local go_sem] Oper.semAt_some
set_option linter.unusedVariables false
set_option maxRecDepth 100000

theorem enters_coming : ∀ args w, (callFunc 31 args).run Tryz.prog w = .ok (.enter 31 args) w := enters_of Tryz.func31 (by kernel_rfl) rfl
theorem enters_going : ∀ args w, (callFunc 33 args).run Tryz.prog w = .ok (.enter 33 args) w := enters_of Tryz.func33 (by kernel_rfl) rfl
theorem enters_numbered : ∀ args w, (callFunc 55 args).run Tryz.prog w = .ok (.enter 55 args) w := enters_of Tryz.func55 (by kernel_rfl) rfl

section
variable {F : Nat → Prop} {a0 a1 a2 : Option Addr} {n0 c0 n1 c1 n c : Nat} {L : List Ch} {p : Int → Bool} {g : Nat} {lb : Array Value}
theorem coming_any (eg : ∀ args w, (callFunc g args).run Tryz.prog w = .ok (.enter g args) w) {w : World} (h : Ls 5 elCh w F a2 n c L) (hp : Prd g lb p w) :
    Calls Tryz.prog 18 #[.agg #[.slice a0 n0 c0, .slice a1 n1 c1, .slice a2 n c], .func (.func g) #[] lb] w fun e w' => ∃ l2, e = .returned (.func (.func 57) #[] l2) ∧ Kept No w w' ∧ GivesN Tryz.prog 57 l2 (el (fun c => p c.fr) L) (nm (fun c => p c.fr) L L.length).length w' := by
  have k1 : Kept No w (w.alloc (.cells #[.slice a0 n0 c0, .slice a1 n1 c1, .slice a2 n c] 26)) := (Kept.refl No w).alloc _
  have k2 : Kept No (w.alloc (.cells #[.slice a0 n0 c0, .slice a1 n1 c1, .slice a2 n c] 26)) ((w.alloc (.cells #[.slice a0 n0 c0, .slice a1 n1 c1, .slice a2 n c] 26)).alloc (.cells #[.func (.func g) #[] lb] 50)) := (Kept.refl No _).alloc _
  have kk := k1.trans k2 (fun _ h => .inl h)
  have b3 := alloc_new (w.alloc (.cells #[.slice a0 n0 c0, .slice a1 n1 c1, .slice a2 n c] 26)) (.cells #[.func (.func g) #[] lb] 50)
  rw [World.size_alloc] at b3
  have ct := those_gives (a0 := a0) (n0 := n0) (c0 := c0) (a1 := a1) (n1 := n1) (c1 := c1) enters_coming (h.kept kk (fun _ _ h => h) (elCh_kept kk (fun _ _ h => h))) (coming_prd eg _ (hp.on kk) b3)
  have KK := hid kk
  clear k1 k2 kk b3 h hp
  go_enter Tryz.func18, Tryz.ntmps18
  go_wp2_with (go_at_call 30; refine ct.mono ?_; rintro e w2 ⟨l2, rfl, kt, hg⟩)
  go_ret
  exact ⟨l2, rfl, KK.out.trans kt (fun _ h => .inl h), hg⟩
theorem going_any (eg : ∀ args w, (callFunc g args).run Tryz.prog w = .ok (.enter g args) w) {w : World} (h : Ls 5 elCh w F a2 n c L) (hp : Prd g lb p w) :
    Calls Tryz.prog 20 #[.agg #[.slice a0 n0 c0, .slice a1 n1 c1, .slice a2 n c], .func (.func g) #[] lb] w fun e w' => ∃ l2, e = .returned (.func (.func 57) #[] l2) ∧ Kept No w w' ∧ GivesN Tryz.prog 57 l2 (el (fun c => c.dst.any p) L) (nm (fun c => c.dst.any p) L L.length).length w' := by
  have k1 : Kept No w (w.alloc (.cells #[.slice a0 n0 c0, .slice a1 n1 c1, .slice a2 n c] 26)) := (Kept.refl No w).alloc _
  have k2 : Kept No (w.alloc (.cells #[.slice a0 n0 c0, .slice a1 n1 c1, .slice a2 n c] 26)) ((w.alloc (.cells #[.slice a0 n0 c0, .slice a1 n1 c1, .slice a2 n c] 26)).alloc (.cells #[.func (.func g) #[] lb] 50)) := (Kept.refl No _).alloc _
  have kk := k1.trans k2 (fun _ h => .inl h)
  have b3 := alloc_new (w.alloc (.cells #[.slice a0 n0 c0, .slice a1 n1 c1, .slice a2 n c] 26)) (.cells #[.func (.func g) #[] lb] 50)
  rw [World.size_alloc] at b3
  have ct := those_gives (a0 := a0) (n0 := n0) (c0 := c0) (a1 := a1) (n1 := n1) (c1 := c1) enters_going (h.kept kk (fun _ _ h => h) (elCh_kept kk (fun _ _ h => h))) (going_prd eg _ (hp.on kk) b3)
  have KK := hid kk
  clear k1 k2 kk b3 h hp
  go_enter Tryz.func20, Tryz.ntmps20
  go_wp2_with (go_at_call 30; refine ct.mono ?_; rintro e w2 ⟨l2, rfl, kt, hg⟩)
  go_ret
  exact ⟨l2, rfl, KK.out.trans kt (fun _ h => .inl h), hg⟩
end

/-! ### least -/
def LeI (B : Nat) : St := fun q W S => S = (fun k => k = B) ∧ q = 0 ∧ W.heap[B]? = some (.cells #[.int .i64 0] 3)
def LeX (B : Nat) (v : Int) : St := fun q W S => S = (fun k => k = B) ∧ W.heap[B]? = some (.cells #[.int .i64 v] 3)
theorem LeI.hangs (B : Nat) : Hangs (LeI B) := by
  refine ⟨?_, ?_⟩
  · rintro q W S ⟨rfl, hq, hb⟩ k hk
    have hk' : k = B := hk
    subst hk'; exact heap_lt hb
  · rintro q W W' S ⟨rfl, hq, hb⟩ hs hk
    exact ⟨rfl, hq, (hk _ rfl).trans hb⟩
theorem LeX.hangs (B : Nat) (v : Int) : Hangs (LeX B v) := by
  refine ⟨?_, ?_⟩
  · rintro q W S ⟨rfl, hb⟩ k hk
    have hk' : k = B := hk
    subst hk'; exact heap_lt hb
  · rintro q W W' S ⟨rfl, hb⟩ hs hk
    exact ⟨rfl, (hk _ rfl).trans hb⟩
theorem set1 {w : World} {g : Nat} {u : Value} {t : TypeId} (h : w.heap[g]? = some (.cells #[u] t)) (v : Value) : (w.setCell ⟨g, 0, none⟩ v).heap[g]? = some (.cells #[v] t) := by
  have hl := heap_lt h
  have e := (Array.getElem?_eq_some_iff.1 h).2
  simp only [World.setCell]
  simp [Array.getElem?_modify, h]
theorem ldI {w : World} {g : Nat} {v : Int} (h : w.cell? ⟨g, 0, none⟩ = some (.int .i64 v)) : (loadVar 3 ⟨g, 0, none⟩).run Tryz.prog w = .ok (.int .i64 v) w := by
  simp [go_sem, h]
theorem results_cellI {P : Program} {fn : Func} {p : Tmp} {ty : TypeId} (h : fn.results = #[.cell p ty]) (tmps : Array Value) (w : World) (g : Nat) (v : Value)
    (hp : tmps.getD p undef = .pointer (some ⟨g, 0, none⟩)) (hl : (loadVar ty ⟨g, 0, none⟩).run P w = .ok v w) : (results fn tmps).run P w = .ok v w := by
  have hp' : tmps[p]?.getD undef = .pointer (some ⟨g, 0, none⟩) := by simpa using hp
  simp [results, h, hp', asAddr, hl]

set_option maxHeartbeats 4000000 in
theorem least_any {gf b : Nat} {lb : Array Value} {v : Nat → Int} (eg : ∀ args w, (callFunc gf args).run Tryz.prog w = .ok (.enter gf args) w) (w : World) (hg : GivesN Tryz.prog gf lb (fun q => #[.int .i64 (v q)]) b w) :
    Calls Tryz.prog 27 #[.func (.func gf) #[] lb] w fun e w' => e = .returned (.int .i64 (if b = 0 then 0 else v 0)) ∧ Kept No w w' := by
  obtain ⟨V, hV⟩ : ∃ V, V = (if b = 0 then 0 else v 0) := ⟨_, rfl⟩
  rw [← hV]
  have HV := hid hV
  clear hV
  refine callsIn_wide (n := 9).1 ?_
  refine callsIn_of_wp_marks Tryz.func27 rfl trivial ?_ rfl
  simp only [Tryz.ntmps27, List.size_toArray, List.length_cons, List.length_nil, Nat.reduceAdd, Nat.reduceSub, Array.replicate_succ, Array.replicate_zero, List.push_toArray, List.append_toArray, List.nil_append, List.cons_append]
  gi_wp2
  have hI0 : LeI w.heap.size 0 (w.alloc (.cells #[.int .i64 0] 3)) (fun k => k = w.heap.size) := ⟨rfl, rfl, alloc_new _ _⟩
  have ka : Kept No w (w.alloc (.cells #[.int .i64 0] 3)) := (Kept.refl No w).alloc _
  have sz : (w.alloc (.cells #[.int .i64 0] 3)).heap.size = w.heap.size + 1 := by simp
  have HK := hid ka
  generalize w.alloc (.cells #[.int .i64 0] 3) = w1 at *
  refine range_list (n := 9) (gf := gf) (lb := lb) rfl eg (el := fun q => #[.int .i64 (v q)]) (fun _ => rfl) hg ka
    (LeI w.heap.size) (fun c q W S => (c = .ret ∧ 0 < b) ∧ LeX w.heap.size (v 0) q W S) (LeI.hangs _) (fun _ => ⟨fun q W S hi => (LeX.hangs _ _).old q W S hi.2, fun q W W' S hi hs hk => ⟨hi.1, (LeX.hangs _ _).kept q W W' S hi.2 hs hk⟩⟩) hI0
    (fun k hk => by have hk' : k = w.heap.size := hk; omega)
    (fun q => { tmps := #[.func (.func gf) #[] lb, undef, .pointer (some ⟨w.heap.size, 0, none⟩), .int .i64 (v q), .func (.func gf) #[] lb, .int .i64 (v q), undef], defers := [] }) ?assign ?body ?done ?stop
  case assign =>
    intro l q W K hq hK
    gi_wp2
    exact hK
  case body =>
    rintro l q W S ⟨rfl, rfl, h0⟩ hq
    have c0 := one h0
    have f0 : W.frozen? ⟨w.heap.size, 0, none⟩ = false := by simp [World.frozen?, h0]
    have HX : Hid (∃ S', Kept (fun k => k = w.heap.size) W (W.setCell ⟨w.heap.size, 0, none⟩ (.int .i64 (v 0))) ∧ More (fun k => k = w.heap.size) W S' ∧ LeX w.heap.size (v 0) (0 + 1) (W.setCell ⟨w.heap.size, 0, none⟩ (.int .i64 (v 0))) S') :=
      ⟨fun k => k = w.heap.size, ((Kept.refl (fun k => k = w.heap.size) W).setCell (p := ⟨w.heap.size, 0, none⟩) (.inl rfl) _), More.refl _ _, rfl, set1 h0 _⟩
    clear h0 hI0 hg
    gi_wp2
    obtain ⟨S', z1, z2, z3⟩ := HX.out
    exact ⟨S', z1, z2, ⟨rfl, hq⟩, z3⟩
  case done =>
    rintro D W S' hk hm ⟨rfl, hb, h0⟩ hD1 hD2 hD3
    have kw : Kept No w W := HK.out.trans hk (fun k q => .inr (by have q' : k = w.heap.size := q; omega))
    have HKW : Hid (Kept No w W ∧ w.heap.size ≠ D) := ⟨kw, by omega⟩
    have c0 := one h0
    have f0 : W.frozen? ⟨w.heap.size, 0, none⟩ = false := by simp [World.frozen?, h0]
    have HD := hid hD3
    have H0 := hid h0
    have HB := hid hb
    clear hg hI0 hm hk kw h0 hD3
    gi_wp2
    have hD4 : (W.setCell ⟨w.heap.size, 0, none⟩ (.int .i64 0)).heap[D]? = some (.deferred (some [])) := (Below.heap_setCell _ _ _ _ (by simp; exact fun e => HKW.out.2 e.symm)).trans HD.out
    refine ⟨by simp, .inl ⟨_, _, rfl, run_takeDeferred hD4, ?_⟩⟩
    refine ⟨_, results_cellI rfl _ _ w.heap.size (.int .i64 0) rfl (ldI (one ((World.putObj_heap_other (by exact HKW.out.2)).trans (set1 H0.out _)))), by rw [HV.out, if_pos HB.out], ?_⟩
    have k5 : Kept No w (W.setCell ⟨w.heap.size, 0, none⟩ (.int .i64 0)) := HKW.out.1.setCell (.inr (Nat.le_refl _)) _
    exact k5.trans (kept_put (S := fun k => k = D) _ rfl) (fun k q => .inr (by omega))
  case stop =>
    rintro D c q W S' hk hm ⟨⟨rfl, hb⟩, rfl, h0⟩ hD1 hD2 hD3
    have HB : Hid (¬ b = 0) := show ¬ b = 0 by omega
    have kw : Kept No w W := HK.out.trans hk (fun k q => .inr (by have q' : k = w.heap.size := q; omega))
    have hne : w.heap.size ≠ D := by omega
    clear hg hI0 hm hk
    gi_wp2
    refine ⟨by simp, .inl ⟨_, _, rfl, run_takeDeferred hD3, ?_⟩⟩
    refine ⟨_, results_cellI rfl _ _ w.heap.size (.int .i64 (v 0)) rfl (ldI (one ((World.putObj_heap_other (by exact hne)).trans h0))), ?_, ?_⟩
    · rw [HV.out, if_neg HB.out]
    · exact kw.trans (kept_put (S := fun k => k = D) _ rfl) (fun k q => .inr (by omega))

theorem head_el (p : Ch → Bool) (L : List Ch) : el p L = fun q => #[.int .i64 (((nm p L L.length).getD q 0 : Int) + 1)] := rfl
/-- the least number, from 1 on, of one that is such; 0 -/
def leastN (p : Ch → Bool) (L : List Ch) : Int := if (nm p L L.length).length = 0 then 0 else ((nm p L L.length).getD 0 0 : Int) + 1
theorem enters_those : ∀ args w, (callFunc 57 args).run Tryz.prog w = .ok (.enter 57 args) w := enters_of Tryz.func57 (by kernel_rfl) rfl

section
variable {w : World} {a : Act} {o : Oper}
theorem Tryz.infoIm : (Tryz.prog.info? 26).map (·.size) = some 3 := by kernel_rfl
theorem er_ldIm (x : Operand) (ho : o.op = .load 26 x) (g : Nat) (A : Array Value) (hx : a.eval x = .pointer (some ⟨g, 0, none⟩)) (hg : w.heap[g]? = some (.cells A 26)) (hA : A.size = 3) : (execOp a.eval o).run Tryz.prog w = .ok (.value (.agg A)) w := by
  have h := run_loadVar_row (P := Tryz.prog) w g 26 26 A (0, 0) _ hg Tryz.underlying26 rfl (by rw [hA]; exact Tryz.infoIm)
  unfold execOp
  simp only [ho, hx, Instr.loadAt, Instr.sureAddr, Sem.run_bind, Sem.run_pure, Result.andThen_ok, h]
theorem ec_1 {f : FuncId} (ef : ∀ args w, (callFunc f args).run Tryz.prog w = .ok (.enter f args) w) (x : Operand) (t : TypeId) (ho : o.op = .call { callee := .value (.func f), args := #[x], argTypes := #[t] }) (v : Value) (hx : a.eval x = v) : (execOp a.eval o).run Tryz.prog w = .ok (.enter f #[v]) w := by
  subst hx
  simp [execOp, ho, go_sem, Act.eval, ef]
theorem ec_2 {f : FuncId} (ef : ∀ args w, (callFunc f args).run Tryz.prog w = .ok (.enter f args) w) (x y : Operand) (t t' : TypeId) (ho : o.op = .call { callee := .value (.func f), args := #[x, y], argTypes := #[t, t'] }) (v u : Value) (hx : a.eval x = v) (hy : a.eval y = u) : (execOp a.eval o).run Tryz.prog w = .ok (.enter f #[v, u]) w := by
  subst hx hy
  simp [execOp, ho, go_sem, Act.eval, ef]
end

set_option maxHeartbeats 2000000 in
theorem fromPort_any {F : Nat → Prop} {a0 a1 a2 : Option Addr} {n0 c0 n1 c1 n c : Nat} {L : List Ch} (m : Int) {w : World} (h : Ls 5 elCh w F a2 n c L) :
    Calls Tryz.prog 12 #[.agg #[.slice a0 n0 c0, .slice a1 n1 c1, .slice a2 n c], .int .i64 m] w fun e w' => e = .returned (.int .i64 (leastN (fun c => numB m c.fr) L)) ∧ Kept No w w' := by
  have hb0 := alloc_new w (.cells #[.slice a0 n0 c0, .slice a1 n1 c1, .slice a2 n c] 26)
  have K0 : Kept No w (w.alloc (.cells #[.slice a0 n0 c0, .slice a1 n1 c1, .slice a2 n c] 26)) := (Kept.refl No w).alloc _
  have H := hid h
  clear h
  go_enter Tryz.func12, Tryz.ntmps12
  go_upto_region 1 with fail
  generalize w.alloc (.cells #[.slice a0 n0 c0, .slice a1 n1 c1, .slice a2 n c] 26) = w1 at *
  generalize w.heap.size = b at *
  refine wp_region_held_drew (S := fun W => Kept No w W ∧ W.heap[b]? = some (.cells #[.slice a0 n0 c0, .slice a1 n1 c1, .slice a2 n c] 26)) (by kernel_rfl) ⟨K0.drew, hb0⟩ (fun hS => ?_)
  refine d_take 0 5 rfl rfl (by kernel_rfl) (by kernel_rfl) (by kernel_rfl) (fun _ _ _ h => h) rfl (fun w' hw' => er_ldIm _ rfl b #[.slice a0 n0 c0, .slice a1 n1 c1, .slice a2 n c] rfl hw'.2 rfl) hS ?_
  simp only [Act.put, List.setIfInBounds_toArray, List.set_cons_zero, List.set_cons_succ]
  refine d_take 1 6 rfl rfl (by kernel_rfl) (by kernel_rfl) (by kernel_rfl) (fun _ _ _ h => h) rfl (fun w' hw' => er_mv _ rfl (.int .i64 m) rfl) hS ?_
  simp only [Act.put, List.setIfInBounds_toArray, List.set_cons_zero, List.set_cons_succ]
  refine d_callN (fun v W => ∃ lb, v = .func (.func 55) #[] lb ∧ Prd 55 lb (numB m) W) 2 7 (by kernel_rfl) rfl rfl rfl (ec_1 (enters_of Tryz.func28 (by kernel_rfl) rfl) _ _ rfl (.int .i64 m) rfl) ((numbered_new m _).mono ?_) ?_
  · rintro e w' ⟨rfl, rfl⟩
    have ka : Kept No w1.drew (w1.drew.alloc (.cells #[.int .i64 m] 3)) := (Kept.refl No _).alloc _
    exact ⟨_, rfl, ⟨hS.1.trans ka (fun _ h => .inl h), ka.at' hS.2 (fun h => h)⟩, _, rfl, numbered_prd m _⟩
  rintro v2 w2 hS2 ⟨lb, rfl, hp⟩
  simp only [Act.put, List.setIfInBounds_toArray, List.set_cons_zero, List.set_cons_succ]
  refine d_callN (fun v W => ∃ l2, v = .func (.func 57) #[] l2 ∧ GivesN Tryz.prog 57 l2 (el (fun c => numB m c.fr) L) (nm (fun c => numB m c.fr) L L.length).length W) 3 8 (by kernel_rfl) rfl rfl rfl (ec_2 (enters_of Tryz.func18 (by kernel_rfl) rfl) _ _ _ _ rfl (.agg #[.slice a0 n0 c0, .slice a1 n1 c1, .slice a2 n c]) (.func (.func 55) #[] lb) rfl rfl) ((coming_any enters_numbered (H.out.kept hS2.1 (fun _ _ h => h) (elCh_kept hS2.1 (fun _ _ h => h))) hp).mono ?_) ?_
  · rintro e w' ⟨l2, rfl, k2, hg⟩
    exact ⟨_, rfl, ⟨hS2.1.trans k2 (fun _ h => .inl h), k2.at' hS2.2 (fun h => h)⟩, l2, rfl, hg⟩
  rintro v3 w3 hS3 ⟨l2, rfl, hg⟩
  simp only [Act.put, List.setIfInBounds_toArray, List.set_cons_zero, List.set_cons_succ]
  refine d_call (v := .int .i64 (leastN (fun c => numB m c.fr) L)) 4 9 (by kernel_rfl) rfl rfl rfl (ec_1 (enters_of Tryz.func27 (by kernel_rfl) rfl) _ _ rfl (.func (.func 57) #[] l2) rfl) ((least_any enters_those w3 hg).mono ?_) (fun w4 hS4 => ?_)
  · rintro e w' ⟨rfl, k4⟩
    exact ⟨rfl, hS3.1.trans k4 (fun _ h => .inl h), k4.at' hS3.2 (fun h => h)⟩
  simp only [Act.put, List.setIfInBounds_toArray, List.set_cons_zero, List.set_cons_succ]
  refine d_take 5 4 rfl rfl (by kernel_rfl) (by kernel_rfl) (by kernel_rfl) (fun _ _ _ h => h) rfl (fun w' hw' => er_as _ rfl (.int .i64 (leastN (fun c => numB m c.fr) L)) rfl) hS4 ?_
  simp only [Act.put, List.setIfInBounds_toArray, List.set_cons_zero, List.set_cons_succ]
  refine wpAnyH_done (by kernel_rfl) ?_ _
  have HF := hid hS4.1
  clear hS hS2 hS3 hS4 hg hp
  go_wp2
  go_ret
  exact ⟨rfl, HF.out⟩

set_option maxHeartbeats 2000000 in
theorem toPort_any {F : Nat → Prop} {a0 a1 a2 : Option Addr} {n0 c0 n1 c1 n c : Nat} {L : List Ch} (m : Int) {w : World} (h : Ls 5 elCh w F a2 n c L) :
    Calls Tryz.prog 13 #[.agg #[.slice a0 n0 c0, .slice a1 n1 c1, .slice a2 n c], .int .i64 m] w fun e w' => e = .returned (.int .i64 (leastN (fun c => c.dst.any (numB m)) L)) ∧ Kept No w w' := by
  have hb0 := alloc_new w (.cells #[.slice a0 n0 c0, .slice a1 n1 c1, .slice a2 n c] 26)
  have K0 : Kept No w (w.alloc (.cells #[.slice a0 n0 c0, .slice a1 n1 c1, .slice a2 n c] 26)) := (Kept.refl No w).alloc _
  have H := hid h
  clear h
  go_enter Tryz.func13, Tryz.ntmps13
  go_upto_region 1 with fail
  generalize w.alloc (.cells #[.slice a0 n0 c0, .slice a1 n1 c1, .slice a2 n c] 26) = w1 at *
  generalize w.heap.size = b at *
  refine wp_region_held_drew (S := fun W => Kept No w W ∧ W.heap[b]? = some (.cells #[.slice a0 n0 c0, .slice a1 n1 c1, .slice a2 n c] 26)) (by kernel_rfl) ⟨K0.drew, hb0⟩ (fun hS => ?_)
  refine d_take 0 5 rfl rfl (by kernel_rfl) (by kernel_rfl) (by kernel_rfl) (fun _ _ _ h => h) rfl (fun w' hw' => er_ldIm _ rfl b #[.slice a0 n0 c0, .slice a1 n1 c1, .slice a2 n c] rfl hw'.2 rfl) hS ?_
  simp only [Act.put, List.setIfInBounds_toArray, List.set_cons_zero, List.set_cons_succ]
  refine d_take 1 6 rfl rfl (by kernel_rfl) (by kernel_rfl) (by kernel_rfl) (fun _ _ _ h => h) rfl (fun w' hw' => er_mv _ rfl (.int .i64 m) rfl) hS ?_
  simp only [Act.put, List.setIfInBounds_toArray, List.set_cons_zero, List.set_cons_succ]
  refine d_callN (fun v W => ∃ lb, v = .func (.func 55) #[] lb ∧ Prd 55 lb (numB m) W) 2 7 (by kernel_rfl) rfl rfl rfl (ec_1 (enters_of Tryz.func28 (by kernel_rfl) rfl) _ _ rfl (.int .i64 m) rfl) ((numbered_new m _).mono ?_) ?_
  · rintro e w' ⟨rfl, rfl⟩
    have ka : Kept No w1.drew (w1.drew.alloc (.cells #[.int .i64 m] 3)) := (Kept.refl No _).alloc _
    exact ⟨_, rfl, ⟨hS.1.trans ka (fun _ h => .inl h), ka.at' hS.2 (fun h => h)⟩, _, rfl, numbered_prd m _⟩
  rintro v2 w2 hS2 ⟨lb, rfl, hp⟩
  simp only [Act.put, List.setIfInBounds_toArray, List.set_cons_zero, List.set_cons_succ]
  refine d_callN (fun v W => ∃ l2, v = .func (.func 57) #[] l2 ∧ GivesN Tryz.prog 57 l2 (el (fun c => c.dst.any (numB m)) L) (nm (fun c => c.dst.any (numB m)) L L.length).length W) 3 8 (by kernel_rfl) rfl rfl rfl (ec_2 (enters_of Tryz.func20 (by kernel_rfl) rfl) _ _ _ _ rfl (.agg #[.slice a0 n0 c0, .slice a1 n1 c1, .slice a2 n c]) (.func (.func 55) #[] lb) rfl rfl) ((going_any enters_numbered (H.out.kept hS2.1 (fun _ _ h => h) (elCh_kept hS2.1 (fun _ _ h => h))) hp).mono ?_) ?_
  · rintro e w' ⟨l2, rfl, k2, hg⟩
    exact ⟨_, rfl, ⟨hS2.1.trans k2 (fun _ h => .inl h), k2.at' hS2.2 (fun h => h)⟩, l2, rfl, hg⟩
  rintro v3 w3 hS3 ⟨l2, rfl, hg⟩
  simp only [Act.put, List.setIfInBounds_toArray, List.set_cons_zero, List.set_cons_succ]
  refine d_call (v := .int .i64 (leastN (fun c => c.dst.any (numB m)) L)) 4 9 (by kernel_rfl) rfl rfl rfl (ec_1 (enters_of Tryz.func27 (by kernel_rfl) rfl) _ _ rfl (.func (.func 57) #[] l2) rfl) ((least_any enters_those w3 hg).mono ?_) (fun w4 hS4 => ?_)
  · rintro e w' ⟨rfl, k4⟩
    exact ⟨rfl, hS3.1.trans k4 (fun _ h => .inl h), k4.at' hS3.2 (fun h => h)⟩
  simp only [Act.put, List.setIfInBounds_toArray, List.set_cons_zero, List.set_cons_succ]
  refine d_take 5 4 rfl rfl (by kernel_rfl) (by kernel_rfl) (by kernel_rfl) (fun _ _ _ h => h) rfl (fun w' hw' => er_as _ rfl (.int .i64 (leastN (fun c => c.dst.any (numB m)) L)) rfl) hS4 ?_
  simp only [Act.put, List.setIfInBounds_toArray, List.set_cons_zero, List.set_cons_succ]
  refine wpAnyH_done (by kernel_rfl) ?_ _
  have HF := hid hS4.1
  clear hS hS2 hS3 hS4 hg hp
  go_wp2
  go_ret
  exact ⟨rfl, HF.out⟩
end Go.Proofs.YtfjaajjljmbmbaaGreatDoor
