/-
  cut: the walk.
-/
import Derived.Test.YtofkacfchkimiaaPCut
namespace Go.Proofs.Ytofkacfchkimiaa
open Go.RowKit Plain
set_option linter.unusedVariables false
set_option linter.unusedSimpArgs false
set_option maxRecDepth 100000
theorem wpList_appSt {w : World} {ops : Array Oper} {rest : List Oper} {o : Oper} {a : Act} {Q : Exit → Act → World → Prop} (hgd : o.guard = none) (s x : Operand)
    (ho : o.op = .call { callee := .builtin .append, args := #[s, x], argTypes := #[72, 72] }) (B : Nat) (v : Value) (n : Nat) (us : List Value) (hs : a.eval s = v) (hv : w.ownsRow B 77 10 v n us) (hB : B ≤ w.heap.size) (A : Array Value) (ad : Addr) (hx : a.eval x = .slice (some ad) 1 1) (hA : A.size = 10)
    (hnews : ∀ j u, A.toList[j]? = some u → w.cell? (ad.add j) = some u) (h1 : ∀ u ∈ A.toList, u.oneCell' = true) (hn : n ≤ 1048576)
    (h : ∀ ya yc w', Hid (w'.ownsRow B 77 10 (.slice ya (n + 1) yc) (n + 1) (us ++ A.toList)) → Hid (w.grownBy w' v.ownBlock) → wpList Try.prog ops Q rest (a.put o.dst (.slice ya (n + 1) yc)) w') : wpList Try.prog ops Q (o :: rest) a w := by
  obtain ⟨i0, hi, hz0, hz1, hz2⟩ := info_parts Try.infoSt
  obtain ⟨v', w', hr, own1, grow1, _, _⟩ := run_append_own_at (P := Try.prog) w B 72 o.type 77 i0 _ 10 96 Try.underlying72 hi hz0 hz1 hz2 rfl (by decide) v n us hv ad 1 1 A.toList (by simp [hA]) hnews h1 (by unfold maxLen; omega) (by omega) hB
  obtain ⟨ya, yn, yc, rfl⟩ := own_slice own1
  have hyn : yn = n + 1 := by
    obtain ⟨_, ⟨_, h2⟩ | ⟨g, cap, cur, h2, _⟩⟩ := own1
    · omega
    · injection h2
  subst hyn
  refine BigFrame.wpList_want (by simp [Region.wanted, hgd]) fun K hK => ?_
  unfold Oper.wp
  have he : (execOp a.eval o).run Try.prog w = .ok (.value (.slice ya (n + 1) yc)) w' := by
    unfold execOp
    simp only [ho, resolve, invoke, builtin, Sem.run_bind, Sem.run_pure, Result.andThen_ok, List.map_toArray, List.map_cons, List.map_nil, hs, hx, hr]
  rw [he]
  exact hK _ _ (h ya yc w' own1 grow1)
theorem new_row2 (wr : World) (X : Obj) (s : Sp) (d : Value) : ∀ j u, (s.row d).toList[j]? = some u → ((wr.alloc X).alloc (.cells (s.row d) 77)).cell? ((⟨wr.heap.size + 1, 0, none⟩ : Addr).add j) = some u := by
  intro j u hu
  have := new_cells (w := wr.alloc X) (A := s.row d) (t := 77) j u hu
  rw [World.size_alloc] at this
  exact this
set_option maxHeartbeats 8000000 in
theorem cut_any {F : Nat → Prop} {a : Option Addr} {n c : Nat} {st : Nat → Sp} (w : World) (h : Sq w F a n c st) :
    Calls Try.prog 26 #[.slice a n c] w fun e w' => ∃ N va vc st' ds, N ≤ 300 ∧ e = .returned (.slice va N vc) ∧ Ct w w' F N (.slice va N vc) st' ds := by
  have hc := h.cap
  have hx := h.max
  have H : Hid (Sq w F a n c st) := h
  clear h
  go_enter Try.func26, Try.ntmps26
  go_wp2
  go_loopw [3, 4] (fun l i wr => ∃ (k : Nat) (va : Option Addr) (vc : Nat) (st' : Nat → Sp) (ds : Nat → Value), k ≤ 300 ∧ k ≤ n ∧ i = .int .i64 k ∧ l = .slice va k vc ∧ Ct w wr F k (.slice va k vc) st' ds) (fun _ i _ => 300 - (intOf i).toNat)
  case atStart => exact ⟨0, none, 0, st, fun _ => .slice none 0 0, by omega, by omega, rfl, rfl, World.ownsRow_nil _ _ _ _, Kept.refl _ _, fun j hj => by omega⟩
  case round =>
    obtain ⟨k, va, vc, st', ds, hk1, hk2, rfl, rfl, ct⟩ := hrel
    by_cases hlt : k < n
    · have hltz : (k : Int) < (n : Int) := by omega
      by_cases hlt2 : k < 300
      · have hltz2 : (k : Int) < 300 := by omega
        obtain ⟨b', o', da, dn, dc, rfl, _, hcs, hz⟩ := H.out.at' k hlt
        have e0 : wr.cell? ⟨b', o' + k * 10, none⟩ = some (.int .i64 (st k).k) := ct.2.1.cell (hcs 0 (by omega)) (fun h => h)
        have e1 : wr.cell? ⟨b', o' + k * 10 + 1, none⟩ = some (.int .i64 (st k).p) := ct.2.1.cell (hcs 1 (by omega)) (fun h => h)
        have e2 : wr.cell? ⟨b', o' + k * 10 + 2, none⟩ = some (.int .i64 (st k).a) := ct.2.1.cell (hcs 2 (by omega)) (fun h => h)
        have e3 : wr.cell? ⟨b', o' + k * 10 + 3, none⟩ = some (.int .i64 (st k).b) := ct.2.1.cell (hcs 3 (by omega)) (fun h => h)
        have e4 : wr.cell? ⟨b', o' + k * 10 + 4, none⟩ = some (.int .i64 (st k).c) := ct.2.1.cell (hcs 4 (by omega)) (fun h => h)
        have e5 : wr.cell? ⟨b', o' + k * 10 + 5, none⟩ = some (.int .i64 (st k).d) := ct.2.1.cell (hcs 5 (by omega)) (fun h => h)
        have e6 : wr.cell? ⟨b', o' + k * 10 + 6, none⟩ = some (.int .i64 (st k).x) := ct.2.1.cell (hcs 6 (by omega)) (fun h => h)
        have e7 : wr.cell? ⟨b', o' + k * 10 + 7, none⟩ = some (.int .i64 (st k).y) := ct.2.1.cell (hcs 7 (by omega)) (fun h => h)
        have e8 : wr.cell? ⟨b', o' + k * 10 + 8, none⟩ = some (.int .i64 (st k).z) := ct.2.1.cell (hcs 8 (by omega)) (fun h => h)
        have e9 : wr.cell? ⟨b', o' + k * 10 + 9, none⟩ = some (.slice da dn dc) := ct.2.1.cell (hcs 9 (by omega)) (fun h => h)
        have hdc := hz.cap
        have hdm := hz.max
        have CT : Hid (Ct w wr F k (.slice va k vc) st' ds ∧ Zs w F da dn dc (st k).ws) := ⟨ct, hz⟩
        have hsw := ct.2.1.size
        generalize hS : st k = S at *
        clear hcs ct
        by_cases hbig : 1000 < dn
        · have hbigz : (1000 : Int) < (dn : Int) := by omega
          obtain ⟨b2, o2, rfl, _, _⟩ := hz.at' 0 (by omega)
          clear hz
          go_upto_region 8 with fail
          go_wp2_with (at_builtin; go_must (refine wpList_appSt rfl _ _ rfl w.heap.size (.slice va k vc) k _ rfl ((CT.out.1.1.alloc _).alloc _) (by rw [World.size_alloc, World.size_alloc]; omega) (S.row (.slice (some ⟨b2, o2, none⟩) 1000 dc)) ⟨wr.heap.size + 1, 0, none⟩ rfl rfl (new_row2 wr _ S _) (row_all _ _ _ _) (by omega) ?_); intro ya yc w4 o4 g4)
          go_roundw
          case rel => exact ⟨k + 1, ya, yc, _, _, by omega, by omega, by go_num, rfl, CT.out.1.more (((Kept.refl No wr).alloc _).alloc _) { S with ws := S.ws.take 1000 } (by omega) (CT.out.2.take (by omega)) g4.out o4.out⟩
          case measure => simp [intOf]; omega
        · have hbigz : ¬ (1000 : Int) < (dn : Int) := by omega
          clear hz
          go_upto_region 8 with fail
          go_wp2_with (at_builtin; go_must (refine wpList_appSt rfl _ _ rfl w.heap.size (.slice va k vc) k _ rfl ((CT.out.1.1.alloc _).alloc _) (by rw [World.size_alloc, World.size_alloc]; omega) (S.row (.slice da dn dc)) ⟨wr.heap.size + 1, 0, none⟩ rfl rfl (new_row2 wr _ S _) (row_all _ _ _ _) (by omega) ?_); intro ya yc w4 o4 g4)
          go_roundw
          case rel => exact ⟨k + 1, ya, yc, _, _, by omega, by omega, by go_num, rfl, CT.out.1.more (((Kept.refl No wr).alloc _).alloc _) S (by omega) CT.out.2 g4.out o4.out⟩
          case measure => simp [intOf]; omega
      · have hltz2 : ¬ (k : Int) < 300 := by omega
        have CT : Hid (Ct w wr F k (.slice va k vc) st' ds) := ct
        clear ct
        go_wp2
        go_ret
        first | exact ⟨k, va, vc, st', ds, hk1, rfl, CT.out⟩ | exact ⟨k, hk1, va, vc, rfl, st', ds, CT.out⟩ | exact ⟨k, hk1, va, vc, st', ds, rfl, CT.out⟩
    · have hltz : ¬ (k : Int) < (n : Int) := by omega
      have CT : Hid (Ct w wr F k (.slice va k vc) st' ds) := ct
      clear ct
      go_wp2
      go_ret
      first | exact ⟨k, va, vc, st', ds, hk1, rfl, CT.out⟩ | exact ⟨k, hk1, va, vc, rfl, st', ds, CT.out⟩ | exact ⟨k, hk1, va, vc, st', ds, rfl, CT.out⟩
end Go.Proofs.Ytofkacfchkimiaa
