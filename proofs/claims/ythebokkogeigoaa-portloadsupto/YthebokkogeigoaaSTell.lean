/-
  port: tell.
-/
import Derived.Test.YthebokkogeigoaaSCpy
import Derived.Test.YthebokkogeigoaaSRefL
import Derived.Deep.DeepCutAuto
import Derived.Deep.RegionWith
import Derived.Deep.MidRow
namespace Go.Proofs.Ythebokkogeigoaa
open Go.RowKit
set_option linter.unusedVariables false
set_option linter.unusedSimpArgs false
set_option maxRecDepth 100000

/-- what is told of a port: its queue, its messages, its sample's words, all in blocks from B on, and apart -/
structure Tv (B : Nat) (w : World) (it : Value) (ms : List Value) (sv : Value) (s : Ps) : Prop where
  que : w.ownsRow B 22 1 it ms.length ms
  len : s.q.length = ms.length
  msg : ∀ (j : Nat) (v : Value) (x : List Int), ms[j]? = some v → s.q[j]? = some x → w.ownsRow B 2 1 v x.length (x.map iv)
  far : ∀ (j j' : Nat) (v v' : Value), ms[j]? = some v → ms[j']? = some v' → j ≠ j' → Far v v'
  smp : w.ownsRow B 2 1 sv s.d.length (s.d.map iv)
  sfar : ∀ v, v ∈ ms → Far v sv
theorem Tv.keep {B : Nat} {w w' : World} {it : Value} {ms : List Value} {sv : Value} {s : Ps} (h : Tv B w it ms sv s) (K : Kept No w w') : Tv B w' it ms sv s :=
  ⟨K.owns h.que (fun _ _ e => e), h.len, fun j v x h1 h2 => K.owns (h.msg j v x h1 h2) (fun _ _ e => e), h.far, K.owns h.smp (fun _ _ e => e), h.sfar⟩
theorem Kept.setRow {F : Nat → Prop} {a w : World} (h : Kept F a w) {g : Nat} (hg : F g ∨ a.heap.size ≤ g) (cs : Array Value) : Kept F a (w.setRow g cs) :=
  ⟨h.os, h.tape, h.output, by rw [size_setRow]; exact h.size, fun k hk hF => by
    rw [setRow_other w g k cs (fun e => by subst e; rcases hg with h1 | h1; exact hF h1; omega)]
    exact h.block k hk hF⟩
section
variable {P : Program} {md : Region.Mode} {ops : Array Oper} {Q : Exit → Act → World → Prop} {S : World → Prop} {fuel : Nat} {listed : Array Bool} {a : Act} {w : World}
/-- a call whose answer is new, and a cell: both orders -/
theorem d_ca (T : Value → World → Prop) (i k j l : Nat) {oi oj : Oper} {f : FuncId} {args : Array Value} {v : Value} {wj : World} (hr : Region.ready md ops listed = [i, j]) (hi : ops[i]? = some oi) (hj : ops[j]? = some oj) (hd : oi.dst = some k) (hdj : oj.dst = some l) (hw : Region.wanted oi (yielded ops a.tmps) = true) (hwj : Region.wanted oj (yielded ops a.tmps) = true) (hrun : (execOp a.eval oi).run P w = .ok (.enter f args) w) (hrunj : (execOp a.eval oj).run P w = .ok (.value v) wj)
    (hc : Calls P f args w fun e w'' => ∃ u, e = .returned u ∧ S w'' ∧ T u w'') (hS : S wj) (h : ∀ u w'', S w'' → T u w'' → wpAnyH P md ops Q S fuel (listed.setIfInBounds i true) (a.put (some k) u) w'') (h' : wpAnyH P md ops Q S fuel (listed.setIfInBounds j true) (a.put (some l) v) wj) : wpAnyH P md ops Q S (fuel + 1) listed a w := by
  refine wpAnyH_ready hr (by simp) (AllReadyH.cons hi (fun K hK => ?_) (AllReadyH.cons hj (fun K hK => ?_) AllReadyH.nil))
  · rw [if_pos hw]
    unfold Oper.wp
    rw [hrun]
    refine hc.mono ?_
    rintro e w'' ⟨u, rfl, hS, hT⟩
    exact hK.out _ _ hS (fun _ => by rw [hd]; exact h u w'' hS hT)
  · rw [if_pos hwj]
    unfold Oper.wp
    rw [hrunj]
    exact hK.out _ _ hS (fun _ => by rw [hdj]; exact h')
end
section
variable {w : World} {a : Act} {o : Oper}
theorem er_ld3S (x : Operand) (ho : o.op = .load 59 x) (g off : Nat) (u v y : Value) (hx : a.eval x = .pointer (some ⟨g, off, none⟩)) (h0 : w.cell? ⟨g, off, none⟩ = some u) (h1 : w.cell? ⟨g, off + 1, none⟩ = some v) (h2 : w.cell? ⟨g, off + 2, none⟩ = some y) : (execOp a.eval o).run Try.prog w = .ok (.value (.agg #[u, v, y])) w := by
  have := run_loadAt_mid (P := Try.prog) w g off 59 [u, v, y] _ (fun j z hz => by
    match j, hz with
    | 0, hz => cases hz; exact h0
    | 1, hz => cases hz; exact h1
    | 2, hz => cases hz; exact h2) Try.underlying59 rfl (by kernel_rfl)
  simp only [execOp, ho, hx, Sem.run_bind, this]; rfl
theorem er_alS (ho : o.op = .alloc 61) : (execOp a.eval o).run Try.prog w = .ok (.value (.pointer (some ⟨w.heap.size, 0, none⟩))) (w.alloc (.cells #[.slice none 0 0, .bool false, .int .i64 0, .slice none 0 0, .int .i64 0] 61)) := by
  simp only [execOp, ho]
  simp [go_sem]
theorem er_st5 (x y : Operand) (ho : o.op = .store 61 x y) (g : Nat) (A old : Array Value) (hx : a.eval x = .pointer (some ⟨g, 0, none⟩)) (hy : a.eval y = .agg A) (hg : w.heap[g]? = some (.cells old 61 (0, 0))) (hA : A.size = 5) (h5 : old.size = 5) (h1 : A.all (·.oneCell') = true) : (execOp a.eval o).run Try.prog w = .ok .skip (w.setRow g A) := by
  simp only [execOp, ho, hx, hy, Instr.storeAt, Instr.sureAddr, Sem.run_bind, Sem.run_pure, Result.andThen_ok, run_storeVar_row (P := Try.prog) w g 61 61 old A hg (by rw [hA]; kernel_rfl) (by rw [hA, h5]) h1]
theorem er_cCs (x : Operand) (t : TypeId) (ho : o.op = .call { callee := .value (.func 59), args := #[x], argTypes := #[t] }) (v : Value) (hx : a.eval x = v) : (execOp a.eval o).run Try.prog w = .ok (.enter 59 #[v]) w := by
  subst hx
  simp [execOp, ho, go_sem, Act.eval]
end
theorem built_s (has : Bool) (tk lost : Int) (ya : Option Addr) (n c : Nat) : Try.prog.built 61 [(1, .agg #[.bool has, .int .i64 tk, .slice ya n c]), (2, .int .i64 lost)] = some #[.slice none 0 0, .bool has, .int .i64 tk, .slice ya n c, .int .i64 lost] := by kernel_rfl
theorem cell0_ne {w : World} {tb : Nat} {A : Array Value} (h : w.heap[tb]? = some (.cells A 61 (0, 0))) {B e s n : Nat} {v : Value} {xs : List Value} (o : w.ownsRow B e s v n xs) (he : e ≠ 61) : ¬ v.ownBlock = some tb := fun q => by
  obtain ⟨_, cs, h2⟩ := owns_blk o q
  exact he (two_tags h2 h)
/-- one message more is told -/
theorem tv_more {B : Nat} {wr W0 W : World} {tb k : Nat} {qa za : Option Addr} {qc zc : Nat} {ms : List Value} {sv a1 a2 a3 a4 : Value} {s : Ps} {x : List Int} (tv : Tv B wr (.slice qa k qc) ms sv s) (hk : ms.length = k) (hsm : k ≤ 1048576) (hb : wr.heap[tb]? = some (.cells #[.slice qa k qc, a1, a2, a3, a4] 61 (0, 0))) (hB : B ≤ wr.heap.size) (hts : B ≤ tb) (k0 : Kept No wr W0) (k1 : Kept No W0 W) (om : W.ownsRow W0.heap.size 2 1 (.slice za x.length zc) x.length (x.map iv)) :
    ∃ va vc w', (Builtin.append_ #[47, 47] 47 #[.slice qa k qc, .slice (some ⟨W.heap.size, 0, none⟩) 1 1]).run Try.prog (W.alloc (.cells #[.slice za x.length zc] 22)) = .ok (.slice va (k + 1) vc) w' ∧ w'.cell? ⟨tb, 0, none⟩ = some (.slice qa k qc) ∧ w'.frozen? ⟨tb, 0, none⟩ = false ∧
      Tv B (w'.setCell ⟨tb, 0, none⟩ (.slice va (k + 1) vc)) (.slice va (k + 1) vc) (ms ++ [.slice za x.length zc]) sv { s with q := s.q ++ [x] } ∧ (w'.setCell ⟨tb, 0, none⟩ (.slice va (k + 1) vc)).heap[tb]? = some (.cells #[.slice va (k + 1) vc, a1, a2, a3, a4] 61 (0, 0)) ∧ Kept (fun j => B ≤ j) wr (w'.setCell ⟨tb, 0, none⟩ (.slice va (k + 1) vc)) := by
  have kW := k0.trans k1 (fun _ e => .inl e)
  have ka : Kept No wr (W.alloc (.cells #[.slice za x.length zc] 22)) := kW.alloc _
  have ka1 : Kept No W (W.alloc (.cells #[.slice za x.length zc] 22)) := (Kept.refl No W).alloc _
  have ta := tv.keep ka
  obtain ⟨i0, hi, hz0, hz1, hz2⟩ := info_parts Try.infoL
  have hque := ta.que
  rw [hk] at hque
  have hs1 := ka.size
  have hs0 := k0.size
  obtain ⟨v', w', hr, own1, grow1, _⟩ := run_append_own (P := Try.prog) (W.alloc (.cells #[.slice za x.length zc] 22)) B 47 47 22 i0 _ 1 24 Try.underlying47 hi hz0 hz1 hz2 rfl (by decide) (.slice qa k qc) k ms hque ⟨W.heap.size, 0, none⟩ 1 1 [.slice za x.length zc] rfl (news_alloc W #[.slice za x.length zc] 22) (fun u hu => by simp at hu; rw [hu]; rfl) (by unfold maxLen; first | omega | (simp; omega)) (by first | omega | (simp; omega)) (by omega)
  obtain ⟨va, vn, vc, rfl⟩ := own_slice own1
  have hvn : vn = k + 1 := by
    obtain ⟨_, ⟨_, h2⟩ | ⟨g, cap, cur, h2, _⟩⟩ := own1
    · omega
    · injection h2
  subst hvn
  have kg : Kept (fun j => (Value.slice qa k qc).ownBlock = some j) (W.alloc (.cells #[.slice za x.length zc] 22)) w' := Kept.grown (Kept.refl _ _) grow1 (fun j e => .inl e)
  have hba := ka.at' hb (fun e => e)
  have hnt : ¬ (Value.slice qa k qc).ownBlock = some tb := cell0_ne hba hque (by decide)
  have hb' := kg.at' hba hnt
  have kt : Kept (fun j => j = tb) w' (w'.setCell ⟨tb, 0, none⟩ (.slice va (k + 1) vc)) := (Kept.refl (fun j => j = tb) w').setCell (.inl rfl) _
  have omx := ka1.owns om (fun _ _ e => e)
  have wk : ∀ {v : Value} {y : List Int} {b' : Nat}, (W.alloc (.cells #[.slice za x.length zc] 22)).ownsRow b' 2 1 v y.length (y.map iv) → (w'.setCell ⟨tb, 0, none⟩ (.slice va (k + 1) vc)).ownsRow b' 2 1 v y.length (y.map iv) := fun {v y b'} ho => by
    have o1 := kg.owns ho (fun g hg e => by
      obtain ⟨_, cs, h2⟩ := owns_blk ho hg
      obtain ⟨_, cs', h3⟩ := owns_blk hque e
      exact absurd (two_tags h2 h3) (by decide))
    exact kt.owns o1 (fun g hg e => cell0_ne hb' o1 (by decide) (by rw [← e]; exact hg))
  have fx : ∀ v, v ∈ ms → Far v (.slice za x.length zc) := fun v hv g hg e => by
    obtain ⟨j, hj, ej⟩ := List.mem_iff_getElem.1 hv
    have hx : s.q[j]? = some (s.q[j]'(by rw [tv.len]; exact hj)) := List.getElem?_eq_getElem _
    have o1 := tv.msg j v _ (by rw [List.getElem?_eq_getElem hj, ej]) hx
    have h1 := owns_at o1 hg
    have h2 := (owns_blk om e).1
    omega
  refine ⟨va, vc, w', hr, (cell_blk hb' 0).trans rfl, fz_blk hb' 0, ⟨?_, ?_, fun j v y hv hy => ?_, fun j j' v v' hv hv' hne => ?_, wk (ta.smp), fun v hv => ?_⟩, set_blk hb' 0 _, ?_⟩
  · have e1 : (ms ++ [Value.slice za x.length zc]).length = k + 1 := by rw [List.length_append, hk]; rfl
    rw [e1]
    exact kt.owns own1 (fun g hg e => cell0_ne hb' own1 (by decide) (by rw [← e]; exact hg))
  · show (s.q ++ [x]).length = _
    rw [List.length_append, List.length_append, tv.len]; rfl
  · rcases get_snoc hv with ⟨hv, hj⟩ | ⟨rfl, rfl⟩
    · have hy' : s.q[j]? = some y := by
        have : (s.q ++ [x])[j]? = some y := hy
        rwa [List.getElem?_append_left (by rw [tv.len]; exact hj)] at this
      exact wk (ta.msg j v y hv hy')
    · have hy' : (s.q ++ [x])[ms.length]? = some y := hy
      rw [← tv.len, List.getElem?_append_right (Nat.le_refl _)] at hy'
      simp at hy'
      subst hy'
      exact owns_base (wk omx) (by omega)
  · rcases get_snoc hv with ⟨hv, hj⟩ | ⟨rfl, rfl⟩
    · rcases get_snoc hv' with ⟨hv', hj'⟩ | ⟨rfl, rfl⟩
      · exact tv.far j j' v v' hv hv' hne
      · exact fx v (List.mem_of_getElem? hv)
    · rcases get_snoc hv' with ⟨hv', hj'⟩ | ⟨rfl, rfl⟩
      · exact (fx v' (List.mem_of_getElem? hv')).symm
      · exact absurd rfl hne
  · rcases List.mem_append.1 hv with hv | hv
    · exact tv.sfar v hv
    · simp at hv
      subst hv
      intro g hg e
      have h1 := owns_at tv.smp e
      have h2 := (owns_blk om hg).1
      omega
  · exact ((ka.mono (fun _ e => e.elim)).trans kg (fun j e => .inl (owns_blk hque e).1)).trans kt (fun j e => .inl (by rw [e]; exact hts))
set_option maxHeartbeats 8000000 in
theorem tell_any {B : Nat} {e : En} (w : World) (h : Ep w B e) (hl : e.ms.length ≤ 1048576) (hx : ∀ x, x ∈ e.xs → x.length ≤ 1048576) (hs : e.sx.length ≤ 1048576) :
    Calls Try.prog 49 #[.pointer (some ⟨e.eb, 0, none⟩)] w fun r w' => ∃ qa qn qc da dn dc ms, r = .returned (.agg #[.slice qa qn qc, .bool e.has, .int .i64 e.tk, .slice da dn dc, .int .i64 e.lost]) ∧ qn = e.ms.length ∧ Tv w.heap.size w' (.slice qa qn qc) ms (.slice da dn dc) e.ps ∧ Kept No w w' := by
  have K1 : Kept No w (w.alloc (.cells #[.slice none 0 0, .bool false, .int .i64 0, .slice none 0 0, .int .i64 0] 61)) := (Kept.refl No w).alloc _
  have B1 := alloc_new w (.cells #[.slice none 0 0, .bool false, .int .i64 0, .slice none 0 0, .int .i64 0] 61)
  have h1 := h.keep K1
  obtain ⟨sa, sc, esv, hz⟩ := Zs.of_owns h1.smp
  have CS : Hid (∀ W, Kept No (w.alloc (.cells #[.slice none 0 0, .bool false, .int .i64 0, .slice none 0 0, .int .i64 0] 61)) W → Calls Try.prog 59 #[.agg #[.bool e.has, .int .i64 e.tk, .slice sa e.sx.length sc]] W fun r w' => ∃ ya yc, r = .returned (.agg #[.bool e.has, .int .i64 e.tk, .slice ya e.sx.length yc]) ∧ w'.ownsRow W.heap.size 2 1 (.slice ya e.sx.length yc) e.sx.length (e.sx.map iv) ∧ Kept No W w') := fun W kW => copySample_any W e.has e.tk (hz.kept kW (fun _ _ e => e)) hs
  have e7 : (w.alloc (.cells #[.slice none 0 0, .bool false, .int .i64 0, .slice none 0 0, .int .i64 0] 61)).cell? ⟨e.eb, 7, none⟩ = some (.bool e.has) := (h1.cell 7).trans rfl
  have e8 : (w.alloc (.cells #[.slice none 0 0, .bool false, .int .i64 0, .slice none 0 0, .int .i64 0] 61)).cell? ⟨e.eb, 8, none⟩ = some (.int .i64 e.tk) := (h1.cell 8).trans rfl
  have e9 : (w.alloc (.cells #[.slice none 0 0, .bool false, .int .i64 0, .slice none 0 0, .int .i64 0] 61)).cell? ⟨e.eb, 9, none⟩ = some (.slice sa e.sx.length sc) := (h1.cell 9).trans (by rw [← esv]; rfl)
  have e10 : (w.alloc (.cells #[.slice none 0 0, .bool false, .int .i64 0, .slice none 0 0, .int .i64 0] 61)).cell? ⟨e.eb, 10, none⟩ = some (.int .i64 e.lost) := (h1.cell 10).trans rfl
  have HE : Hid (Ep (w.alloc (.cells #[.slice none 0 0, .bool false, .int .i64 0, .slice none 0 0, .int .i64 0] 61)) B e ∧ Kept No w (w.alloc (.cells #[.slice none 0 0, .bool false, .int .i64 0, .slice none 0 0, .int .i64 0] 61)) ∧ (w.alloc (.cells #[.slice none 0 0, .bool false, .int .i64 0, .slice none 0 0, .int .i64 0] 61)).heap[w.heap.size]? = some (.cells #[.slice none 0 0, .bool false, .int .i64 0, .slice none 0 0, .int .i64 0] 61)) := ⟨h1, K1, B1⟩
  have S1 : Hid (w.heap.size < (w.alloc (.cells #[.slice none 0 0, .bool false, .int .i64 0, .slice none 0 0, .int .i64 0] 61)).heap.size) := heap_lt B1
  have HX := hid (And.intro hx hl)
  clear K1 B1 h1 hz esv h hx hl
  go_enter Try.func49, Try.ntmps49
  go_upto_region 1 with fail
  generalize w.alloc (.cells #[.slice none 0 0, .bool false, .int .i64 0, .slice none 0 0, .int .i64 0] 61) = w1 at *
  go_cut [3] (fun x wd => ∃ (tb : Nat) (ya : Option Addr) (yc : Nat), x = .pointer (some ⟨tb, 0, none⟩) ∧ wd.heap[tb]? = some (.cells #[.slice none 0 0, .bool e.has, .int .i64 e.tk, .slice ya e.sx.length yc, .int .i64 e.lost] 61) ∧ w1.heap.size ≤ tb ∧ wd.ownsRow w1.heap.size 2 1 (.slice ya e.sx.length yc) e.sx.length (e.sx.map iv) ∧ Kept No w1 wd)
  case first =>
    refine wp_region_held_drew (S := fun W => Kept No w1 W) (by kernel_rfl) ((Kept.refl No w1).drew) (fun hS => ?_)
    refine d_take 0 6 rfl rfl (by kernel_rfl) (by kernel_rfl) (by kernel_rfl) (fun _ _ _ h => h) rfl (fun w' hw' => er_mv _ rfl (.pointer (some ⟨e.eb, 0, none⟩)) rfl) hS ?_
    simp only [Act.put, List.setIfInBounds_toArray, List.set_cons_zero, List.set_cons_succ]
    refine d_take 1 7 rfl rfl (by kernel_rfl) (by kernel_rfl) (by kernel_rfl) (fun _ _ _ h => h) rfl (fun w' hw' => er_nil _ rfl ⟨e.eb, 0, none⟩ rfl) hS ?_
    simp only [Act.put, List.setIfInBounds_toArray, List.set_cons_zero, List.set_cons_succ]
    refine d_take 2 8 rfl rfl (by kernel_rfl) (by kernel_rfl) (by kernel_rfl) (fun _ _ _ h => h) rfl (fun w' hw' => er_fE1 _ rfl e.eb 0 rfl) hS ?_
    simp only [Act.put, List.setIfInBounds_toArray, List.set_cons_zero, List.set_cons_succ]
    refine d_take 3 9 rfl rfl (by kernel_rfl) (by kernel_rfl) (by kernel_rfl) (fun _ _ _ h => h) rfl (fun w' hw' => er_fS1 _ rfl e.eb (0 + 6) rfl) hS ?_
    simp only [Act.put, List.setIfInBounds_toArray, List.set_cons_zero, List.set_cons_succ]
    refine d_take 4 10 rfl rfl (by kernel_rfl) (by kernel_rfl) (by kernel_rfl) (fun _ _ _ h => h) rfl (fun w' hw' => er_ld3S _ rfl e.eb (0 + 6 + 1) (.bool e.has) (.int .i64 e.tk) (.slice sa e.sx.length sc) rfl (hw'.cell e7 (fun e => e)) (hw'.cell e8 (fun e => e)) (hw'.cell e9 (fun e => e))) hS ?_
    simp only [Act.put, List.setIfInBounds_toArray, List.set_cons_zero, List.set_cons_succ]
    refine d_take 6 12 rfl rfl (by kernel_rfl) (by kernel_rfl) (by kernel_rfl) (fun _ _ _ h => h) rfl (fun w' hw' => er_mv _ rfl (.pointer (some ⟨e.eb, 0, none⟩)) rfl) hS ?_
    simp only [Act.put, List.setIfInBounds_toArray, List.set_cons_zero, List.set_cons_succ]
    refine d_take 7 13 rfl rfl (by kernel_rfl) (by kernel_rfl) (by kernel_rfl) (fun _ _ _ h => h) rfl (fun w' hw' => er_nil _ rfl ⟨e.eb, 0, none⟩ rfl) hS ?_
    simp only [Act.put, List.setIfInBounds_toArray, List.set_cons_zero, List.set_cons_succ]
    refine d_take 8 14 rfl rfl (by kernel_rfl) (by kernel_rfl) (by kernel_rfl) (fun _ _ _ h => h) rfl (fun w' hw' => er_fE1 _ rfl e.eb 0 rfl) hS ?_
    simp only [Act.put, List.setIfInBounds_toArray, List.set_cons_zero, List.set_cons_succ]
    refine d_take 9 15 rfl rfl (by kernel_rfl) (by kernel_rfl) (by kernel_rfl) (fun _ _ _ h => h) rfl (fun w' hw' => er_fS2 _ rfl e.eb (0 + 6) rfl) hS ?_
    simp only [Act.put, List.setIfInBounds_toArray, List.set_cons_zero, List.set_cons_succ]
    refine d_take 10 16 rfl rfl (by kernel_rfl) (by kernel_rfl) (by kernel_rfl) (fun _ _ _ h => h) rfl (fun w' hw' => er_ldi _ rfl e.eb (0 + 6 + 4) (.int .i64 e.lost) rfl (hw'.cell e10 (fun e => e))) hS ?_
    simp only [Act.put, List.setIfInBounds_toArray, List.set_cons_zero, List.set_cons_succ]
    have CX : ∀ W, Kept No w1 W → Calls Try.prog 59 #[.agg #[.bool e.has, .int .i64 e.tk, .slice sa e.sx.length sc]] W fun r w' => ∃ u, r = .returned u ∧ Kept No w1 w' ∧ ∃ ya yc, u = .agg #[.bool e.has, .int .i64 e.tk, .slice ya e.sx.length yc] ∧ w'.ownsRow W.heap.size 2 1 (.slice ya e.sx.length yc) e.sx.length (e.sx.map iv) ∧ Kept No W w' := fun W kW => (CS.out W kW).mono (by
      rintro r w' ⟨ya, yc, rfl, o, k⟩
      exact ⟨_, rfl, kW.trans k (fun _ e => .inl e), ya, yc, rfl, o, k⟩)
    refine d_ca _ 5 11 12 3 (by kernel_rfl) rfl rfl rfl rfl rfl rfl (er_cCs _ _ rfl (.agg #[.bool e.has, .int .i64 e.tk, .slice sa e.sx.length sc]) rfl) (er_alS rfl) (CX _ hS) (hS.alloc _) ?_ ?_
    · rintro u wx hx ⟨ya, yc, rfl, ox, _⟩
      simp only [Act.put, List.setIfInBounds_toArray, List.set_cons_zero, List.set_cons_succ]
      refine d_take 11 17 rfl rfl (by kernel_rfl) (by kernel_rfl) (by kernel_rfl) (fun _ _ _ h => h) rfl (fun w' hw' => er_build 61 _ rfl _ (by kernel_rfl) _ (built_s e.has e.tk e.lost ya e.sx.length yc)) hx ?_
      simp only [Act.put, List.setIfInBounds_toArray, List.set_cons_zero, List.set_cons_succ]
      refine d_make 12 3 (by kernel_rfl) rfl rfl rfl (er_alS rfl) (hx.alloc _) ?_
      simp only [Act.put, List.setIfInBounds_toArray, List.set_cons_zero, List.set_cons_succ]
      have hal := alloc_new wx (.cells #[.slice none 0 0, .bool false, .int .i64 0, .slice none 0 0, .int .i64 0] 61)
      have hs1 := hx.size
      have hs0 := hS.size
      have kS : Kept No w1 ((wx.alloc (.cells #[.slice none 0 0, .bool false, .int .i64 0, .slice none 0 0, .int .i64 0] 61)).setRow wx.heap.size #[.slice none 0 0, .bool e.has, .int .i64 e.tk, .slice ya e.sx.length yc, .int .i64 e.lost]) := (hx.alloc _).setRow (.inr hs1) _
      refine d_turn 13 (by kernel_rfl) rfl rfl rfl (er_st5 _ _ rfl wx.heap.size #[.slice none 0 0, .bool e.has, .int .i64 e.tk, .slice ya e.sx.length yc, .int .i64 e.lost] #[.slice none 0 0, .bool false, .int .i64 0, .slice none 0 0, .int .i64 0] rfl rfl hal rfl rfl (by simp [Value.oneCell'])) kS ?_
      refine wpAnyH_done (by kernel_rfl) ?_ _
      have kq : Kept No wx ((wx.alloc (.cells #[.slice none 0 0, .bool false, .int .i64 0, .slice none 0 0, .int .i64 0] 61)).setRow wx.heap.size #[.slice none 0 0, .bool e.has, .int .i64 e.tk, .slice ya e.sx.length yc, .int .i64 e.lost]) := ((Kept.refl No wx).alloc _).setRow (.inr (Nat.le_refl _)) _
      have FI := hid (And.intro (setRow_heap _ wx.heap.size _ #[.slice none 0 0, .bool e.has, .int .i64 e.tk, .slice ya e.sx.length yc, .int .i64 e.lost] 61 (0, 0) hal) (And.intro hs1 (And.intro (owns_base (kq.owns ox (fun _ _ e => e)) hs0) kS)))
      clear kq kS hal ox hx hS
      go_wp2
      go_meet
      exact ⟨_, ya, yc, rfl, FI.out⟩
    · simp only [Act.put, List.setIfInBounds_toArray, List.set_cons_zero, List.set_cons_succ]
      have ka := hS.alloc (.cells #[.slice none 0 0, .bool false, .int .i64 0, .slice none 0 0, .int .i64 0] 61)
      refine d_callN _ 5 11 (by kernel_rfl) rfl rfl rfl (er_cCs _ _ rfl (.agg #[.bool e.has, .int .i64 e.tk, .slice sa e.sx.length sc]) rfl) ((CX _ ka).mono (fun r w' q => by obtain ⟨u, h1, h2, h3⟩ := q; exact ⟨u, h1, h2, h3⟩)) ?_
      rintro u wx hx ⟨ya, yc, rfl, ox, kx⟩
      simp only [Act.put, List.setIfInBounds_toArray, List.set_cons_zero, List.set_cons_succ]
      refine d_take 11 17 rfl rfl (by kernel_rfl) (by kernel_rfl) (by kernel_rfl) (fun _ _ _ h => h) rfl (fun w' hw' => er_build 61 _ rfl _ (by kernel_rfl) _ (built_s e.has e.tk e.lost ya e.sx.length yc)) hx ?_
      simp only [Act.put, List.setIfInBounds_toArray, List.set_cons_zero, List.set_cons_succ]
      have hal := kx.at' (alloc_new w1.drew (.cells #[.slice none 0 0, .bool false, .int .i64 0, .slice none 0 0, .int .i64 0] 61)) (fun e => e)
      have hs0 : w1.heap.size ≤ w1.drew.heap.size := hS.size
      have hs2 : w1.drew.heap.size + 1 = (w1.drew.alloc (.cells #[.slice none 0 0, .bool false, .int .i64 0, .slice none 0 0, .int .i64 0] 61)).heap.size := by rw [World.size_alloc]
      have kS : Kept No w1 (wx.setRow w1.drew.heap.size #[.slice none 0 0, .bool e.has, .int .i64 e.tk, .slice ya e.sx.length yc, .int .i64 e.lost]) := hx.setRow (.inr hs0) _
      refine d_turn 13 (by kernel_rfl) rfl rfl rfl (er_st5 _ _ rfl w1.drew.heap.size #[.slice none 0 0, .bool e.has, .int .i64 e.tk, .slice ya e.sx.length yc, .int .i64 e.lost] #[.slice none 0 0, .bool false, .int .i64 0, .slice none 0 0, .int .i64 0] rfl rfl hal rfl rfl (by simp [Value.oneCell'])) kS ?_
      refine wpAnyH_done (by kernel_rfl) ?_ _
      have kq : Kept (fun k => k = w1.drew.heap.size) wx (wx.setRow w1.drew.heap.size #[.slice none 0 0, .bool e.has, .int .i64 e.tk, .slice ya e.sx.length yc, .int .i64 e.lost]) := (Kept.refl (fun k => k = w1.drew.heap.size) wx).setRow (.inl rfl) _
      have FI := hid (And.intro (setRow_heap _ w1.drew.heap.size _ #[.slice none 0 0, .bool e.has, .int .i64 e.tk, .slice ya e.sx.length yc, .int .i64 e.lost] 61 (0, 0) hal) (And.intro hs0 (And.intro (owns_base (kq.owns ox (fun g hg e => by have := (owns_blk ox hg).1; omega)) (show w1.heap.size ≤ _ by omega)) kS)))
      clear kq kS hal ox hx hS kx ka hs0 hs2
      go_wp2
      go_meet
      exact ⟨_, ya, yc, rfl, FI.out⟩
  case rest =>
  rename World => w4
  obtain ⟨tb, ya, yc, rfl, hb, htb, hso, kd⟩ := hcut
  have hE4 := HE.out.1.keep kd
  obtain ⟨ia, ic, hia, hic1, hic2⟩ := hE4.que.shape
  have e6 : w4.cell? ⟨e.eb, 6, none⟩ = some (.slice ia e.ms.length ic) := (hE4.cell 6).trans (by show some e.it = _; rw [hia])
  have H4 := hid (And.intro hb (And.intro htb (And.intro hso kd)))
  clear hb htb hso kd hE4 CS e7 e8 e9 e10
  have hms := HX.out.2
  obtain ⟨n, hn⟩ : ∃ n, n = e.ms.length := ⟨_, rfl⟩
  rw [← hn] at e6 hic1 hms
  have HN := hid hn
  have HIA := hid hia
  clear hn hia
  go_wp2
  go_loopw [24] (fun i wr => ∃ (k : Nat) (qa : Option Addr) (qc : Nat) (ms : List Value), k ≤ n ∧ i = .int .i64 k ∧ ms.length = k ∧ wr.heap[tb]? = some (.cells #[.slice qa k qc, .bool e.has, .int .i64 e.tk, .slice ya e.sx.length yc, .int .i64 e.lost] 61) ∧ Tv w1.heap.size wr (.slice qa k qc) ms (.slice ya e.sx.length yc) ⟨e.xs.take k, e.has, e.tk, e.sx, e.lost⟩ ∧ Kept No w1 wr) (fun i _ => n - (intOf i).toNat)
  case atStart =>
    exact ⟨0, none, 0, [], Nat.zero_le _, rfl, rfl, H4.out.1, ⟨World.ownsRow_nil _ _ _ _, rfl, fun j v x hv => (by cases hv), fun j j' v v' hv => (by cases hv), H4.out.2.2.1, fun v hv => (by cases hv)⟩, H4.out.2.2.2⟩
  case round =>
    clear e6
    obtain ⟨k, qa, qc, ms, hk, rfl, hml, hb, tv, kr⟩ := hrel
    by_cases hlt : k < n
    · have hltz : (k : Int) < (n : Int) := by omega
      have hE := HE.out.1.keep kr
      have hkm : k < e.ms.length := by rw [← HN.out]; exact hlt
      obtain ⟨x, hx, ow⟩ := hE.at_msg (j := k) (List.getElem?_eq_getElem hkm)
      obtain ⟨gq, oq, cap, hit, _, _, _, hcell, _⟩ := hE.que.look (List.getElem?_eq_getElem hkm)
      have hv := HIA.out
      rw [hit] at hv
      injection hv with hv1 _ hv3
      subst hv1 hv3
      obtain ⟨xa, xc, ev, zx⟩ := Zs.of_owns ow
      have cz : wr.cell? ⟨gq, oq + k, none⟩ = some (.slice xa x.length xc) := by rw [hcell, ev]
      have hxl : x.length ≤ 1048576 := HX.out.1 x (List.mem_of_getElem? hx)
      have CW : Hid (∀ W, Kept No wr W → Calls Try.prog 31 #[.slice xa x.length xc] W fun r w' => ∃ u, r = .returned u ∧ True ∧ ∃ za zc, u = .slice za x.length zc ∧ w'.ownsRow W.heap.size 2 1 (.slice za x.length zc) x.length (x.map iv) ∧ Kept No W w') := fun W kW => (words_any W (zx.kept kW (fun _ _ e => e)) (by omega)).mono (by
        rintro r w' ⟨ya', yc', rfl, o, k'⟩
        exact ⟨_, rfl, trivial, ya', yc', rfl, o, k'⟩)
      have TM := hid (fun W0 W za zc (k0 : Kept No wr W0) (k1 : Kept No W0 W) (om : W.ownsRow W0.heap.size 2 1 (.slice za x.length zc) x.length (x.map iv)) => tv_more (W0 := W0) (W := W) tv hml (by omega) hb kr.size H4.out.2.1 k0 k1 om)
      have TK : Hid (e.xs.take (k + 1) = e.xs.take k ++ [x]) := by
        show e.xs.take (k + 1) = e.xs.take k ++ [x]
        rw [List.take_add_one, hx]
        rfl
      have HML := hid hml
      have KR := hid kr
      have L0 : Hid (∀ W, Kept No wr W → W.cell? ⟨tb, 0, none⟩ = some (.slice qa k qc)) := fun W kW => kW.cell ((cell_blk hb 0).trans rfl) (fun e => e)
      have c0 : wr.drew.cell? ⟨tb, 0, none⟩ = some (.slice qa k qc) := L0.out _ (Kept.refl No wr).drew
      clear hE ow hcell hit ev zx hx tv hml hb kr hkm
      go_upto_region 5 with fail
      refine wp_region_held_drew (S := fun _ => True) (by kernel_rfl) trivial (fun hS => ?_)
      refine d_take 0 28 rfl rfl (by kernel_rfl) (by kernel_rfl) (by kernel_rfl) (fun _ _ _ h => h) rfl (fun w' hw' => er_fS0 _ rfl tb 0 rfl) trivial ?_
      simp only [Act.put, List.setIfInBounds_toArray, List.set_cons_zero, List.set_cons_succ]
      refine d_take 2 30 rfl rfl (by kernel_rfl) (by kernel_rfl) (by kernel_rfl) (fun _ _ _ h => h) rfl (fun w' hw' => er_mv _ rfl (.slice xa x.length xc) rfl) trivial ?_
      simp only [Act.put, List.setIfInBounds_toArray, List.set_cons_zero, List.set_cons_succ]
      refine d_rc _ 1 29 3 31 (by kernel_rfl) rfl rfl rfl rfl rfl rfl (er_ldLL _ rfl tb 0 (.slice qa k qc) rfl c0) (er_c_copy _ _ rfl (.slice xa x.length xc) rfl) (CW.out _ (Kept.refl No wr).drew) trivial ?_ ?_
      · simp only [Act.put, List.setIfInBounds_toArray, List.set_cons_zero, List.set_cons_succ]
        refine d_callN _ 3 31 (by kernel_rfl) rfl rfl rfl (er_c_copy _ _ rfl (.slice xa x.length xc) rfl) (CW.out _ (Kept.refl No wr).drew) ?_
        rintro u wx _ ⟨za, zc, rfl, ox, kx⟩
        have OX := hid ox
        have KX := hid kx
        have K0 : Kept No wr wr.drew := (Kept.refl No wr).drew
        clear ox kx
        simp only [Act.put, List.setIfInBounds_toArray, List.set_cons_zero, List.set_cons_succ]
        refine d_make 4 32 (by kernel_rfl) rfl rfl rfl (er_bsL _ rfl za x.length zc rfl) trivial ?_
        simp only [Act.put, List.setIfInBounds_toArray, List.set_cons_zero, List.set_cons_succ]
        obtain ⟨va, vc, w', hr, c', f', tv', hb', kk'⟩ := TM.out _ wx za zc K0 KX.out OX.out
        refine d_make 5 33 (by kernel_rfl) rfl rfl rfl (er_appL _ _ rfl (.slice qa k qc) (.slice (some ⟨wx.heap.size, 0, none⟩) 1 1) rfl rfl _ _ rfl hr) trivial ?_
        simp only [Act.put, List.setIfInBounds_toArray, List.set_cons_zero, List.set_cons_succ]
        refine d_take 6 34 rfl rfl (by kernel_rfl) (by kernel_rfl) (by kernel_rfl) (fun _ _ _ h => h) rfl (fun w' hw' => er_fS0 _ rfl tb 0 rfl) trivial ?_
        simp only [Act.put, List.setIfInBounds_toArray, List.set_cons_zero, List.set_cons_succ]
        refine d_turn 7 (by kernel_rfl) rfl rfl rfl (er_stLL _ _ rfl tb 0 (.slice qa k qc) va (k + 1) vc rfl rfl c' f') trivial ?_
        refine wpAnyH_done (by kernel_rfl) ?_ _
        have HF := hid (And.intro hb' (And.intro tv' kk'))
        clear hr c' f' tv' hb' kk' OX KX K0
        go_wp2
        refine ⟨⟨k + 1, va, vc, ms ++ [.slice za x.length zc], by omega, by go_num, by rw [List.length_append, HML.out]; rfl, HF.out.1, by rw [TK.out]; exact HF.out.2.1, KR.out.trans HF.out.2.2 (fun j e => .inr e)⟩, ?_⟩
        simp [intOf]; omega
      · rintro u wx _ ⟨za, zc, rfl, ox, kx⟩
        have OX := hid ox
        have KX := hid kx
        have K0 : Kept No wr wr.drew := (Kept.refl No wr).drew
        clear ox kx
        simp only [Act.put, List.setIfInBounds_toArray, List.set_cons_zero, List.set_cons_succ]
        refine d_pair 1 29 4 32 (by kernel_rfl) rfl rfl rfl rfl rfl rfl (er_ldLL _ rfl tb 0 (.slice qa k qc) rfl (L0.out _ (K0.trans KX.out (fun _ e => e.elim)))) (er_bsL _ rfl za x.length zc rfl) trivial trivial ?_ ?_
        · simp only [Act.put, List.setIfInBounds_toArray, List.set_cons_zero, List.set_cons_succ]
          refine d_make 4 32 (by kernel_rfl) rfl rfl rfl (er_bsL _ rfl za x.length zc rfl) trivial ?_
          simp only [Act.put, List.setIfInBounds_toArray, List.set_cons_zero, List.set_cons_succ]
          obtain ⟨va, vc, w', hr, c', f', tv', hb', kk'⟩ := TM.out _ wx za zc K0 KX.out OX.out
          refine d_make 5 33 (by kernel_rfl) rfl rfl rfl (er_appL _ _ rfl (.slice qa k qc) (.slice (some ⟨wx.heap.size, 0, none⟩) 1 1) rfl rfl _ _ rfl hr) trivial ?_
          simp only [Act.put, List.setIfInBounds_toArray, List.set_cons_zero, List.set_cons_succ]
          refine d_take 6 34 rfl rfl (by kernel_rfl) (by kernel_rfl) (by kernel_rfl) (fun _ _ _ h => h) rfl (fun w' hw' => er_fS0 _ rfl tb 0 rfl) trivial ?_
          simp only [Act.put, List.setIfInBounds_toArray, List.set_cons_zero, List.set_cons_succ]
          refine d_turn 7 (by kernel_rfl) rfl rfl rfl (er_stLL _ _ rfl tb 0 (.slice qa k qc) va (k + 1) vc rfl rfl c' f') trivial ?_
          refine wpAnyH_done (by kernel_rfl) ?_ _
          have HF := hid (And.intro hb' (And.intro tv' kk'))
          clear hr c' f' tv' hb' kk' OX KX K0
          go_wp2
          refine ⟨⟨k + 1, va, vc, ms ++ [.slice za x.length zc], by omega, by go_num, by rw [List.length_append, HML.out]; rfl, HF.out.1, by rw [TK.out]; exact HF.out.2.1, KR.out.trans HF.out.2.2 (fun j e => .inr e)⟩, ?_⟩
          simp [intOf]; omega
        · simp only [Act.put, List.setIfInBounds_toArray, List.set_cons_zero, List.set_cons_succ]
          refine d_read 1 29 (by kernel_rfl) rfl rfl rfl (er_ldLL _ rfl tb 0 (.slice qa k qc) rfl (L0.out _ ((K0.trans KX.out (fun _ e => e.elim)).alloc _))) trivial ?_
          simp only [Act.put, List.setIfInBounds_toArray, List.set_cons_zero, List.set_cons_succ]
          obtain ⟨va, vc, w', hr, c', f', tv', hb', kk'⟩ := TM.out _ wx za zc K0 KX.out OX.out
          refine d_make 5 33 (by kernel_rfl) rfl rfl rfl (er_appL _ _ rfl (.slice qa k qc) (.slice (some ⟨wx.heap.size, 0, none⟩) 1 1) rfl rfl _ _ rfl hr) trivial ?_
          simp only [Act.put, List.setIfInBounds_toArray, List.set_cons_zero, List.set_cons_succ]
          refine d_take 6 34 rfl rfl (by kernel_rfl) (by kernel_rfl) (by kernel_rfl) (fun _ _ _ h => h) rfl (fun w' hw' => er_fS0 _ rfl tb 0 rfl) trivial ?_
          simp only [Act.put, List.setIfInBounds_toArray, List.set_cons_zero, List.set_cons_succ]
          refine d_turn 7 (by kernel_rfl) rfl rfl rfl (er_stLL _ _ rfl tb 0 (.slice qa k qc) va (k + 1) vc rfl rfl c' f') trivial ?_
          refine wpAnyH_done (by kernel_rfl) ?_ _
          have HF := hid (And.intro hb' (And.intro tv' kk'))
          clear hr c' f' tv' hb' kk' OX KX K0
          go_wp2
          refine ⟨⟨k + 1, va, vc, ms ++ [.slice za x.length zc], by omega, by go_num, by rw [List.length_append, HML.out]; rfl, HF.out.1, by rw [TK.out]; exact HF.out.2.1, KR.out.trans HF.out.2.2 (fun j e => .inr e)⟩, ?_⟩
          simp [intOf]; omega
    · have hltz : ¬ (k : Int) < (n : Int) := by omega
      obtain rfl : k = n := by omega
      have t0 : wr.cell? ⟨tb, 0, none⟩ = some (.slice qa k qc) := (cell_blk hb 0).trans rfl
      have t1 : wr.cell? ⟨tb, 1, none⟩ = some (.bool e.has) := (cell_blk hb 1).trans rfl
      have t2 : wr.cell? ⟨tb, 2, none⟩ = some (.int .i64 e.tk) := (cell_blk hb 2).trans rfl
      have t3 : wr.cell? ⟨tb, 3, none⟩ = some (.slice ya e.sx.length yc) := (cell_blk hb 3).trans rfl
      have t4 : wr.cell? ⟨tb, 4, none⟩ = some (.int .i64 e.lost) := (cell_blk hb 4).trans rfl
      have hR := kr.at' HE.out.2.2 (fun e => e)
      have r0 : wr.cell? ⟨w.heap.size, 0, none⟩ = some (.slice none 0 0) := (cell_blk hR 0).trans rfl
      have r1 : wr.cell? ⟨w.heap.size, 1, none⟩ = some (.bool false) := (cell_blk hR 1).trans rfl
      have r2 : wr.cell? ⟨w.heap.size, 2, none⟩ = some (.int .i64 0) := (cell_blk hR 2).trans rfl
      have r3 : wr.cell? ⟨w.heap.size, 3, none⟩ = some (.slice none 0 0) := (cell_blk hR 3).trans rfl
      have r4 : wr.cell? ⟨w.heap.size, 4, none⟩ = some (.int .i64 0) := (cell_blk hR 4).trans rfl
      have f0 := fz_blk hR 0
      have f1 := fz_blk hR 1
      have f2 := fz_blk hR 2
      have f3 := fz_blk hR 3
      have f4 := fz_blk hR 4
      have HT := hid (And.intro tv (And.intro kr (And.intro hR hml)))
      clear tv kr hR hb hml
      go_wp2
      have kq : Kept (fun k => k = w.heap.size) wr (((((wr.setCell ⟨w.heap.size, 0, none⟩ (.slice qa k qc)).setCell ⟨w.heap.size, 1, none⟩ (.bool e.has)).setCell ⟨w.heap.size, 2, none⟩ (.int .i64 e.tk)).setCell ⟨w.heap.size, 3, none⟩ (.slice ya e.sx.length yc)).setCell ⟨w.heap.size, 4, none⟩ (.int .i64 e.lost)) := ((((((Kept.refl (fun k => k = w.heap.size) wr).setCell (p := ⟨w.heap.size, 0, none⟩) (.inl rfl) _).setCell (p := ⟨w.heap.size, 1, none⟩) (.inl rfl) _).setCell (p := ⟨w.heap.size, 2, none⟩) (.inl rfl) _).setCell (p := ⟨w.heap.size, 3, none⟩) (.inl rfl) _).setCell (p := ⟨w.heap.size, 4, none⟩) (.inl rfl) _)
      have hfin : (((((wr.setCell ⟨w.heap.size, 0, none⟩ (.slice qa k qc)).setCell ⟨w.heap.size, 1, none⟩ (.bool e.has)).setCell ⟨w.heap.size, 2, none⟩ (.int .i64 e.tk)).setCell ⟨w.heap.size, 3, none⟩ (.slice ya e.sx.length yc)).setCell ⟨w.heap.size, 4, none⟩ (.int .i64 e.lost)).heap[w.heap.size]? = some (.cells #[.slice qa k qc, .bool e.has, .int .i64 e.tk, .slice ya e.sx.length yc, .int .i64 e.lost] 61) := set_blk (set_blk (set_blk (set_blk (set_blk HT.out.2.2.1 0 _) 1 _) 2 _) 3 _) 4 _
      refine bodyPost_ret (results_cell_row rfl _ _ w.heap.size 61 #[.slice qa k qc, .bool e.has, .int .i64 e.tk, .slice ya e.sx.length yc, .int .i64 e.lost] (0, 0) _ rfl hfin Try.underlying61 rfl (by kernel_rfl)) rfl ?_
      have s1 := S1.out
      have tv := HT.out.1
      have nb : ∀ {t n : Nat} {v : Value} {ys : List Value}, wr.ownsRow w1.heap.size t 1 v n ys → ∀ g, v.ownBlock = some g → ¬ g = w.heap.size := fun ho g hg e => by have := (owns_blk ho hg).1; omega
      have kl : e.xs.take k = e.xs := List.take_of_length_le (by rw [HE.out.1.len, ← HN.out]; exact Nat.le_refl _)
      rw [kl] at tv
      refine ⟨qa, k, qc, ya, _, yc, rfl, HN.out, ⟨ms, owns_base (kq.owns tv.que (nb tv.que)) (by omega), tv.len, fun j v x hv hx => owns_base (kq.owns (tv.msg j v x hv hx) (nb (tv.msg j v x hv hx))) (by omega), tv.far, owns_base (kq.owns tv.smp (nb tv.smp)) (by omega), tv.sfar⟩, (HE.out.2.1.trans HT.out.2.1 (fun _ e => .inl e)).trans kq (fun j e => .inr (by rw [e]; exact Nat.le_refl _))⟩
end Go.Proofs.Ythebokkogeigoaa
