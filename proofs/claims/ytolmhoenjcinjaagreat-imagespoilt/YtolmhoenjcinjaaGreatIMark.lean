/-
  The closure that marks where a section begins.
-/
import Derived.Test.YtolmhoenjcinjaaGreatIHeld
import Derived.Laws.AppendOwnNone
namespace Go.Proofs.YtolmhoenjcinjaaGreat
open Go.RowKit
set_option linter.unusedVariables false
set_option maxRecDepth 100000

section
variable {P : Program} {md : Region.Mode} {ops : Array Oper} {Q : Exit → Act → World → Prop} {S : World → Prop} {fuel : Nat} {listed : Array Bool} {a : Act} {w : World}
/-- a load and a call may come up: both orders -/
theorem d_twoR (T : World → Prop) (j l i k : Nat) {oi oj : Oper} {f : FuncId} {args : Array Value} {v u : Value} (hr : Region.ready md ops listed = [j, i]) (hj : ops[j]? = some oj) (hi : ops[i]? = some oi) (hdj : oj.dst = some l) (hd : oi.dst = some k) (hwj : Region.wanted oj (yielded ops a.tmps) = true) (hw : Region.wanted oi (yielded ops a.tmps) = true) (hrunj : (execOp a.eval oj).run P w = .ok (.value u) w) (hrun : (execOp a.eval oi).run P w = .ok (.enter f args) w)
    (hc : Calls P f args w fun e w'' => e = .returned v ∧ S w'' ∧ T w'') (hS : S w) (h' : wpAnyH P md ops Q S fuel (listed.setIfInBounds j true) (a.put (some l) u) w) (h : ∀ w'', S w'' → T w'' → wpAnyH P md ops Q S fuel (listed.setIfInBounds i true) (a.put (some k) v) w'') : wpAnyH P md ops Q S (fuel + 1) listed a w := by
  refine wpAnyH_ready hr (by simp) (AllReadyH.cons hj (fun K hK => ?_) (AllReadyH.cons hi (fun K hK => ?_) AllReadyH.nil))
  · rw [if_pos hwj]
    unfold Oper.wp
    rw [hrunj]
    exact hK.out _ _ hS (fun _ => by rw [hdj]; exact h')
  · rw [if_pos hw]
    unfold Oper.wp
    rw [hrun]
    refine hc.mono ?_
    rintro e w'' ⟨rfl, hS, hT⟩
    exact hK.out _ _ hS (fun _ => by rw [hd]; exact h w'' hS hT)
end
section
variable {o : Oper} {a : Act} {w : World}
theorem er_ld27 (x : Operand) (ho : o.op = .load 27 x) (g off : Nat) (v : Value) (hx : a.eval x = .pointer (some ⟨g, off, none⟩)) (hc : w.cell? ⟨g, off, none⟩ = some v) : (execOp a.eval o).run Tryz.prog w = .ok (.value v) w := by
  simp only [execOp, ho, hx]; simp [go_sem, hc]
theorem er_ld39 (x : Operand) (ho : o.op = .load 39 x) (g off : Nat) (v : Value) (hx : a.eval x = .pointer (some ⟨g, off, none⟩)) (hc : w.cell? ⟨g, off, none⟩ = some v) : (execOp a.eval o).run Tryz.prog w = .ok (.value v) w := by
  simp only [execOp, ho, hx]; simp [go_sem, hc]
theorem er_ldR (x : Operand) (ho : o.op = .load 115 x) (g off : Nat) (v : Value) (hx : a.eval x = .pointer (some ⟨g, off, none⟩)) (hc : w.cell? ⟨g, off, none⟩ = some v) : (execOp a.eval o).run Tryz.prog w = .ok (.value v) w := by
  simp only [execOp, ho, hx]; simp [go_sem, hc]
theorem er_len27 (x : Operand) (ts : Array TypeId) (ho : o.op = .call { callee := .builtin .len, args := #[x], argTypes := #[27] }) (p : Option Addr) (n c : Nat) (hx : a.eval x = .slice p n c) : (execOp a.eval o).run Tryz.prog w = .ok (.value (.int .i64 n)) w := by
  generalize a.eval = ev at hx ⊢
  simp [execOp, ho, go_sem, hx]
theorem er_add3 (x y : Operand) (t : TypeId) (ho : o.op = .binOp .add 3 x y t) (k l r : Int) (hx : a.eval x = .int .i64 k) (hy : a.eval y = .int .i64 l) (hr : wrap64 (k + l) = r) : (execOp a.eval o).run Tryz.prog w = .ok (.value (.int .i64 r)) w := by
  generalize a.eval = ev at hx hy ⊢
  simp [execOp, ho, go_sem, hx, hy]
  rw [IntKind.wrap_i64]
  unfold wrap64 at hr
  exact hr
theorem er_sub3 (x y : Operand) (t : TypeId) (ho : o.op = .binOp .sub 3 x y t) (k l r : Int) (hx : a.eval x = .int .i64 k) (hy : a.eval y = .int .i64 l) (hr : wrap64 (k - l) = r) : (execOp a.eval o).run Tryz.prog w = .ok (.value (.int .i64 r)) w := by
  generalize a.eval = ev at hx hy ⊢
  simp [execOp, ho, go_sem, hx, hy]
  rw [IntKind.wrap_i64]
  unfold wrap64 at hr
  exact hr
theorem er_bs39 (x : Operand) (ho : o.op = .buildSlice 39 1 #[(0, x)]) (z : Int) (hx : a.eval x = .int .i64 z) : (execOp a.eval o).run Tryz.prog w = .ok (.value (.slice (some ⟨w.heap.size, 0, none⟩) 1 1)) (w.alloc (.cells #[.int .i64 z] 3)) := by
  simp only [execOp, ho, List.map_toArray, List.map_cons, List.map_nil, hx]
  simp [go_sem]
theorem er_app39 (s x : Operand) (ho : o.op = .call { callee := .builtin .append, args := #[s, x], argTypes := #[39, 39] }) (u v r : Value) {w' : World} (hs : a.eval s = u) (hx : a.eval x = v) (hr : (Builtin.append_ #[39, 39] o.type #[u, v]).run Tryz.prog w = .ok r w') : (execOp a.eval o).run Tryz.prog w = .ok (.value r) w' := by
  simp only [execOp, ho, resolve, invoke, builtin, Sem.run_bind, Sem.run_pure, Result.andThen_ok, List.map_toArray, List.map_cons, List.map_nil, hs, hx, hr]
theorem er_st39 (x y : Operand) (ho : o.op = .store 39 x y) (g off : Nat) (u v : Value) (hv : ∃ p n c, v = .slice p n c) (hx : a.eval x = .pointer (some ⟨g, off, none⟩)) (hy : a.eval y = v) (hr : w.cell? ⟨g, off, none⟩ = some u) (hf : w.frozen? ⟨g, off, none⟩ = false) : (execOp a.eval o).run Tryz.prog w = .ok .skip (w.setCell ⟨g, off, none⟩ v) := by
  obtain ⟨p, n, c, rfl⟩ := hv
  simp only [execOp, ho, hx, hy]; simp [go_sem, hr, hf]
end
theorem Tryz.infZ : (Tryz.prog.info? 3).map (fun i => (i.zero, i.size, i.bytes)) = some (some (.int .i64 0), 1, 8) := by kernel_rfl

set_option maxHeartbeats 4000000 in
theorem mark_any (F : Nat → Prop) (p b8 b5 b7 B : Nat) (xs : List Nat) (e : Int) (ba : Option Addr) (bn bc : Nat) (v : Value) (ps : List Int) (w : World) (h : Rd w F p xs e) (hp : Bk w b8 [v] 39) (hb : Bk w b5 [.slice ba bn bc] 27) (hr : Bk w b7 [.pointer (some ⟨p, 0, none⟩)] 115) (hv : w.ownsRow B 3 1 v ps.length (ps.map iv)) (hB : B ≤ w.heap.size) (hl : ps.length ≤ 3) (hbn : bn ≤ 1048576) (hx : xs.length ≤ bn) (hne : v.ownBlock ≠ some b8) (h85 : b8 ≠ b5) (h87 : b8 ≠ b7) :
    Calls Tryz.prog 65 #[.pointer (some ⟨b8, 0, none⟩), .pointer (some ⟨b5, 0, none⟩), .pointer (some ⟨b7, 0, none⟩)] w fun ex w' => ex = .returned (.tuple #[]) ∧ ∃ v', Bk w' b8 [v'] 39 ∧ w'.ownsRow B 3 1 v' (ps.length + 1) ((ps ++ [8 + (bn : Int) - xs.length]).map iv) ∧ Kept (fun k => k = b8 ∨ v.ownBlock = some k) w w' ∧ (v'.ownBlock = v.ownBlock ∨ ∃ g, v'.ownBlock = some g ∧ w.heap.size ≤ g) := by
  obtain ⟨i0, hi, hz0, hz1, hz2⟩ := info_parts Tryz.infZ
  have cl : ∀ w0 : World, Kept No w w0 → Calls Tryz.prog 66 #[.pointer (some ⟨p, 0, none⟩)] w0 fun ex w' => ex = .returned (.int .i64 xs.length) ∧ w' = w0 := fun w0 k0 => left_any F p xs e w0 (h.kept k0 (fun _ _ h => h))
  have e1 : wrap64 (8 + (bn : Int)) = 8 + (bn : Int) := by unfold wrap64; omega
  obtain ⟨z, hz⟩ : ∃ z : Int, z = 8 + (bn : Int) - xs.length := ⟨_, rfl⟩
  have e2 : wrap64 (8 + (bn : Int) - xs.length) = z := by rw [hz]; unfold wrap64; omega
  rw [← hz]
  have kd : Kept No w w.drew := (Kept.refl No w).drew
  have p0 := hp.kept kd (fun h => h)
  have b0 := hb.kept kd (fun h => h)
  have r0 := hr.kept kd (fun h => h)
  have v0 : w.drew.ownsRow B 3 1 v ps.length (ps.map iv) := kd.owns hv (fun _ _ h => h)
  have happ := run_append_own_at (P := Tryz.prog) (w.drew.alloc (.cells #[.int .i64 z] 3)) B 39 39 3 i0 (.int .i64 0) 1 8 Tryz.underlying39 hi hz0 hz1 hz2 rfl (by decide) v ps.length (ps.map iv) (v0.alloc _) ⟨w.drew.heap.size, 0, none⟩ 1 1 [.int .i64 z] rfl (cell_one_new w.drew _ _) (one_one _ _) (by unfold maxLen; omega) (by omega) (by have : w.drew.heap.size = w.heap.size := rfl; simp; omega)
  obtain ⟨v4, w4, hrun4, own4, grow4, _, hat4⟩ := happ
  have k4 : Kept (fun k => v.ownBlock = some k) w.drew w4 := ((Kept.refl (fun k => v.ownBlock = some k) w.drew).alloc _).grown grow4 (fun k hk => .inl hk)
  have p4 := p0.kept k4 hne
  obtain ⟨a4, n4, c4, hv4⟩ : ∃ a n c, v4 = .slice a n c := by
    obtain ⟨_, ⟨rfl, _⟩ | ⟨g, cap, cur, rfl, _⟩⟩ := own4
    · exact ⟨_, _, _, rfl⟩
    · exact ⟨_, _, _, rfl⟩
  subst hv4
  have hne4 : ∀ g, (Value.slice a4 n4 c4).ownBlock = some g → g ≠ b8 := by
    intro g hg e
    subst e
    rcases hat4 with h1 | h1
    · rw [h1] at hg; exact hne hg
    · rw [h1] at hg
      injection hg with hg
      have := p0.lt
      have e3 : (w.drew.alloc (.cells #[.int .i64 z] 3)).heap.size = w.drew.heap.size + 1 := by simp
      omega
  have kset : Kept (fun k => k = b8) w4 (w4.setCell ⟨b8, 0, none⟩ (.slice a4 n4 c4)) := (Kept.refl (fun k => k = b8) w4).setCell (p := ⟨b8, 0, none⟩) (.inl rfl) _
  have HEND : Hid (∃ v', Bk (w4.setCell ⟨b8, 0, none⟩ (.slice a4 n4 c4)) b8 [v'] 39 ∧ (w4.setCell ⟨b8, 0, none⟩ (.slice a4 n4 c4)).ownsRow B 3 1 v' (ps.length + 1) ((ps ++ [z]).map iv) ∧ Kept (fun k => k = b8 ∨ v.ownBlock = some k) w (w4.setCell ⟨b8, 0, none⟩ (.slice a4 n4 c4)) ∧ (v'.ownBlock = v.ownBlock ∨ ∃ g, v'.ownBlock = some g ∧ w.heap.size ≤ g)) := by
    refine ⟨.slice a4 n4 c4, p4.set 0 (.slice a4 n4 c4), kset.owns (by rw [List.map_append]; exact own4) (fun g hg e => hne4 g hg e), ?_, ?_⟩
    · have k5 : Kept (fun k => v.ownBlock = some k) w w4 := (kd.mono (G := fun k => v.ownBlock = some k) (fun _ h => h.elim)).trans k4 (fun _ h => .inl h)
      exact (k5.mono (G := fun k => k = b8 ∨ v.ownBlock = some k) (fun _ h => .inr h)).trans kset (fun _ h => .inl (.inl h))
    · rcases hat4 with h1 | h1
      · exact .inl h1
      · exact .inr ⟨_, h1, by have : w.drew.heap.size = w.heap.size := rfl; simp⟩
  have HC4 : Hid (w4.cell? ⟨b8, 0, none⟩ = some v ∧ w4.frozen? ⟨b8, 0, none⟩ = false) := ⟨p4.cell rfl, p4.fz 0⟩
  have S4 : w4.cell? ⟨b5, 0, none⟩ = some (.slice ba bn bc) ∧ w4.cell? ⟨b7, 0, none⟩ = some (.pointer (some ⟨p, 0, none⟩)) := by
    have q5 : ¬ (v.ownBlock = some b5) := fun hg => by
      obtain ⟨_, ⟨rfl, _⟩ | ⟨q, cap, cur, rfl, _, hq, _⟩⟩ := v0
      · simp [Value.ownBlock] at hg
      · simp [Value.ownBlock] at hg
        subst hg
        unfold Bk at b0
        rw [hq] at b0
        simp at b0
    have q7 : ¬ (v.ownBlock = some b7) := fun hg => by
      obtain ⟨_, ⟨rfl, _⟩ | ⟨q, cap, cur, rfl, _, hq, _⟩⟩ := v0
      · simp [Value.ownBlock] at hg
      · simp [Value.ownBlock] at hg
        subst hg
        unfold Bk at r0
        rw [hq] at r0
        simp at r0
    exact ⟨(b0.kept k4 q5).cell rfl, (r0.kept k4 q7).cell rfl⟩
  have S5 : (w4.setCell ⟨b8, 0, none⟩ (.slice a4 n4 c4)).cell? ⟨b5, 0, none⟩ = some (.slice ba bn bc) ∧ (w4.setCell ⟨b8, 0, none⟩ (.slice a4 n4 c4)).cell? ⟨b7, 0, none⟩ = some (.pointer (some ⟨p, 0, none⟩)) := ⟨kset.cell S4.1 (fun e => h85 e.symm), kset.cell S4.2 (fun e => h87 e.symm)⟩
  have S0 : w.drew.cell? ⟨b5, 0, none⟩ = some (.slice ba bn bc) ∧ w.drew.cell? ⟨b7, 0, none⟩ = some (.pointer (some ⟨p, 0, none⟩)) := ⟨b0.cell rfl, r0.cell rfl⟩
  have S3 : (w.drew.alloc (.cells #[.int .i64 z] 3)).cell? ⟨b5, 0, none⟩ = some (.slice ba bn bc) ∧ (w.drew.alloc (.cells #[.int .i64 z] 3)).cell? ⟨b7, 0, none⟩ = some (.pointer (some ⟨p, 0, none⟩)) := ⟨((Kept.refl No w.drew).alloc _).cell S0.1 (fun h => h), ((Kept.refl No w.drew).alloc _).cell S0.2 (fun h => h)⟩
  have C0 := p0.cell (j := 0) rfl
  have HRUN : Hid ((Builtin.append_ #[39, 39] 39 #[v, .slice (some ⟨w.drew.heap.size, 0, none⟩) 1 1]).run Tryz.prog (w.drew.alloc (.cells #[.int .i64 z] 3)) = .ok (.slice a4 n4 c4) w4) := hrun4
  have CL : Calls Tryz.prog 66 #[.pointer (some ⟨p, 0, none⟩)] w.drew fun ex w' => ex = .returned (.int .i64 xs.length) ∧ (fun w' : World => w'.cell? ⟨b5, 0, none⟩ = some (.slice ba bn bc) ∧ w'.cell? ⟨b7, 0, none⟩ = some (.pointer (some ⟨p, 0, none⟩))) w' ∧ w' = w.drew := (cl w.drew kd).mono (fun ex w' ⟨h1, h2⟩ => ⟨h1, by rw [h2]; exact S0, h2⟩)
  clear hz cl hrun4 grow4 hat4 own4 hp hb hr hv h p0 b0 r0 v0 k4 kset p4 hne4
  go_enter Tryz.func65, Tryz.ntmps65
  go_upto_region 0 with fail
  refine wp_region_held_drew (S := (fun w' : World => w'.cell? ⟨b5, 0, none⟩ = some (.slice ba bn bc) ∧ w'.cell? ⟨b7, 0, none⟩ = some (.pointer (some ⟨p, 0, none⟩)))) (by kernel_rfl) S0 (fun hS => ?_)
  refine d_take 1 4 rfl rfl (by kernel_rfl) (by kernel_rfl) (by kernel_rfl) (fun _ _ _ h => h) rfl (fun w' hw' => er_ld27 _ rfl b5 0 _ rfl hw'.1) hS ?_
  simp only [Act.put, List.setIfInBounds_toArray, List.set_cons_zero, List.set_cons_succ]
  refine d_take 2 5 rfl rfl (by kernel_rfl) (by kernel_rfl) (by kernel_rfl) (fun _ _ _ h => h) rfl (fun w' hw' => er_len27 _ #[] rfl ba bn bc rfl) hS ?_
  simp only [Act.put, List.setIfInBounds_toArray, List.set_cons_zero, List.set_cons_succ]
  refine d_take 3 6 rfl rfl (by kernel_rfl) (by kernel_rfl) (by kernel_rfl) (fun _ _ _ h => h) rfl (fun w' hw' => er_add3 _ _ _ rfl 8 bn _ rfl rfl e1) hS ?_
  simp only [Act.put, List.setIfInBounds_toArray, List.set_cons_zero, List.set_cons_succ]
  refine d_take 4 7 rfl rfl (by kernel_rfl) (by kernel_rfl) (by kernel_rfl) (fun _ _ _ h => h) rfl (fun w' hw' => er_ldR _ rfl b7 0 _ rfl hw'.2) hS ?_
  simp only [Act.put, List.setIfInBounds_toArray, List.set_cons_zero, List.set_cons_succ]
  refine d_twoR (fun w'' => w'' = w.drew) 0 3 5 8 (by kernel_rfl) rfl rfl rfl rfl rfl rfl (er_ld39 _ rfl b8 0 v rfl C0) (er_left _ _ rfl) CL hS ?_ ?_
  · simp only [Act.put, List.setIfInBounds_toArray, List.set_cons_zero, List.set_cons_succ]
    refine d_callT (fun w'' => w'' = w.drew) 5 8 (by kernel_rfl) rfl rfl rfl (er_left _ _ rfl) CL ?_
    intro w'' hS'' hw''
    subst hw''
    simp only [Act.put, List.setIfInBounds_toArray, List.set_cons_zero, List.set_cons_succ]
    refine d_take 6 9 rfl rfl (by kernel_rfl) (by kernel_rfl) (by kernel_rfl) (fun _ _ _ h => h) rfl (fun w' hw' => er_sub3 _ _ _ rfl (8 + (bn : Int)) xs.length z rfl rfl e2) hS ?_
    simp only [Act.put, List.setIfInBounds_toArray, List.set_cons_zero, List.set_cons_succ]
    refine d_make 7 10 (by kernel_rfl) rfl rfl rfl (er_bs39 _ rfl z rfl) S3 ?_
    simp only [Act.put, List.setIfInBounds_toArray, List.set_cons_zero, List.set_cons_succ]
    refine d_make 8 11 (by kernel_rfl) rfl rfl rfl (er_app39 (.tmp 3) (.tmp 10) rfl v _ (.slice a4 n4 c4) rfl rfl HRUN.out) S4 ?_
    simp only [Act.put, List.setIfInBounds_toArray, List.set_cons_zero, List.set_cons_succ]
    refine d_turn 9 (by kernel_rfl) rfl rfl rfl (er_st39 _ _ rfl b8 0 v (.slice a4 n4 c4) ⟨a4, n4, c4, rfl⟩ rfl rfl HC4.out.1 HC4.out.2) S5 ?_
    refine wpAnyH_done (by kernel_rfl) ?_ _
    go_wp2
    go_end0
    exact ⟨rfl, by simpa only [List.map_append, List.map_cons, List.map_nil] using HEND.out⟩
  · intro w'' hS'' hw''
    subst hw''
    simp only [Act.put, List.setIfInBounds_toArray, List.set_cons_zero, List.set_cons_succ]
    refine d_take 6 9 rfl rfl (by kernel_rfl) (by kernel_rfl) (by kernel_rfl) (fun _ _ _ h => h) rfl (fun w' hw' => er_sub3 _ _ _ rfl (8 + (bn : Int)) xs.length z rfl rfl e2) hS ?_
    simp only [Act.put, List.setIfInBounds_toArray, List.set_cons_zero, List.set_cons_succ]
    refine d_pair 0 3 7 10 (by kernel_rfl) rfl rfl rfl rfl rfl rfl (er_ld39 _ rfl b8 0 v rfl C0) (er_bs39 _ rfl z rfl) hS S3 ?_ ?_
    · simp only [Act.put, List.setIfInBounds_toArray, List.set_cons_zero, List.set_cons_succ]
      refine d_make 7 10 (by kernel_rfl) rfl rfl rfl (er_bs39 _ rfl z rfl) S3 ?_
      simp only [Act.put, List.setIfInBounds_toArray, List.set_cons_zero, List.set_cons_succ]
      refine d_make 8 11 (by kernel_rfl) rfl rfl rfl (er_app39 (.tmp 3) (.tmp 10) rfl v _ (.slice a4 n4 c4) rfl rfl HRUN.out) S4 ?_
      simp only [Act.put, List.setIfInBounds_toArray, List.set_cons_zero, List.set_cons_succ]
      refine d_turn 9 (by kernel_rfl) rfl rfl rfl (er_st39 _ _ rfl b8 0 v (.slice a4 n4 c4) ⟨a4, n4, c4, rfl⟩ rfl rfl HC4.out.1 HC4.out.2) S5 ?_
      refine wpAnyH_done (by kernel_rfl) ?_ _
      go_wp2
      go_end0
      exact ⟨rfl, by simpa only [List.map_append, List.map_cons, List.map_nil] using HEND.out⟩
    · simp only [Act.put, List.setIfInBounds_toArray, List.set_cons_zero, List.set_cons_succ]
      refine d_read 0 3 (by kernel_rfl) rfl rfl rfl (er_ld39 _ rfl b8 0 v rfl (((Kept.refl No w.drew).alloc _).cell C0 (fun h => h))) S3 ?_
      simp only [Act.put, List.setIfInBounds_toArray, List.set_cons_zero, List.set_cons_succ]
      refine d_make 8 11 (by kernel_rfl) rfl rfl rfl (er_app39 (.tmp 3) (.tmp 10) rfl v _ (.slice a4 n4 c4) rfl rfl HRUN.out) S4 ?_
      simp only [Act.put, List.setIfInBounds_toArray, List.set_cons_zero, List.set_cons_succ]
      refine d_turn 9 (by kernel_rfl) rfl rfl rfl (er_st39 _ _ rfl b8 0 v (.slice a4 n4 c4) ⟨a4, n4, c4, rfl⟩ rfl rfl HC4.out.1 HC4.out.2) S5 ?_
      refine wpAnyH_done (by kernel_rfl) ?_ _
      go_wp2
      go_end0
      exact ⟨rfl, by simpa only [List.map_append, List.map_cons, List.map_nil] using HEND.out⟩

end Go.Proofs.YtolmhoenjcinjaaGreat
