/-
  skip, Advance.
-/
import Derived.Test.YtffgcijicmfmlaaGreatDoorDGo
namespace Go.Proofs.YtffgcijicmfmlaaGreatDoor
open Go.RowKit Plain
set_option linter.unusedVariables false
set_option maxRecDepth 100000

theorem Gone.trans {w w1 w2 : World} {d gR bW : Nat} {a : Option Addr} {c : Nat} {FS FW FW1 : Nat → Prop} {xs : List Srv} {t2 : Nat} (hF : ∀ j, FW1 j → FW j ∨ w.heap.size ≤ j) (k1 : Kept (Gd d gR FW) w w1) (h : Gone w1 w2 d gR bW a c FS FW1 xs t2) : Gone w w2 d gR bW a c FS FW xs t2 := by
  obtain ⟨⟨FW2, h1, h2⟩, h3⟩ := h
  have hs := k1.size
  refine ⟨⟨FW2, h1, fun j hj => ?_⟩, k1.trans h3 (fun j hj => ?_)⟩
  · rcases h2 j hj with h | h
    · exact hF j h
    · exact .inr (by omega)
  · rcases hj with h | h | h
    · exact .inl (.inl h)
    · exact .inl (.inr (.inl h))
    · rcases hF j h with h' | h'
      · exact .inl (.inr (.inr h'))
      · exact .inr h'
theorem Gone.keep {w w1 w2 : World} {d gR bW : Nat} {a : Option Addr} {c : Nat} {FS FW : Nat → Prop} {xs : List Srv} {t2 : Nat} (h : Gone w w1 d gR bW a c FS FW xs t2) (hk : Kept No w1 w2) : Gone w w2 d gR bW a c FS FW xs t2 := by
  obtain ⟨⟨FW2, h1, h2⟩, h3⟩ := h
  exact ⟨⟨FW2, h1.keep hk, h2⟩, h3.trans hk (fun _ h => h.elim)⟩
theorem Gone.of {w : World} {d gR bW : Nat} {a : Option Addr} {c : Nat} {FS FW : Nat → Prop} {xs : List Srv} {t : Nat} (h : Dp w d gR bW a c FS FW xs t) : Gone w w d gR bW a c FS FW xs t := ⟨⟨FW, h, fun j hj => .inl hj⟩, Kept.refl _ w⟩

theorem w64w (x : Int) : IntKind.i64.wrap x = wrap64 x := by rw [IntKind.wrap_i64]; unfold wrap64; first | done | omega
section
variable {o : Oper} {a : Act} {w : World}
theorem er_fd1 (x : Operand) (ho : o.op = .fieldAddr 56 x 1) (g : Nat) (hx : a.eval x = .pointer (some ⟨g, 0, none⟩)) : (execOp a.eval o).run Tryz.prog w = .ok (.value (.pointer (some ⟨g, 1, none⟩))) w := by simp only [execOp, ho, hx]; simp [go_sem, add_none]
theorem er_fd2 (x : Operand) (ho : o.op = .fieldAddr 56 x 2) (g : Nat) (hx : a.eval x = .pointer (some ⟨g, 0, none⟩)) : (execOp a.eval o).run Tryz.prog w = .ok (.value (.pointer (some ⟨g, 2, none⟩))) w := by simp only [execOp, ho, hx]; simp [go_sem, add_none]
theorem er_ldI (x : Operand) (ho : o.op = .load 3 x) (g off : Nat) (v : Value) (hx : a.eval x = .pointer (some ⟨g, off, none⟩)) (hr : w.cell? ⟨g, off, none⟩ = some v) : (execOp a.eval o).run Tryz.prog w = .ok (.value v) w := by
  simp only [execOp, ho, hx]; simp [go_sem, hr]
theorem er_mulI (x y : Operand) (ho : o.op = .binOp .mul 3 x y 3) (k l r : Int) (hx : a.eval x = .int .i64 k) (hy : a.eval y = .int .i64 l) (hr : wrap64 (k * l) = r) : (execOp a.eval o).run Tryz.prog w = .ok (.value (.int .i64 r)) w := by
  subst hr; simp only [execOp, ho, hx, hy]; simp [go_sem, w64w]
theorem er_addI (x y : Operand) (ho : o.op = .binOp .add 3 x y 3) (k l r : Int) (hx : a.eval x = .int .i64 k) (hy : a.eval y = .int .i64 l) (hr : wrap64 (k + l) = r) : (execOp a.eval o).run Tryz.prog w = .ok (.value (.int .i64 r)) w := by
  subst hr; simp only [execOp, ho, hx, hy]; simp [go_sem, w64w]
theorem er_subI (x y : Operand) (ho : o.op = .binOp .sub 3 x y 3) (k l r : Int) (hx : a.eval x = .int .i64 k) (hy : a.eval y = .int .i64 l) (hr : wrap64 (k - l) = r) : (execOp a.eval o).run Tryz.prog w = .ok (.value (.int .i64 r)) w := by
  subst hr; simp only [execOp, ho, hx, hy]; simp [go_sem, w64w]
theorem er_quoI (x y : Operand) (ho : o.op = .binOp .quo 3 x y 3) (k l r : Nat) (hl : 1 ≤ l) (hk : k ≤ 1099511627776) (hx : a.eval x = .int .i64 k) (hy : a.eval y = .int .i64 l) (hr : k / l = r) : (execOp a.eval o).run Tryz.prog w = .ok (.value (.int .i64 r)) w := by
  have h1 : ((l : Int) == 0) = false := beq_eq_false_iff_ne.2 (by omega)
  have h0 : (l : Int) ≠ 0 := by omega
  have e : Int.tdiv (k : Int) (l : Int) = (r : Int) := by rw [← hr]; exact (Int.ofNat_tdiv k l).symm
  have hle : r ≤ k := by rw [← hr]; exact Nat.div_le_self k l
  have e2 : wrap64 (Int.tdiv (k : Int) (l : Int)) = (r : Int) := by rw [e]; unfold wrap64; omega
  have hl0 : ¬ l = 0 := by omega
  have e3 : IntKind.i64.wrap (r : Int) = (r : Int) := by rw [w64w]; unfold wrap64; omega
  simp only [execOp, ho, hx, hy]
  simp [go_sem, e, hl0, e3]
theorem er_maxI (x y : Operand) (ts : Array TypeId) (ho : o.op = .call { callee := .builtin .max, args := #[x, y], argTypes := #[3, 3] }) (ht : o.type = 3) (k l r : Int) (hx : a.eval x = .int .i64 k) (hy : a.eval y = .int .i64 l) (hr : max k l = r) : (execOp a.eval o).run Tryz.prog w = .ok (.value (.int .i64 r)) w := by
  generalize a.eval = ev at hx hy ⊢
  have e : (if l > k then l else k) = r := by omega
  simp [execOp, ho, ht, go_sem, hx, hy]
  try omega
theorem er_minI (x y : Operand) (ts : Array TypeId) (ho : o.op = .call { callee := .builtin .min, args := #[x, y], argTypes := #[3, 3] }) (ht : o.type = 3) (k l r : Int) (hx : a.eval x = .int .i64 k) (hy : a.eval y = .int .i64 l) (hr : min k l = r) : (execOp a.eval o).run Tryz.prog w = .ok (.value (.int .i64 r)) w := by
  generalize a.eval = ev at hx hy ⊢
  have e : (if l < k then l else k) = r := by omega
  simp [execOp, ho, ht, go_sem, hx, hy]
  try omega
theorem er_cpass (x0 x1 : Operand) (ts : Array TypeId) (ho : o.op = .call { callee := .value (.func 46), args := #[x0, x1], argTypes := ts }) (v0 v1 : Value) (h0 : a.eval x0 = v0) (h1 : a.eval x1 = v1) : (execOp a.eval o).run Tryz.prog w = .ok (.enter 46 #[v0, v1]) w := by
  subst h0 h1; simp [execOp, ho, go_sem, Act.eval]
theorem er_cplay (x0 x1 : Operand) (ts : Array TypeId) (ho : o.op = .call { callee := .value (.func 28), args := #[x0, x1], argTypes := ts }) (v0 v1 : Value) (h0 : a.eval x0 = v0) (h1 : a.eval x1 = v1) : (execOp a.eval o).run Tryz.prog w = .ok (.enter 28 #[v0, v1]) w := by
  subst h0 h1; simp [execOp, ho, go_sem, Act.eval]
theorem er_cskip (x0 x1 : Operand) (ts : Array TypeId) (ho : o.op = .call { callee := .value (.func 29), args := #[x0, x1], argTypes := ts }) (v0 v1 : Value) (h0 : a.eval x0 = v0) (h1 : a.eval x1 = v1) : (execOp a.eval o).run Tryz.prog w = .ok (.enter 29 #[v0, v1]) w := by
  subst h0 h1; simp [execOp, ho, go_sem, Act.eval]
end

set_option maxHeartbeats 4000000 in
theorem skip_any {w : World} {d gR bW : Nat} {a : Option Addr} {c : Nat} {FS FW : Nat → Prop} {xs : List Srv} {t : Nat} (hv : Vd xs) (h : Dp w d gR bW a c FS FW xs t) (k : Nat) (hk : k = 0 ∨ 2 * hyp xs ≤ t) (hend : t + k * hyp xs < 1099511627776) :
    Calls Tryz.prog 29 #[.pointer (some ⟨d, 0, none⟩), .int .i64 k] w fun e w' => e = .returned (.tuple #[]) ∧ Gone w w' d gR bW a c FS FW xs (t + k * hyp xs) := by
  have hH1 := hv.hyp1
  have hH2 := hv.hyp2
  by_cases hk0 : k = 0
  · subst hk0
    rw [Nat.zero_mul, Nat.add_zero]
    have HG : Hid (Gone w w d gR bW a c FS FW xs t) := Gone.of h
    clear h hv
    go_enter Tryz.func29, Tryz.ntmps29
    go_wp2
    go_end0
    exact ⟨rfl, HG.out⟩
  · have h2H : 2 * hyp xs ≤ t := by omega
    obtain ⟨L, hd, hmm⟩ := h
    have c1' := hd.c1
    have c2' := hd.c2
    obtain ⟨M, hM⟩ : ∃ M, k * hyp xs = M := ⟨_, rfl⟩
    have hMi : (k : Int) * (hyp xs : Int) = (M : Int) := by rw [← hM]; push_cast; rfl
    rw [hM] at hend ⊢
    have eM : wrap64 ((k : Int) * (hyp xs : Int)) = (M : Int) := by rw [hMi]; unfold wrap64; omega
    have eA : wrap64 ((t : Int) + (M : Int)) = (t : Int) + M := by unfold wrap64; omega
    have hpass := pass_any hv (hd.keep ((Kept.refl No w).drew)) (t + M) (by omega) (by omega) hmm (fun i hi hgt => (Rule.nx_later hv.bd.ok hi (by omega) hgt).symm)
    rw [show ((t + M : Nat) : Int) = (t : Int) + M by omega] at hpass
    have HR : Hid (∀ i, i < xs.length → (Rule.rest (sys xs) t i : Int) = (Rule.rest (sys xs) (t + M) i : Int)) := fun i hi => by
      have := Rule.rest_turns hv.bd.ok hH1 (fun i hi => hv.dvd i hi) t h2H hi k
      rw [hM] at this
      rw [this]
    have hk1 : 0 < k := by omega
    have HC : Hid (Calls Tryz.prog 46 #[.pointer (some ⟨d, 0, none⟩), .int .i64 ((t : Int) + M)] w.drew fun e w' => ∃ v, e = .returned v ∧ True ∧ ((∃ va n vc, v = .slice va n vc) ∧ Gone w w' d gR bW a c FS FW xs (t + M))) := hpass.mono (by
      rintro e w4 ⟨v, T, L', FW', rfl, p1, p2, p3, p4, p5, p6, p7, p8⟩
      obtain ⟨va, vc, hvv⟩ := row_slice p1
      exact ⟨v, rfl, trivial, ⟨va, _, vc, hvv⟩, ⟨⟨FW', ⟨L', p4.rests HR.out, p5⟩, p6⟩, (((Kept.refl (Gd d gR FW) w).drew).trans p8 (fun j e => by
        rcases e with e | e
        · exact .inl (.inl e)
        · exact .inl (.inr (.inr e))))⟩⟩)
    clear hd hmm hM hMi hk hk0 h2H hv hpass HR
    generalize hyp xs = H at c1' eM hH1 hH2
    have c1 : w.drew.cell? ⟨d, 1, none⟩ = some (.int .i64 H) := c1'
    have c2 : w.drew.cell? ⟨d, 2, none⟩ = some (.int .i64 t) := c2'
    clear c1' c2'
    go_enter Tryz.func29, Tryz.ntmps29
    go_upto_region 1 with fail
    try simp only [Act.put, List.setIfInBounds_toArray, List.set_cons_zero, List.set_cons_succ]
    refine wp_region_held_drew (S := fun _ => True) (by kernel_rfl) trivial (fun hS => ?_)
    refine d_take 0 6 rfl rfl (by kernel_rfl) (by kernel_rfl) (by kernel_rfl) (fun _ _ _ h => h) rfl (fun w' hw' => er_mvw _ rfl (.pointer (some ⟨d, 0, none⟩)) rfl) trivial ?_
    simp only [Act.put, List.setIfInBounds_toArray, List.set_cons_zero, List.set_cons_succ]
    refine d_take 1 7 rfl rfl (by kernel_rfl) (by kernel_rfl) (by kernel_rfl) (fun _ _ _ h => h) rfl (fun w' hw' => er_mvw _ rfl (.pointer (some ⟨d, 0, none⟩)) rfl) trivial ?_
    simp only [Act.put, List.setIfInBounds_toArray, List.set_cons_zero, List.set_cons_succ]
    refine d_take 2 8 rfl rfl (by kernel_rfl) (by kernel_rfl) (by kernel_rfl) (fun _ _ _ h => h) rfl (fun w' hw' => er_nil _ rfl ⟨d, 0, none⟩ rfl) trivial ?_
    simp only [Act.put, List.setIfInBounds_toArray, List.set_cons_zero, List.set_cons_succ]
    refine d_take 3 9 rfl rfl (by kernel_rfl) (by kernel_rfl) (by kernel_rfl) (fun _ _ _ h => h) rfl (fun w' hw' => er_fd2 _ rfl d rfl) trivial ?_
    simp only [Act.put, List.setIfInBounds_toArray, List.set_cons_zero, List.set_cons_succ]
    refine d_take 5 11 rfl rfl (by kernel_rfl) (by kernel_rfl) (by kernel_rfl) (fun _ _ _ h => h) rfl (fun w' hw' => er_mvw _ rfl (.int .i64 k) rfl) trivial ?_
    simp only [Act.put, List.setIfInBounds_toArray, List.set_cons_zero, List.set_cons_succ]
    refine d_take 6 12 rfl rfl (by kernel_rfl) (by kernel_rfl) (by kernel_rfl) (fun _ _ _ h => h) rfl (fun w' hw' => er_mvw _ rfl (.pointer (some ⟨d, 0, none⟩)) rfl) trivial ?_
    simp only [Act.put, List.setIfInBounds_toArray, List.set_cons_zero, List.set_cons_succ]
    refine d_take 7 13 rfl rfl (by kernel_rfl) (by kernel_rfl) (by kernel_rfl) (fun _ _ _ h => h) rfl (fun w' hw' => er_nil _ rfl ⟨d, 0, none⟩ rfl) trivial ?_
    simp only [Act.put, List.setIfInBounds_toArray, List.set_cons_zero, List.set_cons_succ]
    refine d_take 8 14 rfl rfl (by kernel_rfl) (by kernel_rfl) (by kernel_rfl) (fun _ _ _ h => h) rfl (fun w' hw' => er_fd1 _ rfl d rfl) trivial ?_
    simp only [Act.put, List.setIfInBounds_toArray, List.set_cons_zero, List.set_cons_succ]
    refine d_pair 4 10 9 15 (by kernel_rfl) rfl rfl rfl rfl rfl rfl (er_ldI _ rfl d 2 (.int .i64 t) rfl c2) (er_ldI _ rfl d 1 (.int .i64 H) rfl c1) trivial trivial ?_ ?_
    · simp only [Act.put, List.setIfInBounds_toArray, List.set_cons_zero, List.set_cons_succ]
      refine d_read 9 15 (by kernel_rfl) rfl rfl rfl (er_ldI _ rfl d 1 (.int .i64 H) rfl c1) trivial ?_
      simp only [Act.put, List.setIfInBounds_toArray, List.set_cons_zero, List.set_cons_succ]
      refine d_read 10 16 (by kernel_rfl) rfl rfl rfl (er_mulI _ _ rfl (k : Int) (H : Int) (M : Int) rfl rfl eM) trivial ?_
      simp only [Act.put, List.setIfInBounds_toArray, List.set_cons_zero, List.set_cons_succ]
      refine d_read 11 17 (by kernel_rfl) rfl rfl rfl (er_addI _ _ rfl (t : Int) (M : Int) ((t : Int) + M) rfl rfl eA) trivial ?_
      simp only [Act.put, List.setIfInBounds_toArray, List.set_cons_zero, List.set_cons_succ]
      refine d_callN (fun v w' => (∃ va n vc, v = .slice va n vc) ∧ Gone w w' d gR bW a c FS FW xs (t + M)) 12 18 (by kernel_rfl) rfl rfl rfl (er_cpass _ _ _ rfl (.pointer (some ⟨d, 0, none⟩)) (.int .i64 ((t : Int) + M)) rfl rfl) HC.out (fun v w2 hS hT => ?_)
      simp only [Act.put, List.setIfInBounds_toArray, List.set_cons_zero, List.set_cons_succ]
      refine wpAnyH_done (by kernel_rfl) ?_ _
      obtain ⟨⟨va, vn, vc, rfl⟩, hG⟩ := hT
      have HG : Hid (Gone w w2 d gR bW a c FS FW xs (t + M)) := hG
      clear hG c1 c2 hS
      go_wp2
      go_end0
      exact ⟨rfl, HG.out⟩
    · simp only [Act.put, List.setIfInBounds_toArray, List.set_cons_zero, List.set_cons_succ]
      refine d_take 10 16 rfl rfl (by kernel_rfl) (by kernel_rfl) (by kernel_rfl) (fun _ _ _ h => h) rfl (fun w' hw' => er_mulI _ _ rfl (k : Int) (H : Int) (M : Int) rfl rfl eM) trivial ?_
      simp only [Act.put, List.setIfInBounds_toArray, List.set_cons_zero, List.set_cons_succ]
      refine d_read 4 10 (by kernel_rfl) rfl rfl rfl (er_ldI _ rfl d 2 (.int .i64 t) rfl c2) trivial ?_
      simp only [Act.put, List.setIfInBounds_toArray, List.set_cons_zero, List.set_cons_succ]
      refine d_read 11 17 (by kernel_rfl) rfl rfl rfl (er_addI _ _ rfl (t : Int) (M : Int) ((t : Int) + M) rfl rfl eA) trivial ?_
      simp only [Act.put, List.setIfInBounds_toArray, List.set_cons_zero, List.set_cons_succ]
      refine d_callN (fun v w' => (∃ va n vc, v = .slice va n vc) ∧ Gone w w' d gR bW a c FS FW xs (t + M)) 12 18 (by kernel_rfl) rfl rfl rfl (er_cpass _ _ _ rfl (.pointer (some ⟨d, 0, none⟩)) (.int .i64 ((t : Int) + M)) rfl rfl) HC.out (fun v w2 hS hT => ?_)
      simp only [Act.put, List.setIfInBounds_toArray, List.set_cons_zero, List.set_cons_succ]
      refine wpAnyH_done (by kernel_rfl) ?_ _
      obtain ⟨⟨va, vn, vc, rfl⟩, hG⟩ := hT
      have HG : Hid (Gone w w2 d gR bW a c FS FW xs (t + M)) := hG
      clear hG c1 c2 hS
      go_wp2
      go_end0
      exact ⟨rfl, HG.out⟩
theorem advance_bad {w : World} {d gR bW : Nat} {a : Option Addr} {c : Nat} {FS FW : Nat → Prop} {xs : List Srv} {t : Nat} (h : Dp w d gR bW a c FS FW xs t) (x : Int) (hx : x < t ∨ 1099511627775 < x) :
    Calls Tryz.prog 11 #[.pointer (some ⟨d, 0, none⟩), .int .i64 x] w fun e w' => e = .returned (.int .i64 2) ∧ w' = w := by
  obtain ⟨L, hd, hmm⟩ := h
  have hm := isMade_yes hd
  have c2 := hd.c2
  clear hd hmm
  by_cases h1 : x < t
  · clear hx
    go_enter Tryz.func11, Tryz.ntmps11
    go_wp2_with (go_at_call 27; refine hm.mono ?_; rintro e w1 ⟨rfl, hw1⟩; obtain rfl := hw1.symm; clear hm)
    go_ret
    exact ⟨rfl, rfl⟩
  · have h2 : 1099511627775 < x := by omega
    clear hx
    go_enter Tryz.func11, Tryz.ntmps11
    go_wp2_with (go_at_call 27; refine hm.mono ?_; rintro e w1 ⟨rfl, hw1⟩; obtain rfl := hw1.symm; clear hm)
    go_ret
    exact ⟨rfl, rfl⟩

set_option maxHeartbeats 8000000 in
theorem advance_good {w : World} {d gR bW : Nat} {a : Option Addr} {c : Nat} {FS FW : Nat → Prop} {xs : List Srv} {t : Nat} (hv : Vd xs) (h : Dp w d gR bW a c FS FW xs t) (x : Nat) (h1 : t ≤ x) (h2 : x < 1099511627776) :
    Calls Tryz.prog 11 #[.pointer (some ⟨d, 0, none⟩), .int .i64 x] w fun e w' => e = .returned (.int .i64 0) ∧ Gone w w' d gR bW a c FS FW xs x := by
  have hH1 := hv.hyp1
  have hH2 := hv.hyp2
  have HV : Hid (Vd xs) := hv
  have HD : Hid (Dp w d gR bW a c FS FW xs t) := h
  obtain ⟨L, hd, hmm⟩ := h
  have hm := isMade_yes hd
  have c2' := hd.c2
  have c1' := hd.c1
  clear hd hmm hv
  obtain ⟨H, hH⟩ : ∃ H, hyp xs = H := ⟨_, rfl⟩
  have HH : Hid (hyp xs = H) := hH
  rw [hH] at c1' hH1 hH2
  clear hH
  obtain ⟨T0, hT0⟩ : ∃ T0, min x (max t (2 * H)) = T0 := ⟨_, rfl⟩
  have hT1 : t ≤ T0 ∧ T0 ≤ x ∧ (T0 = x ∨ 2 * H ≤ T0) := by omega
  obtain ⟨X, hX⟩ : ∃ X, max t (2 * H) = X := ⟨_, rfl⟩
  have eX : max (t : Int) (2 * (H : Int)) = (X : Int) := by omega
  have eT : min (x : Int) (X : Int) = (T0 : Int) := by omega
  have e2H : wrap64 (2 * (H : Int)) = 2 * (H : Int) := by unfold wrap64; omega
  clear hT0 hX
  have HP1 : Hid (Calls Tryz.prog 28 #[.pointer (some ⟨d, 0, none⟩), .int .i64 T0] w.drew fun e w' => ∃ v, e = .returned v ∧ True ∧ (v = .tuple #[] ∧ Gone w w' d gR bW a c FS FW xs T0)) := (play_any HV.out (HD.out.keep ((Kept.refl No w).drew)) T0 hT1.1 (by omega)).mono (by
    rintro e w' ⟨rfl, hG⟩
    exact ⟨_, rfl, trivial, rfl, Gone.trans (FW1 := FW) (fun j hj => .inl hj) ((Kept.refl (Gd d gR FW) w).drew) hG⟩)
  have c1 : w.drew.cell? ⟨d, 1, none⟩ = some (.int .i64 H) := c1'
  have c2 : w.drew.cell? ⟨d, 2, none⟩ = some (.int .i64 t) := c2'
  go_enter Tryz.func11, Tryz.ntmps11
  go_upto_region 3 with (go_at_call 27; refine hm.mono ?_; rintro e w1 ⟨rfl, hw1⟩; obtain rfl := hw1.symm; clear hm)
  clear c1' c2'
  try simp only [Act.put, List.setIfInBounds_toArray, List.set_cons_zero, List.set_cons_succ]
  generalize decide ((x : Int) < (t : Int)) = B1 at *
  refine wp_region_held_drew (S := fun _ => True) (by kernel_rfl) trivial (fun hS => ?_)
  refine d_take 0 20 rfl rfl (by kernel_rfl) (by kernel_rfl) (by kernel_rfl) (fun _ _ _ h => h) rfl (fun w' hw' => er_mvw _ rfl (.pointer (some ⟨d, 0, none⟩)) rfl) trivial ?_
  simp only [Act.put, List.setIfInBounds_toArray, List.set_cons_zero, List.set_cons_succ]
  refine d_take 1 21 rfl rfl (by kernel_rfl) (by kernel_rfl) (by kernel_rfl) (fun _ _ _ h => h) rfl (fun w' hw' => er_mvw _ rfl (.int .i64 x) rfl) trivial ?_
  simp only [Act.put, List.setIfInBounds_toArray, List.set_cons_zero, List.set_cons_succ]
  refine d_take 2 22 rfl rfl (by kernel_rfl) (by kernel_rfl) (by kernel_rfl) (fun _ _ _ h => h) rfl (fun w' hw' => er_mvw _ rfl (.pointer (some ⟨d, 0, none⟩)) rfl) trivial ?_
  simp only [Act.put, List.setIfInBounds_toArray, List.set_cons_zero, List.set_cons_succ]
  refine d_take 3 23 rfl rfl (by kernel_rfl) (by kernel_rfl) (by kernel_rfl) (fun _ _ _ h => h) rfl (fun w' hw' => er_nil _ rfl ⟨d, 0, none⟩ rfl) trivial ?_
  simp only [Act.put, List.setIfInBounds_toArray, List.set_cons_zero, List.set_cons_succ]
  refine d_take 4 24 rfl rfl (by kernel_rfl) (by kernel_rfl) (by kernel_rfl) (fun _ _ _ h => h) rfl (fun w' hw' => er_fd2 _ rfl d rfl) trivial ?_
  simp only [Act.put, List.setIfInBounds_toArray, List.set_cons_zero, List.set_cons_succ]
  refine d_take 6 26 rfl rfl (by kernel_rfl) (by kernel_rfl) (by kernel_rfl) (fun _ _ _ h => h) rfl (fun w' hw' => er_mvw _ rfl (.pointer (some ⟨d, 0, none⟩)) rfl) trivial ?_
  simp only [Act.put, List.setIfInBounds_toArray, List.set_cons_zero, List.set_cons_succ]
  refine d_take 7 27 rfl rfl (by kernel_rfl) (by kernel_rfl) (by kernel_rfl) (fun _ _ _ h => h) rfl (fun w' hw' => er_nil _ rfl ⟨d, 0, none⟩ rfl) trivial ?_
  simp only [Act.put, List.setIfInBounds_toArray, List.set_cons_zero, List.set_cons_succ]
  refine d_take 8 28 rfl rfl (by kernel_rfl) (by kernel_rfl) (by kernel_rfl) (fun _ _ _ h => h) rfl (fun w' hw' => er_fd1 _ rfl d rfl) trivial ?_
  simp only [Act.put, List.setIfInBounds_toArray, List.set_cons_zero, List.set_cons_succ]
  refine d_pair 5 25 9 29 (by kernel_rfl) rfl rfl rfl rfl rfl rfl (er_ldI _ rfl d 2 (.int .i64 t) rfl c2) (er_ldI _ rfl d 1 (.int .i64 H) rfl c1) trivial trivial ?_ ?_
  · simp only [Act.put, List.setIfInBounds_toArray, List.set_cons_zero, List.set_cons_succ]
    refine d_read 9 29 (by kernel_rfl) rfl rfl rfl (er_ldI _ rfl d 1 (.int .i64 H) rfl c1) trivial ?_
    simp only [Act.put, List.setIfInBounds_toArray, List.set_cons_zero, List.set_cons_succ]
    refine d_read 10 30 (by kernel_rfl) rfl rfl rfl (er_mulI _ _ rfl 2 (H : Int) (2 * (H : Int)) rfl rfl e2H) trivial ?_
    simp only [Act.put, List.setIfInBounds_toArray, List.set_cons_zero, List.set_cons_succ]
    refine d_read 11 31 (by kernel_rfl) rfl rfl rfl (er_maxI _ _ #[] rfl rfl (t : Int) (2 * (H : Int)) (X : Int) rfl rfl eX) trivial ?_
    simp only [Act.put, List.setIfInBounds_toArray, List.set_cons_zero, List.set_cons_succ]
    refine d_read 12 32 (by kernel_rfl) rfl rfl rfl (er_minI _ _ #[] rfl rfl (x : Int) (X : Int) (T0 : Int) rfl rfl eT) trivial ?_
    simp only [Act.put, List.setIfInBounds_toArray, List.set_cons_zero, List.set_cons_succ]
    refine d_callN (fun v w' => v = .tuple #[] ∧ Gone w w' d gR bW a c FS FW xs T0) 13 33 (by kernel_rfl) rfl rfl rfl (er_cplay _ _ _ rfl (.pointer (some ⟨d, 0, none⟩)) (.int .i64 T0) rfl rfl) HP1.out (fun v w2 hS hT => ?_)
    simp only [Act.put, List.setIfInBounds_toArray, List.set_cons_zero, List.set_cons_succ]
    refine wpAnyH_done (by kernel_rfl) ?_ _
    obtain ⟨rfl, hG⟩ := hT
    have HG : Hid (Gone w w2 d gR bW a c FS FW xs T0) := hG
    clear hG c1 c2 hS HP1 eX eT e2H
    go_upto_region 4 with fail
    obtain ⟨⟨FW1, hdp1, hF1⟩, hk1⟩ := HG.out
    have HP2 : Hid (Dp w2 d gR bW a c FS FW1 xs T0 ∧ (∀ j, FW1 j → FW j ∨ w.heap.size ≤ j) ∧ Kept (Gd d gR FW) w w2) := ⟨hdp1, hF1, hk1⟩
    obtain ⟨L2, hd2, hmm2⟩ := hdp1
    have c1'' := hd2.c1
    have c2'' := hd2.c2
    rw [HH.out] at c1''
    have c1 : w2.drew.cell? ⟨d, 1, none⟩ = some (.int .i64 H) := c1''
    have c2 : w2.drew.cell? ⟨d, 2, none⟩ = some (.int .i64 T0) := c2''
    clear c1'' c2'' hd2 hmm2 hF1 hk1
    obtain ⟨k, hk⟩ : ∃ k, (x - T0) / H = k := ⟨_, rfl⟩
    obtain ⟨Z, hZ⟩ : ∃ Z, x - T0 = Z := ⟨_, rfl⟩
    have eZ : wrap64 ((x : Int) - (T0 : Int)) = (Z : Int) := by unfold wrap64; omega
    have hkH : T0 + k * H ≤ x := by
      have := Nat.div_mul_le_self (x - T0) H
      rw [hk] at this
      omega
    have hk0 : k = 0 ∨ 2 * H ≤ T0 := by
      rcases hT1.2.2 with h | h
      · left
        rw [← hk, show x - T0 = 0 by omega]
        exact Nat.zero_div H
      · exact .inr h
    rw [hZ] at hk
    have HS2 : Hid (Calls Tryz.prog 29 #[.pointer (some ⟨d, 0, none⟩), .int .i64 k] w2.drew fun e w' => ∃ v, e = .returned v ∧ True ∧ (v = .tuple #[] ∧ Gone w w' d gR bW a c FS FW xs (T0 + k * H))) := (skip_any HV.out (HP2.out.1.keep ((Kept.refl No w2).drew)) k (by rw [HH.out]; exact hk0) (by rw [HH.out]; omega)).mono (by
      rintro e w' ⟨rfl, hG⟩
      rw [HH.out] at hG
      exact ⟨_, rfl, trivial, rfl, Gone.trans HP2.out.2.1 HP2.out.2.2.drew hG⟩)
    refine wp_region_held_drew (S := fun _ => True) (by kernel_rfl) trivial (fun hS => ?_)
    refine d_take 0 34 rfl rfl (by kernel_rfl) (by kernel_rfl) (by kernel_rfl) (fun _ _ _ h => h) rfl (fun w' hw' => er_mvw _ rfl (.pointer (some ⟨d, 0, none⟩)) rfl) trivial ?_
    simp only [Act.put, List.setIfInBounds_toArray, List.set_cons_zero, List.set_cons_succ]
    refine d_take 1 35 rfl rfl (by kernel_rfl) (by kernel_rfl) (by kernel_rfl) (fun _ _ _ h => h) rfl (fun w' hw' => er_mvw _ rfl (.int .i64 x) rfl) trivial ?_
    simp only [Act.put, List.setIfInBounds_toArray, List.set_cons_zero, List.set_cons_succ]
    refine d_take 2 36 rfl rfl (by kernel_rfl) (by kernel_rfl) (by kernel_rfl) (fun _ _ _ h => h) rfl (fun w' hw' => er_mvw _ rfl (.pointer (some ⟨d, 0, none⟩)) rfl) trivial ?_
    simp only [Act.put, List.setIfInBounds_toArray, List.set_cons_zero, List.set_cons_succ]
    refine d_take 3 37 rfl rfl (by kernel_rfl) (by kernel_rfl) (by kernel_rfl) (fun _ _ _ h => h) rfl (fun w' hw' => er_nil _ rfl ⟨d, 0, none⟩ rfl) trivial ?_
    simp only [Act.put, List.setIfInBounds_toArray, List.set_cons_zero, List.set_cons_succ]
    refine d_take 4 38 rfl rfl (by kernel_rfl) (by kernel_rfl) (by kernel_rfl) (fun _ _ _ h => h) rfl (fun w' hw' => er_fd2 _ rfl d rfl) trivial ?_
    simp only [Act.put, List.setIfInBounds_toArray, List.set_cons_zero, List.set_cons_succ]
    refine d_take 7 41 rfl rfl (by kernel_rfl) (by kernel_rfl) (by kernel_rfl) (fun _ _ _ h => h) rfl (fun w' hw' => er_mvw _ rfl (.pointer (some ⟨d, 0, none⟩)) rfl) trivial ?_
    simp only [Act.put, List.setIfInBounds_toArray, List.set_cons_zero, List.set_cons_succ]
    refine d_take 8 42 rfl rfl (by kernel_rfl) (by kernel_rfl) (by kernel_rfl) (fun _ _ _ h => h) rfl (fun w' hw' => er_nil _ rfl ⟨d, 0, none⟩ rfl) trivial ?_
    simp only [Act.put, List.setIfInBounds_toArray, List.set_cons_zero, List.set_cons_succ]
    refine d_take 9 43 rfl rfl (by kernel_rfl) (by kernel_rfl) (by kernel_rfl) (fun _ _ _ h => h) rfl (fun w' hw' => er_fd1 _ rfl d rfl) trivial ?_
    simp only [Act.put, List.setIfInBounds_toArray, List.set_cons_zero, List.set_cons_succ]
    refine d_pair 5 39 10 44 (by kernel_rfl) rfl rfl rfl rfl rfl rfl (er_ldI _ rfl d 2 (.int .i64 T0) rfl c2) (er_ldI _ rfl d 1 (.int .i64 H) rfl c1) trivial trivial ?_ ?_
    · simp only [Act.put, List.setIfInBounds_toArray, List.set_cons_zero, List.set_cons_succ]
      refine d_take 6 40 rfl rfl (by kernel_rfl) (by kernel_rfl) (by kernel_rfl) (fun _ _ _ h => h) rfl (fun w' hw' => er_subI _ _ rfl (x : Int) (T0 : Int) (Z : Int) rfl rfl eZ) trivial ?_
      simp only [Act.put, List.setIfInBounds_toArray, List.set_cons_zero, List.set_cons_succ]
      refine d_read 10 44 (by kernel_rfl) rfl rfl rfl (er_ldI _ rfl d 1 (.int .i64 H) rfl c1) trivial ?_
      simp only [Act.put, List.setIfInBounds_toArray, List.set_cons_zero, List.set_cons_succ]
      refine d_read 11 45 (by kernel_rfl) rfl rfl rfl (er_quoI _ _ rfl Z H k hH1 (by omega) rfl rfl hk) trivial ?_
      simp only [Act.put, List.setIfInBounds_toArray, List.set_cons_zero, List.set_cons_succ]
      refine d_callN (fun v w' => v = .tuple #[] ∧ Gone w w' d gR bW a c FS FW xs (T0 + k * H)) 12 46 (by kernel_rfl) rfl rfl rfl (er_cskip _ _ _ rfl (.pointer (some ⟨d, 0, none⟩)) (.int .i64 k) rfl rfl) HS2.out (fun v w3 hS hT => ?_)
      simp only [Act.put, List.setIfInBounds_toArray, List.set_cons_zero, List.set_cons_succ]
      refine wpAnyH_done (by kernel_rfl) ?_ _
      obtain ⟨rfl, hG⟩ := hT
      obtain ⟨⟨FW3, hdp3, hF3⟩, hk3⟩ := hG
      have HP3 : Hid (Calls Tryz.prog 28 #[.pointer (some ⟨d, 0, none⟩), .int .i64 x] w3 fun e w' => e = .returned (.tuple #[]) ∧ Gone w w' d gR bW a c FS FW xs x) := (play_any HV.out hdp3 x hkH h2).mono (by
        rintro e w' ⟨rfl, hG⟩
        exact ⟨rfl, Gone.trans hF3 hk3 hG⟩)
      have hp3 := HP3.out
      clear hdp3 hF3 hk3 c1 c2 hS HS2 HP3 HP2
      go_wp2_with (go_at_call 28; refine hp3.mono ?_; rintro e w5 ⟨rfl, hG5⟩; have HG5 : Hid (Gone w w5 d gR bW a c FS FW xs x) := hG5; clear hG5 hp3)
      go_ret
      exact ⟨rfl, HG5.out⟩
    · simp only [Act.put, List.setIfInBounds_toArray, List.set_cons_zero, List.set_cons_succ]
      refine d_read 5 39 (by kernel_rfl) rfl rfl rfl (er_ldI _ rfl d 2 (.int .i64 T0) rfl c2) trivial ?_
      simp only [Act.put, List.setIfInBounds_toArray, List.set_cons_zero, List.set_cons_succ]
      refine d_read 6 40 (by kernel_rfl) rfl rfl rfl (er_subI _ _ rfl (x : Int) (T0 : Int) (Z : Int) rfl rfl eZ) trivial ?_
      simp only [Act.put, List.setIfInBounds_toArray, List.set_cons_zero, List.set_cons_succ]
      refine d_read 11 45 (by kernel_rfl) rfl rfl rfl (er_quoI _ _ rfl Z H k hH1 (by omega) rfl rfl hk) trivial ?_
      simp only [Act.put, List.setIfInBounds_toArray, List.set_cons_zero, List.set_cons_succ]
      refine d_callN (fun v w' => v = .tuple #[] ∧ Gone w w' d gR bW a c FS FW xs (T0 + k * H)) 12 46 (by kernel_rfl) rfl rfl rfl (er_cskip _ _ _ rfl (.pointer (some ⟨d, 0, none⟩)) (.int .i64 k) rfl rfl) HS2.out (fun v w3 hS hT => ?_)
      simp only [Act.put, List.setIfInBounds_toArray, List.set_cons_zero, List.set_cons_succ]
      refine wpAnyH_done (by kernel_rfl) ?_ _
      obtain ⟨rfl, hG⟩ := hT
      obtain ⟨⟨FW3, hdp3, hF3⟩, hk3⟩ := hG
      have HP3 : Hid (Calls Tryz.prog 28 #[.pointer (some ⟨d, 0, none⟩), .int .i64 x] w3 fun e w' => e = .returned (.tuple #[]) ∧ Gone w w' d gR bW a c FS FW xs x) := (play_any HV.out hdp3 x hkH h2).mono (by
        rintro e w' ⟨rfl, hG⟩
        exact ⟨rfl, Gone.trans hF3 hk3 hG⟩)
      have hp3 := HP3.out
      clear hdp3 hF3 hk3 c1 c2 hS HS2 HP3 HP2
      go_wp2_with (go_at_call 28; refine hp3.mono ?_; rintro e w5 ⟨rfl, hG5⟩; have HG5 : Hid (Gone w w5 d gR bW a c FS FW xs x) := hG5; clear hG5 hp3)
      go_ret
      exact ⟨rfl, HG5.out⟩
  · simp only [Act.put, List.setIfInBounds_toArray, List.set_cons_zero, List.set_cons_succ]
    refine d_take 10 30 rfl rfl (by kernel_rfl) (by kernel_rfl) (by kernel_rfl) (fun _ _ _ h => h) rfl (fun w' hw' => er_mulI _ _ rfl 2 (H : Int) (2 * (H : Int)) rfl rfl e2H) trivial ?_
    simp only [Act.put, List.setIfInBounds_toArray, List.set_cons_zero, List.set_cons_succ]
    refine d_read 5 25 (by kernel_rfl) rfl rfl rfl (er_ldI _ rfl d 2 (.int .i64 t) rfl c2) trivial ?_
    simp only [Act.put, List.setIfInBounds_toArray, List.set_cons_zero, List.set_cons_succ]
    refine d_read 11 31 (by kernel_rfl) rfl rfl rfl (er_maxI _ _ #[] rfl rfl (t : Int) (2 * (H : Int)) (X : Int) rfl rfl eX) trivial ?_
    simp only [Act.put, List.setIfInBounds_toArray, List.set_cons_zero, List.set_cons_succ]
    refine d_read 12 32 (by kernel_rfl) rfl rfl rfl (er_minI _ _ #[] rfl rfl (x : Int) (X : Int) (T0 : Int) rfl rfl eT) trivial ?_
    simp only [Act.put, List.setIfInBounds_toArray, List.set_cons_zero, List.set_cons_succ]
    refine d_callN (fun v w' => v = .tuple #[] ∧ Gone w w' d gR bW a c FS FW xs T0) 13 33 (by kernel_rfl) rfl rfl rfl (er_cplay _ _ _ rfl (.pointer (some ⟨d, 0, none⟩)) (.int .i64 T0) rfl rfl) HP1.out (fun v w2 hS hT => ?_)
    simp only [Act.put, List.setIfInBounds_toArray, List.set_cons_zero, List.set_cons_succ]
    refine wpAnyH_done (by kernel_rfl) ?_ _
    obtain ⟨rfl, hG⟩ := hT
    have HG : Hid (Gone w w2 d gR bW a c FS FW xs T0) := hG
    clear hG c1 c2 hS HP1 eX eT e2H
    go_upto_region 4 with fail
    obtain ⟨⟨FW1, hdp1, hF1⟩, hk1⟩ := HG.out
    have HP2 : Hid (Dp w2 d gR bW a c FS FW1 xs T0 ∧ (∀ j, FW1 j → FW j ∨ w.heap.size ≤ j) ∧ Kept (Gd d gR FW) w w2) := ⟨hdp1, hF1, hk1⟩
    obtain ⟨L2, hd2, hmm2⟩ := hdp1
    have c1'' := hd2.c1
    have c2'' := hd2.c2
    rw [HH.out] at c1''
    have c1 : w2.drew.cell? ⟨d, 1, none⟩ = some (.int .i64 H) := c1''
    have c2 : w2.drew.cell? ⟨d, 2, none⟩ = some (.int .i64 T0) := c2''
    clear c1'' c2'' hd2 hmm2 hF1 hk1
    obtain ⟨k, hk⟩ : ∃ k, (x - T0) / H = k := ⟨_, rfl⟩
    obtain ⟨Z, hZ⟩ : ∃ Z, x - T0 = Z := ⟨_, rfl⟩
    have eZ : wrap64 ((x : Int) - (T0 : Int)) = (Z : Int) := by unfold wrap64; omega
    have hkH : T0 + k * H ≤ x := by
      have := Nat.div_mul_le_self (x - T0) H
      rw [hk] at this
      omega
    have hk0 : k = 0 ∨ 2 * H ≤ T0 := by
      rcases hT1.2.2 with h | h
      · left
        rw [← hk, show x - T0 = 0 by omega]
        exact Nat.zero_div H
      · exact .inr h
    rw [hZ] at hk
    have HS2 : Hid (Calls Tryz.prog 29 #[.pointer (some ⟨d, 0, none⟩), .int .i64 k] w2.drew fun e w' => ∃ v, e = .returned v ∧ True ∧ (v = .tuple #[] ∧ Gone w w' d gR bW a c FS FW xs (T0 + k * H))) := (skip_any HV.out (HP2.out.1.keep ((Kept.refl No w2).drew)) k (by rw [HH.out]; exact hk0) (by rw [HH.out]; omega)).mono (by
      rintro e w' ⟨rfl, hG⟩
      rw [HH.out] at hG
      exact ⟨_, rfl, trivial, rfl, Gone.trans HP2.out.2.1 HP2.out.2.2.drew hG⟩)
    refine wp_region_held_drew (S := fun _ => True) (by kernel_rfl) trivial (fun hS => ?_)
    refine d_take 0 34 rfl rfl (by kernel_rfl) (by kernel_rfl) (by kernel_rfl) (fun _ _ _ h => h) rfl (fun w' hw' => er_mvw _ rfl (.pointer (some ⟨d, 0, none⟩)) rfl) trivial ?_
    simp only [Act.put, List.setIfInBounds_toArray, List.set_cons_zero, List.set_cons_succ]
    refine d_take 1 35 rfl rfl (by kernel_rfl) (by kernel_rfl) (by kernel_rfl) (fun _ _ _ h => h) rfl (fun w' hw' => er_mvw _ rfl (.int .i64 x) rfl) trivial ?_
    simp only [Act.put, List.setIfInBounds_toArray, List.set_cons_zero, List.set_cons_succ]
    refine d_take 2 36 rfl rfl (by kernel_rfl) (by kernel_rfl) (by kernel_rfl) (fun _ _ _ h => h) rfl (fun w' hw' => er_mvw _ rfl (.pointer (some ⟨d, 0, none⟩)) rfl) trivial ?_
    simp only [Act.put, List.setIfInBounds_toArray, List.set_cons_zero, List.set_cons_succ]
    refine d_take 3 37 rfl rfl (by kernel_rfl) (by kernel_rfl) (by kernel_rfl) (fun _ _ _ h => h) rfl (fun w' hw' => er_nil _ rfl ⟨d, 0, none⟩ rfl) trivial ?_
    simp only [Act.put, List.setIfInBounds_toArray, List.set_cons_zero, List.set_cons_succ]
    refine d_take 4 38 rfl rfl (by kernel_rfl) (by kernel_rfl) (by kernel_rfl) (fun _ _ _ h => h) rfl (fun w' hw' => er_fd2 _ rfl d rfl) trivial ?_
    simp only [Act.put, List.setIfInBounds_toArray, List.set_cons_zero, List.set_cons_succ]
    refine d_take 7 41 rfl rfl (by kernel_rfl) (by kernel_rfl) (by kernel_rfl) (fun _ _ _ h => h) rfl (fun w' hw' => er_mvw _ rfl (.pointer (some ⟨d, 0, none⟩)) rfl) trivial ?_
    simp only [Act.put, List.setIfInBounds_toArray, List.set_cons_zero, List.set_cons_succ]
    refine d_take 8 42 rfl rfl (by kernel_rfl) (by kernel_rfl) (by kernel_rfl) (fun _ _ _ h => h) rfl (fun w' hw' => er_nil _ rfl ⟨d, 0, none⟩ rfl) trivial ?_
    simp only [Act.put, List.setIfInBounds_toArray, List.set_cons_zero, List.set_cons_succ]
    refine d_take 9 43 rfl rfl (by kernel_rfl) (by kernel_rfl) (by kernel_rfl) (fun _ _ _ h => h) rfl (fun w' hw' => er_fd1 _ rfl d rfl) trivial ?_
    simp only [Act.put, List.setIfInBounds_toArray, List.set_cons_zero, List.set_cons_succ]
    refine d_pair 5 39 10 44 (by kernel_rfl) rfl rfl rfl rfl rfl rfl (er_ldI _ rfl d 2 (.int .i64 T0) rfl c2) (er_ldI _ rfl d 1 (.int .i64 H) rfl c1) trivial trivial ?_ ?_
    · simp only [Act.put, List.setIfInBounds_toArray, List.set_cons_zero, List.set_cons_succ]
      refine d_take 6 40 rfl rfl (by kernel_rfl) (by kernel_rfl) (by kernel_rfl) (fun _ _ _ h => h) rfl (fun w' hw' => er_subI _ _ rfl (x : Int) (T0 : Int) (Z : Int) rfl rfl eZ) trivial ?_
      simp only [Act.put, List.setIfInBounds_toArray, List.set_cons_zero, List.set_cons_succ]
      refine d_read 10 44 (by kernel_rfl) rfl rfl rfl (er_ldI _ rfl d 1 (.int .i64 H) rfl c1) trivial ?_
      simp only [Act.put, List.setIfInBounds_toArray, List.set_cons_zero, List.set_cons_succ]
      refine d_read 11 45 (by kernel_rfl) rfl rfl rfl (er_quoI _ _ rfl Z H k hH1 (by omega) rfl rfl hk) trivial ?_
      simp only [Act.put, List.setIfInBounds_toArray, List.set_cons_zero, List.set_cons_succ]
      refine d_callN (fun v w' => v = .tuple #[] ∧ Gone w w' d gR bW a c FS FW xs (T0 + k * H)) 12 46 (by kernel_rfl) rfl rfl rfl (er_cskip _ _ _ rfl (.pointer (some ⟨d, 0, none⟩)) (.int .i64 k) rfl rfl) HS2.out (fun v w3 hS hT => ?_)
      simp only [Act.put, List.setIfInBounds_toArray, List.set_cons_zero, List.set_cons_succ]
      refine wpAnyH_done (by kernel_rfl) ?_ _
      obtain ⟨rfl, hG⟩ := hT
      obtain ⟨⟨FW3, hdp3, hF3⟩, hk3⟩ := hG
      have HP3 : Hid (Calls Tryz.prog 28 #[.pointer (some ⟨d, 0, none⟩), .int .i64 x] w3 fun e w' => e = .returned (.tuple #[]) ∧ Gone w w' d gR bW a c FS FW xs x) := (play_any HV.out hdp3 x hkH h2).mono (by
        rintro e w' ⟨rfl, hG⟩
        exact ⟨rfl, Gone.trans hF3 hk3 hG⟩)
      have hp3 := HP3.out
      clear hdp3 hF3 hk3 c1 c2 hS HS2 HP3 HP2
      go_wp2_with (go_at_call 28; refine hp3.mono ?_; rintro e w5 ⟨rfl, hG5⟩; have HG5 : Hid (Gone w w5 d gR bW a c FS FW xs x) := hG5; clear hG5 hp3)
      go_ret
      exact ⟨rfl, HG5.out⟩
    · simp only [Act.put, List.setIfInBounds_toArray, List.set_cons_zero, List.set_cons_succ]
      refine d_read 5 39 (by kernel_rfl) rfl rfl rfl (er_ldI _ rfl d 2 (.int .i64 T0) rfl c2) trivial ?_
      simp only [Act.put, List.setIfInBounds_toArray, List.set_cons_zero, List.set_cons_succ]
      refine d_read 6 40 (by kernel_rfl) rfl rfl rfl (er_subI _ _ rfl (x : Int) (T0 : Int) (Z : Int) rfl rfl eZ) trivial ?_
      simp only [Act.put, List.setIfInBounds_toArray, List.set_cons_zero, List.set_cons_succ]
      refine d_read 11 45 (by kernel_rfl) rfl rfl rfl (er_quoI _ _ rfl Z H k hH1 (by omega) rfl rfl hk) trivial ?_
      simp only [Act.put, List.setIfInBounds_toArray, List.set_cons_zero, List.set_cons_succ]
      refine d_callN (fun v w' => v = .tuple #[] ∧ Gone w w' d gR bW a c FS FW xs (T0 + k * H)) 12 46 (by kernel_rfl) rfl rfl rfl (er_cskip _ _ _ rfl (.pointer (some ⟨d, 0, none⟩)) (.int .i64 k) rfl rfl) HS2.out (fun v w3 hS hT => ?_)
      simp only [Act.put, List.setIfInBounds_toArray, List.set_cons_zero, List.set_cons_succ]
      refine wpAnyH_done (by kernel_rfl) ?_ _
      obtain ⟨rfl, hG⟩ := hT
      obtain ⟨⟨FW3, hdp3, hF3⟩, hk3⟩ := hG
      have HP3 : Hid (Calls Tryz.prog 28 #[.pointer (some ⟨d, 0, none⟩), .int .i64 x] w3 fun e w' => e = .returned (.tuple #[]) ∧ Gone w w' d gR bW a c FS FW xs x) := (play_any HV.out hdp3 x hkH h2).mono (by
        rintro e w' ⟨rfl, hG⟩
        exact ⟨rfl, Gone.trans hF3 hk3 hG⟩)
      have hp3 := HP3.out
      clear hdp3 hF3 hk3 c1 c2 hS HS2 HP3 HP2
      go_wp2_with (go_at_call 28; refine hp3.mono ?_; rintro e w5 ⟨rfl, hG5⟩; have HG5 : Hid (Gone w w5 d gR bW a c FS FW xs x) := hG5; clear hG5 hp3)
      go_ret
      exact ⟨rfl, HG5.out⟩
end Go.Proofs.YtffgcijicmfmlaaGreatDoor
