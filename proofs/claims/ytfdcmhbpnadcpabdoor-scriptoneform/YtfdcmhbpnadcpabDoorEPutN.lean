/-
  script.putInput; codec.PutList of inputs; script.Encode.
-/
import Derived.Test.YtfdcmhbpnadcpabDoorEPutW
import Derived.Test.YtfdcmhbpnadcpabDoorISame
namespace Go.Proofs.YtfdcmhbpnadcpabDoor
open Go.RowKit
set_option linter.unusedVariables false
set_option linter.unusedSimpArgs false
set_option maxRecDepth 100000

section
variable {w : World} {a : Act} {o : Oper}
theorem er_cLen (x : Operand) (t : TypeId) (ho : o.op = .call { callee := .value (.func 40), args := #[x], argTypes := #[t] }) (v : Value) (hx : a.eval x = v) : (execOp a.eval o).run Tryd.prog w = .ok (.enter 40 #[v]) w := by
  subst hx
  simp [execOp, ho, go_sem, Act.eval]
theorem er_subK (x : Operand) (ho : o.op = .binOp .sub 3 (.const (.int .i64 4194304)) x 3) (n : Nat) (hx : a.eval x = .int .i64 (n : Int)) (hn : n ≤ 100000000) : (execOp a.eval o).run Tryd.prog w = .ok (.value (.int .i64 (4194304 - (n : Int)))) w := by
  have hw : IntKind.i64.wrap (4194304 - (n : Int)) = 4194304 - (n : Int) := by
    rw [IntWalk.i64_left]
    unfold wrap64
    omega
  simp only [execOp, ho, hx]; simp [go_sem, Act.eval, hw]
theorem er_quo8 (x : Operand) (ho : o.op = .binOp .quo 3 x (.const (.int .i64 8)) 3) (z : Int) (hx : a.eval x = .int .i64 z) (hz : -100000000 ≤ z ∧ z ≤ 100000000) : (execOp a.eval o).run Tryd.prog w = .ok (.value (.int .i64 (Int.tdiv z 8))) w := by
  have h1 : -100000000 ≤ Int.tdiv z 8 ∧ Int.tdiv z 8 ≤ 100000000 := by
    by_cases h0 : 0 ≤ z
    · rw [(tdiv8 z).1 h0]; omega
    · have h2 := (tdiv8 (-z)).1 (by omega)
      rw [Int.neg_tdiv] at h2
      omega
  have hw : IntKind.i64.wrap (Int.tdiv z 8) = Int.tdiv z 8 := by
    rw [IntWalk.i64_left]
    unfold wrap64
    omega
  simp only [execOp, ho, hx]; simp [go_sem, Act.eval, hw]
theorem er_cPut (x y z f : Operand) (t1 t2 t3 t4 : TypeId) (ho : o.op = .call { callee := .value (.func 39), args := #[x, y, z, f], argTypes := #[t1, t2, t3, t4] }) (u1 u2 u3 u4 : Value) (h1 : a.eval x = u1) (h2 : a.eval y = u2) (h3 : a.eval z = u3) (h4 : a.eval f = u4) : (execOp a.eval o).run Tryd.prog w = .ok (.enter 39 #[u1, u2, u3, u4]) w := by
  subst h1 h2 h3 h4
  simp [execOp, ho, go_sem, Act.eval]
end
theorem layBs_len (bs : List Nat) (e x : Int) : (layBs bs e (be64 x)).length ≤ bs.length + 8 := by
  unfold layBs
  by_cases h : e ≠ 0
  · rw [if_pos h]; omega
  · rw [if_neg h, List.length_append, be64_len]; omega
set_option maxHeartbeats 8000000 in
theorem putInput_any (F G : Nat → Prop) (p : Nat) (bs : List Nat) (e : Int) (x : Inp) (da : Option Addr) (dc : Nat) (w : World) (h : Wr w F p bs e) (hx : Ir w G x da dc) (hGF : ∀ k, G k → ¬ F k ∧ k < w.heap.size) (hsz : bs.length ≤ 90000000) :
    Calls Tryd.prog 20 #[.pointer (some ⟨p, 0, none⟩), .agg (x.val da dc)] w fun ex w' => ex = .returned (.tuple #[]) ∧ WrDid F p (tlN (bs, e) x).1 (tlN (bs, e) x).2 w w' := by
  obtain ⟨w0, e0⟩ : ∃ w0, w0 = w.alloc (.cells #[.int .i64 x.tk, .int .i64 x.kd, .int .i64 x.tg, .slice da x.d.length dc] 34) := ⟨_, rfl⟩
  have K0 : Kept No w w0 := by rw [e0]; exact (Kept.refl No w).alloc _
  have BA : w0.heap[w.heap.size]? = some (.cells #[.int .i64 x.tk, .int .i64 x.kd, .int .i64 x.tg, .slice da x.d.length dc] 34) := by rw [e0]; exact alloc_new w _
  have hflt : ∀ k, F k → k < w.heap.size := by obtain ⟨v, hv⟩ := h; exact hv.flt
  have hbF : ¬ F w.heap.size := fun hf => by have := hflt _ hf; omega
  have h0 : Wr w0 F p bs e := h.kept K0 (fun _ _ e => e)
  have c1 := i64_any F p bs e x.tk w0 h0 (by omega)
  have x0 : w0.cell? ⟨w.heap.size, 0, none⟩ = some (.int .i64 x.tk) := (cell_blk BA 0).trans rfl
  have HH := hid (And.intro K0 (And.intro BA (And.intro hx (And.intro hGF hbF))))
  clear K0 BA h h0 hx hGF hflt hbF
  show Calls Tryd.prog 20 #[.pointer (some ⟨p, 0, none⟩), .agg #[.int .i64 x.tk, .int .i64 x.kd, .int .i64 x.tg, .slice da x.d.length dc]] w _
  go_enter Tryd.func20, Tryd.ntmps20
  go_upto_region 1 with fail
  rw [← e0]
  clear e0
  go_upto_region 2 with (go_at_call 38; refine c1.mono ?_; rintro ex w1 ⟨rfl, hd1⟩)
  obtain ⟨F1, hw1, hwe1⟩ := hd1
  have l1 : (layBs bs e (be64 x.tk)).length ≤ 90000008 := by have := layBs_len bs e x.tk; omega
  have c2 := i64_any F1 p _ e x.kd w1 hw1 (by omega)
  have x1 : w1.cell? ⟨w.heap.size, 1, none⟩ = some (.int .i64 x.kd) := hwe1.1.cell ((cell_blk HH.out.2.1 1).trans rfl) HH.out.2.2.2.2
  have W1 := hid hwe1
  clear hwe1 hw1 c1 x0
  go_upto_region 3 with (go_at_call 38; refine c2.mono ?_; rintro ex w2 ⟨rfl, hd2⟩)
  obtain ⟨F2, hw2, hwe2⟩ := hd2
  have l2 : (layBs (layBs bs e (be64 x.tk)) e (be64 x.kd)).length ≤ 90000016 := by have := layBs_len (layBs bs e (be64 x.tk)) e x.kd; omega
  have c3 := i64_any F2 p _ e x.tg w2 hw2 (by omega)
  have W2 := hid (W1.out.trans hwe2)
  have x2 : w2.cell? ⟨w.heap.size, 2, none⟩ = some (.int .i64 x.tg) := W2.out.1.cell ((cell_blk HH.out.2.1 2).trans rfl) HH.out.2.2.2.2
  clear hwe2 hw2 c2 x1 W1
  go_upto_region 4 with (go_at_call 38; refine c3.mono ?_; rintro ex w3 ⟨rfl, hd3⟩)
  obtain ⟨F3, hw3, hwe3⟩ := hd3
  obtain ⟨b3, eb3⟩ : ∃ b3, b3 = layBs (layBs (layBs bs e (be64 x.tk)) e (be64 x.kd)) e (be64 x.tg) := ⟨_, rfl⟩
  have l3 : b3.length ≤ 90000024 := by rw [eb3]; have := layBs_len (layBs (layBs bs e (be64 x.tk)) e (be64 x.kd)) e x.tg; omega
  rw [← eb3] at hw3
  have W3 := hid (W2.out.trans hwe3)
  have x3 : w3.cell? ⟨w.heap.size, 3, none⟩ = some (.slice da x.d.length dc) := W3.out.1.cell ((cell_blk HH.out.2.1 3).trans rfl) HH.out.2.2.2.2
  have EB : Hid (pwS (b3, e) x.d (Int.tdiv (4194304 - (b3.length : Int)) 8) = tlN (bs, e) x) := by
    show pwS (b3, e) x.d _ = tlN (bs, e) x
    unfold tlN pwS
    by_cases he : e = 0
    · subst he
      rw [if_neg (by simp), if_neg (by simp)]
      have : b3 = bs ++ hdB x := by rw [eb3]; simp [layBs, hdB]
      rw [this]
    · rw [if_pos he, if_pos he]
      have : b3 = bs := by rw [eb3]; simp [layBs, he]
      rw [this]
  have hmost : Int.tdiv (4194304 - (b3.length : Int)) 8 ≤ 524288 := by
    by_cases hz : 0 ≤ (4194304 : Int) - (b3.length : Int)
    · rw [(tdiv8 _).1 hz]; omega
    · have := (tdiv8 _).2 (by omega : (4194304 : Int) - (b3.length : Int) < 0); omega
  have CLn : Hid (∀ W, W = w3.drew → Calls Tryd.prog 40 #[.pointer (some ⟨p, 0, none⟩)] W fun ex w' => ex = .returned (.int .i64 (b3.length : Int)) ∧ (w'.cell? ⟨w.heap.size, 3, none⟩ = some (.slice da x.d.length dc) ∧ w' = w3.drew)) := fun W hW => (len_any F3 p b3 e W (by rw [hW]; exact hw3.kept ((Kept.refl No w3).drew) (fun _ _ e => e))).mono (fun r w' h => ⟨h.1, by rw [h.2, hW]; exact ⟨x3, rfl⟩⟩)
  have K3 : Kept No w3 w3.drew := (Kept.refl No w3).drew
  have hflt3 : ∀ k, F3 k → k < w3.heap.size := by obtain ⟨v, hv⟩ := hw3; exact hv.flt
  have nb3 : ¬ F3 w.heap.size := fun hf => by
    rcases W3.out.2 _ hf with h1 | h1
    · exact HH.out.2.2.2.2 h1
    · have := heap_lt HH.out.2.1; omega
  have CP := hid (putList_W F3 G p b3 e da x.d.length dc x.d (Int.tdiv (4194304 - (b3.length : Int)) 8) w3.drew (hw3.kept K3 (fun _ _ e => e)) (((HH.out.2.2.1.keep HH.out.1).zs.kept W3.out.1 (fun k hk hf => (HH.out.2.2.2.1 k hk).1 hf)).kept K3 (fun _ _ e => e)) (fun k hk => ⟨fun hf => by
    rcases W3.out.2 k hf with h1 | h1
    · exact (HH.out.2.2.2.1 k hk).1 h1
    · have h2 := (HH.out.2.2.2.1 k hk).2; have h3 := HH.out.1.size; omega, by have h2 := (HH.out.2.2.2.1 k hk).2; have h3 := HH.out.1.size; have h4 := W3.out.1.size; show k < w3.heap.size; omega⟩) hmost (by omega))
  rw [EB.out] at CP
  have KK3 := hid (And.intro nb3 x3)
  clear hwe3 hw3 c3 x2 W2 l1 l2 K3 hflt3 nb3 eb3
  refine wp_region_held_drew (S := fun W => W.cell? ⟨w.heap.size, 3, none⟩ = some (.slice da x.d.length dc)) (by kernel_rfl) x3 (fun hS => ?_)
  refine d_take 0 16 rfl rfl (by kernel_rfl) (by kernel_rfl) (by kernel_rfl) (fun _ _ _ h => h) rfl (fun w' hw' => er_mv _ rfl (.pointer (some ⟨p, 0, none⟩)) rfl) hS ?_
  simp only [Act.put, List.setIfInBounds_toArray, List.set_cons_zero, List.set_cons_succ]
  refine d_take 1 17 rfl rfl (by kernel_rfl) (by kernel_rfl) (by kernel_rfl) (fun _ _ _ h => h) rfl (fun w' hw' => er_fD _ rfl w.heap.size 0 rfl) hS ?_
  simp only [Act.put, List.setIfInBounds_toArray, List.set_cons_zero, List.set_cons_succ]
  refine d_take 2 18 rfl rfl (by kernel_rfl) (by kernel_rfl) (by kernel_rfl) (fun _ _ _ h => h) rfl (fun w' hw' => er_ldL _ rfl w.heap.size 3 (.slice da x.d.length dc) rfl hw') hS ?_
  simp only [Act.put, List.setIfInBounds_toArray, List.set_cons_zero, List.set_cons_succ]
  refine d_take 3 19 rfl rfl (by kernel_rfl) (by kernel_rfl) (by kernel_rfl) (fun _ _ _ h => h) rfl (fun w' hw' => er_mv _ rfl (.pointer (some ⟨p, 0, none⟩)) rfl) hS ?_
  simp only [Act.put, List.setIfInBounds_toArray, List.set_cons_zero, List.set_cons_succ]
  refine d_callT (fun W => W = w3.drew) 4 20 (by kernel_rfl) rfl rfl rfl (er_cLen _ _ rfl (.pointer (some ⟨p, 0, none⟩)) rfl) (CLn.out w3.drew rfl) (fun w' hS hT => ?_)
  subst hT
  simp only [Act.put, List.setIfInBounds_toArray, List.set_cons_zero, List.set_cons_succ]
  refine d_take 5 21 rfl rfl (by kernel_rfl) (by kernel_rfl) (by kernel_rfl) (fun _ _ _ h => h) rfl (fun w' hw' => er_subK _ rfl b3.length rfl (by omega)) hS ?_
  simp only [Act.put, List.setIfInBounds_toArray, List.set_cons_zero, List.set_cons_succ]
  refine d_take 6 22 rfl rfl (by kernel_rfl) (by kernel_rfl) (by kernel_rfl) (fun _ _ _ h => h) rfl (fun w' hw' => er_quo8 _ rfl (4194304 - (b3.length : Int)) rfl (by omega)) hS ?_
  simp only [Act.put, List.setIfInBounds_toArray, List.set_cons_zero, List.set_cons_succ]
  refine d_callT (fun W => WrDid F3 p (tlN (bs, e) x).1 (tlN (bs, e) x).2 w3.drew W) 7 23 (by kernel_rfl) rfl rfl rfl (er_cPut _ _ _ _ _ _ _ _ rfl (.pointer (some ⟨p, 0, none⟩)) (.slice da x.d.length dc) (.int .i64 (Int.tdiv (4194304 - (b3.length : Int)) 8)) (.func (.func 38) #[] #[]) rfl rfl rfl rfl) (CP.out.mono (fun r w' h => ⟨h.1, by obtain ⟨F4, _, hwe4⟩ := h.2; exact hwe4.1.cell hS KK3.out.1, h.2⟩)) (fun w' hS hT => ?_)
  simp only [Act.put, List.setIfInBounds_toArray, List.set_cons_zero, List.set_cons_succ]
  refine wpAnyH_done (by kernel_rfl) ?_ _
  have HT := hid hT
  clear hT hS
  go_wp2
  go_end0
  exact ⟨rfl, (WrDid.trans F3 W3.out (HT.out.ahead (Kept.refl No w3).drew)).ahead HH.out.1⟩
end Go.Proofs.YtfdcmhbpnadcpabDoor
