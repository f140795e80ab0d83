/-
  The Writer's Bytes, Done, Len; bytes.Clone.
-/
import Derived.Test.YtjhhldgbllbbhaaGreatDoorCWr
namespace Go.Proofs.YtjhhldgbllbbhaaGreatDoor
open Go.RowKit
set_option linter.unusedVariables false
set_option maxRecDepth 100000

theorem step_append_none {P : Program} {ops : Array Oper} {o : Oper} {a : Act} {w : World} {K : Act → World → Prop} {Q : Exit → Act → World → Prop} {E : Prop}
    (hgd : o.guard = none) (s x : Operand) (t : TypeId) (ho : o.op = Op.call { callee := Callee.builtin Builtin.append, args := #[s, x], argTypes := #[t, t] })
    (base : Nat) (e : TypeId) (i : TypeInfo) (size : Nat) (ht : P.underlying t = some (.slice e)) (hi : P.info? e = some i)
    (v : Value) (n : Nat) (xs : List Value) (hs : a.eval s = v) (hown : w.ownsRow base e size v n xs) (hx : a.eval x = .slice none 0 0)
    (h : K (a.put o.dst v) w) :
    if Region.wanted o (yielded ops a.tmps) = true then Oper.wp P o a w K Q else E := by
  have hw : Region.wanted o (yielded ops a.tmps) = true := by simp [Region.wanted, hgd]
  rw [if_pos hw]
  have hrun := run_append_owned_none (P := P) (w := w) base t o.type e i size ht hi v n xs hown
  unfold Oper.wp
  simp [execOp, ho, resolve, invoke, builtin, hs, hx, hrun, Result.andThen]
  exact h

set_option maxHeartbeats 1000000 in
theorem clone_any (G : Nat → Prop) (a : Option Addr) (n c : Nat) (xs : List Nat) (w : World) (h : Bs w G a n c xs) (hsz : n ≤ 140737488355328) :
    Calls Tryz.prog 45 #[.slice a n c] w fun ex w' => ∃ v, ex = .returned v ∧ w'.ownsRow w.heap.size 5 1 v xs.length (xs.map bv) ∧ Below w.heap.size w w' := by
  obtain ⟨i0, hi, hz0, hz1, hz2⟩ := info_parts Tryz.info5
  have q22 : ∀ (w : World) (a : Option Addr) (n c n' c' : Nat), (binOp .eql 35 (.slice a n c) (.slice none n' c')).run Tryz.prog w = .ok (.bool a.isNone) w := fun w a n c n' c' => Lib.run_eql_slice_nil w _ _ a n c n' c' Tryz.underlying35
  have hb := h
  cases a with
  | none =>
    have hc0 := h.nil rfl
    have hn0 : n = 0 := by have := h.cap; omega
    have hx0 : xs = [] := List.eq_nil_of_length_eq_zero (by rw [h.len]; exact hn0)
    subst hc0 hn0 hx0
    clear h hb
    go_enter Tryz.func45, Tryz.ntmps45
    go_wp2
    go_ret
    exact ⟨_, rfl, World.ownsRow_nil _ _ _ _, Below.refl _ _⟩
  | some ad =>
    have HB : Hid (Bs w G (some ad) n c xs) := h
    have hl := h.len
    clear h hb
    go_enter Tryz.func45, Tryz.ntmps45
    go_wp2_with (at_builtin; refine wpList_append_own _ rfl _ _ 35 rfl w.heap.size 5 i0 (.int .u8 0) 1 1 Tryz.underlying35 hi hz0 hz1 hz2 rfl (by decide) _ 0 [] rfl (World.ownsRow_made w #[] 0 (Nat.le_refl _) (by unfold maxLen; omega) rfl) ad n c (xs.map bv) rfl (by rw [List.length_map, hl]; omega) (HB.out.kept ((Kept.refl No w).alloc _) (fun _ _ h => h)).news (bv_one _) (by unfold maxLen; omega) (by omega) (by simp) ?_; intro v1 w1 own1 grow1 _)
    have hb1 : Below w.heap.size w w1 := ((Below.refl w.heap.size w).alloc (Nat.le_refl _) _).grown grow1 (by simp) (fun k hk => by injection hk with hk; exact Nat.le_of_eq hk)
    rw [Nat.zero_add, List.nil_append, ← hl] at own1
    clear grow1
    go_wp2
    go_ret
    exact ⟨_, rfl, own1, hb1⟩

set_option maxHeartbeats 1000000 in
theorem bytes1_any (F G : Nat → Prop) (p : Nat) (bs : List Nat) (a : Option Addr) (n c : Nat) (xs : List Nat) (w : World) (b1 b2 : Nat) (hn1 : ¬ F b1) (h : Wr w F p bs 0) (hb : Bs w G a n c xs) (hsz : bs.length + n ≤ 140737488355328)
    (d1 : w.cell? ⟨b1, 0, none⟩ = some (.pointer (some ⟨p, 0, none⟩))) (d2 : w.cell? ⟨b2, 0, none⟩ = some (.slice a n c)) :
    Calls Tryz.prog 63 #[.pointer (some ⟨b1, 0, none⟩), .pointer (some ⟨b2, 0, none⟩)] w fun ex w' => ex = .returned (.int .i64 0) ∧ WrDid F p (bs ++ xs) 0 w w' := by
  obtain ⟨i0, hi, hz0, hz1, hz2⟩ := info_parts Tryz.info5
  obtain ⟨v, hv⟩ := h
  have c0 := hv.c0
  have f0 := hv.fz 0
  have hp := hv.plt
  have hl := hb.len
  have HV : Hid (WrV w F p v bs 0) := hv
  have HB : Hid (Bs w G a n c xs) := hb
  have HO : Hid (w.ownsRow 0 5 1 v bs.length (bs.map bv)) := hv.own
  cases a with
  | none =>
    have hc0 := hb.nil rfl
    have hn0 : n = 0 := by have := hb.cap; omega
    have hx0 : xs = [] := List.eq_nil_of_length_eq_zero (by rw [hl]; exact hn0)
    subst hc0 hn0 hx0
    have hsh : ∃ a n c, v = .slice a n c := by
      rcases hv.shape with ⟨h, _⟩ | ⟨g, cap, h, _⟩
      · exact ⟨_, _, _, h⟩
      · exact ⟨_, _, _, h⟩
    obtain ⟨a2, n2, k2, rfl⟩ := hsh
    have fin : WrDid F p (bs ++ []) 0 w (w.drew.setCell ⟨p, 0, none⟩ (.slice a2 n2 k2)) := by
      have hk : Kept (fun k => k = p) w (w.drew.setCell ⟨p, 0, none⟩ (.slice a2 n2 k2)) := ((Kept.refl (fun k => k = p) w).drew).setCell (p := ⟨p, 0, none⟩) (.inl rfl) _
      refine ⟨F, ⟨.slice a2 n2 k2, ?_, ?_, hv.fp, hv.fv, fun k hk2 => Nat.lt_of_lt_of_le (hv.flt k hk2) hk.size, ?_⟩, hk.mono (fun k hk => by rw [hk]; exact hv.fp), fun _ h => .inl h⟩
      · have := hv.obj
        show (w.setCell ⟨p, 0, none⟩ (.slice a2 n2 k2)).heap[p]? = _
        simp [World.setCell, Array.getElem?_modify, this]
      · rw [List.append_nil]; exact hk.owns hv.own (fun g hg e => hv.pne (by rw [hg, e]))
      · rw [List.append_nil]; exact hv.lt
    have FIN : Hid (WrDid F p (bs ++ []) 0 w (w.drew.setCell ⟨p, 0, none⟩ (.slice a2 n2 k2))) := fin
    clear hb hv fin
    go_enter Tryz.func63, Tryz.ntmps63
    go_wp2
    go_region_law (refine step_append_none rfl (.tmp 7) (.tmp 8) 35 rfl 0 5 i0 1 Tryz.underlying35 hi (.slice a2 n2 k2) _ _ rfl (HO.out : World.ownsRow w.drew 0 5 1 _ _ _) rfl ?_)
    all_goals
      go_wp2
      go_ret
      exact ⟨rfl, FIN.out⟩
  | some ad =>
    clear hb hv
    go_enter Tryz.func63, Tryz.ntmps63
    go_wp2
    go_region_law (refine step_append_own rfl (.tmp 7) (.tmp 8) 35 rfl 0 5 i0 (.int .u8 0) 1 1 Tryz.underlying35 hi hz0 hz1 hz2 rfl (by decide) v _ _ rfl (HO.out : World.ownsRow w.drew 0 5 1 v _ _) ad n c (xs.map bv) rfl (by rw [List.length_map, hl]; omega) (HB.out.kept ((Kept.refl No w).drew) (fun _ _ h => h)).news (bv_one _) (by unfold maxLen; omega) (by omega) (Nat.zero_le _) ?_; intro v1 w1 own1 grow1 _ at1; obtain ⟨a2, n2, k2, rfl, c01, f01, F2, H2⟩ := WrV.appended (news := xs) HV.out ((Kept.refl No w).drew) own1 hl grow1 at1 HB.out.lt; have d11 : w1.cell? ⟨b1, 0, none⟩ = some (.pointer (some ⟨p, 0, none⟩)) := grow1.cell (w := w.drew) d1 (fun e => hn1 (HV.out.fv b1 e.symm)); clear own1 grow1 at1)
    all_goals
      go_wp2
      go_ret
      exact ⟨rfl, F2, ⟨_, H2.out.1⟩, H2.out.2⟩

set_option maxHeartbeats 1000000 in
theorem bytes_any (F G : Nat → Prop) (p : Nat) (bs : List Nat) (e : Int) (a : Option Addr) (n c : Nat) (xs : List Nat) (w : World) (h : Wr w F p bs e) (hb : Bs w G a n c xs) (hsz : bs.length + n ≤ 140737488355328) :
    Calls Tryz.prog 46 #[.pointer (some ⟨p, 0, none⟩), .slice a n c] w fun ex w' => ex = .returned (.tuple #[]) ∧ WrDid F p (layBs bs e xs) e w w' := by
  have hmf : ∀ (fn : Fn) (first cap : Array Value) (w : World), (Instr.makeFunc fn first cap).run Tryz.prog w = .ok (.func fn first cap) w := fun _ _ _ _ => rfl
  have H : Hid (Wr w F p bs e) := h
  clear h
  by_cases he : e = 0
  · subst he
    rw [show layBs bs 0 xs = bs ++ xs from if_neg (by simp)]
    obtain ⟨W, hW⟩ : ∃ W, W = ((w.alloc (.cells #[.pointer (some ⟨p, 0, none⟩)] 49)).alloc (.cells #[.slice a n c] 35)) := ⟨_, rfl⟩
    have d2 : W.cell? ⟨w.heap.size + 1, 0, none⟩ = some (.slice a n c) := by rw [hW]; exact cell_new _ _ _ _ (by simp)
    have d1 : W.cell? ⟨w.heap.size, 0, none⟩ = some (.pointer (some ⟨p, 0, none⟩)) := by rw [hW, cell_old _ _ _ (by simp)]; exact cell_new _ _ _ _ rfl
    have hWr : Wr W F p bs 0 := by rw [hW]; exact H.out.box2 _ _
    have hBW : Bs W G a n c xs := by rw [hW]; exact hb.kept (((Kept.refl No w).alloc _).alloc _) (fun _ _ h => h)
    have cc := gate_Bytes _ _ p _ (WrDid F p (bs ++ xs) 0 _) 0 hWr.c1 (bytes1_any F G p bs a n c xs _ _ _ (fun hf => by obtain ⟨v, hv⟩ := H.out; have := hv.flt _ hf; omega) hWr hBW hsz d1 d2) (fun _ h => h.cells)
    rw [hW] at cc
    clear d1 d2 hWr hW hBW hb
    go_enter Tryz.func46, Tryz.ntmps46
    go_wp2_with (go_at_call 39; refine cc.mono ?_; rintro ex w1 ⟨rfl, w2, hd, rfl⟩)
    go_end0
    exact ⟨rfl, (hd.put1 _).ahead (((Kept.refl No w).alloc _).alloc _)⟩
  · have he2 : (e == 0) = false := by simpa using he
    rw [show layBs bs e xs = bs from if_pos he]
    clear hb
    go_enter Tryz.func46, Tryz.ntmps46
    go_wp2_with (go_at_call 39; refine (gate_no _ p e _ (H.out.box2 _ _).c1 he2).mono ?_; rintro ex w1 ⟨rfl, rfl⟩)
    go_end0
    exact ⟨rfl, WrDid.still H.out (((Kept.refl No w).alloc _).alloc _)⟩

end Go.Proofs.YtjhhldgbllbbhaaGreatDoor
