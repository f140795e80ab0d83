/-
  ProcFair: the walk.
-/
import Derived.Test.YtofkacfchkimiaaPFairT
import Derived.Deep.DeepCutAuto
import Derived.Deep.CutBlock
namespace Go.Proofs.Ytofkacfchkimiaa
open Go.RowKit
set_option linter.unusedVariables false
set_option maxRecDepth 100000

def Z21 : Array Value := #[.int .i64 0, .int .i64 0, .int .i64 0, .int .i64 0, .int .i64 0, .int .i64 0, .slice none 0 0, .slice none 0 0, .slice none 0 0, .int .i64 0, .int .i64 0, .int .i64 0, .int .i64 0, .int .i64 0, .int .i64 0, .int .i64 0, .int .i64 0, .int .i64 0, .slice none 0 0, .slice none 0 0, .slice none 0 0]
theorem Try.info21 : (Try.prog.info? 38).map (·.size) = some 21 := by kernel_rfl
theorem clip_nat (x lo hi : Int) (h0 : 0 ≤ lo) (h : lo ≤ hi) : ∃ k : Nat, clipV x lo hi = (k : Int) ∧ lo ≤ (k : Int) ∧ (k : Int) ≤ hi := by
  unfold clipV
  split
  · exact ⟨lo.toNat, by omega, by omega, by omega⟩
  · split
    · exact ⟨hi.toNat, by omega, by omega, by omega⟩
    · exact ⟨x.toNat, by omega, by omega, by omega⟩

def lnZ (ls : List Nat) : List Int := ls.map (fun i : Nat => (i : Int) + 1)
theorem lnZ_at (ls : List Nat) {i : Nat} (hi : i < ls.length) : (lnZ ls).getD i 0 = (ls.getD i 0 : Int) + 1 := by
  simp [lnZ, List.getD, hi]
theorem Ft.zs {w W : World} {b g cap : Nat} {T : Tt} {N : Nat} {ls rl wl : List Nat} {va : Option Addr} {vc : Nat} (h : Ft w W b g cap T N ls rl wl va vc) : Zs W (fun _ => True) va ls.length vc (lnZ ls) := by
  have e1 : (lnZ ls).length = ls.length := by simp [lnZ]
  have e2 : lnV ls = (lnZ ls).map iv := by simp [lnV, lnZ]
  have o := h.own
  rw [e2, ← e1] at o
  obtain ⟨a, c, e, z⟩ := Zs.of_owns o
  injection e with ea el ec
  subst ea ec
  rw [e1] at z
  exact z.mono (fun _ _ => trivial)
theorem drop_one (ls : List Nat) {k : Nat} (hk : k < ls.length) : ls.drop k = ls.getD k 0 :: ls.drop (k + 1) := by
  rw [List.drop_eq_getElem_cons hk]; simp [List.getD, hk]
theorem take_one (ls : List Nat) {k : Nat} (hk : k < ls.length) : ls.take (k + 1) = ls.take k ++ [ls.getD k 0] := by
  rw [List.take_succ_eq_append_getElem hk]; simp [List.getD, hk]
section
variable {w W : World} {b g cap : Nat} {T : Tt} {N : Nat} {ls rl wl : List Nat} {va : Option Addr} {vc : Nat}
theorem pick_head {i : Nat} {r : List Nat} (h : Ft w W b g cap T N ls (i :: r) wl va vc) (hN : N ≤ 16) : Calls Try.prog 22 #[.pointer (some ⟨b, 0, none⟩)] W fun e w' => e = .returned (.tuple #[.int .i64 ((i : Int) + 1), .bool true]) ∧ Kept No W w' := by
  have hn := h.fm.n'
  have := pick_line W h.tn.1 (by omega) (ready_no W h.tn.1 (by rw [h.fm.hd]; omega) (by omega)) h.fm.lk
  rw [hn, h.fm.pk_head] at this
  exact this
theorem pick_none (h : Ft w W b g cap T N ls [] wl va vc) (hN : N ≤ 16) : Calls Try.prog 22 #[.pointer (some ⟨b, 0, none⟩)] W fun e w' => e = .returned (.tuple #[.int .i64 0, .bool false]) ∧ Kept No W w' := by
  have hn := h.fm.n'
  have := pick_line W h.tn.1 (by omega) (ready_no W h.tn.1 (by rw [h.fm.hd]; omega) (by omega)) h.fm.lk
  rw [hn, h.fm.pk_none N (Nat.le_refl _)] at this
  exact this
theorem yield_head {i : Nat} {r : List Nat} (h : Ft w W b g cap T N ls (i :: r) [] va vc) (hN : N ≤ 16) (hr : Rm T.pl) : Calls Try.prog 23 #[.pointer (some ⟨b, 0, none⟩), .int .i64 ((i : Int) + 1)] W fun e w' => e = .returned (.bool true) ∧ Ft w w' b g cap (T.behind i) N ls (r ++ [i]) [] va vc := by
  have hn := h.fm.n'
  have hi : i < N := h.fm.lt i (by simp)
  refine (yield_yes W h.tn.1 (i := i) (by omega) (by omega) hr ((h.fm.rs i hi).2 (by simp))).mono ?_
  rintro e w' ⟨rfl, t, k⟩
  exact ⟨rfl, h.step t k h.fm.behind⟩
theorem wait_head {i : Nat} {r : List Nat} (h : Ft w W b g cap T N ls (i :: r) wl va vc) (hN : N ≤ 16) (hr : Rm T.pl) : Calls Try.prog 11 #[.pointer (some ⟨b, 0, none⟩), .int .i64 ((i : Int) + 1), .int .i64 7, .int .i64 (-1), .int .i64 3, .int .i64 0, .slice none 0 0] W fun e w' => e = .returned (.bool true) ∧ ∃ T', T'.pl = T.pl + 1 ∧ Ft w w' b g cap T' N ls r (wl ++ [i]) va vc := by
  have hn := h.fm.n'
  have hi : i < N := h.fm.lt i (by simp)
  refine (wait_yes W h.tn.1 (i := i) (by omega) (by omega) hr ((h.fm.rs i hi).2 (by simp)) (by rw [h.fm.lk]; omega) 7 (-1) 3 0 rfl (.inl rfl) (Zs.none W No) (fun _ e => e.elim) (by omega)).mono ?_
  rintro e w' ⟨rfl, ya, yc, t, _, k⟩
  exact ⟨rfl, _, rfl, h.step t k (h.fm.wait _ _)⟩
theorem line3 (h : Ft w W b g cap T N ls [] ls va vc) (hN : N ≤ 16) : Calls Try.prog 25 #[.pointer (some ⟨b, 0, none⟩), .int .i64 7, .int .i64 3] W fun e w' => ∃ ya yc, e = .returned (.slice ya ls.length yc) ∧ Ft w w' b g cap T N ls [] ls va vc ∧ Zs w' (fun _ => True) ya ls.length yc (lnZ ls) := by
  have hn := h.fm.n'
  by_cases hl : ls = []
  · subst hl
    have hw : wq T 7 3 T.n = [] := by rw [hn]; exact List.perm_nil.1 h.fm.wq_perm
    refine (line_any (ls := []) (wl := []) W h.tn.1 (by omega) 3 (.inr hw)).mono ?_
    rintro e w' ⟨k, ⟨_, rfl⟩ | ⟨blk, c, rfl, h1, h2, h3, h4, h5⟩⟩
    · exact ⟨none, 0, rfl, h.keep k, Zs.none _ _⟩
    · exact ⟨_, c, rfl, h.keep k, ⟨rfl, h1, h2, fun e => (by cases e), fun i hi => absurd hi (Nat.not_lt_zero _)⟩⟩
  · refine (line_any W h.tn.1 (by omega) 3 (.inl ⟨rfl, hl, by rw [hn]; exact h.fm⟩)).mono ?_
    rintro e w' ⟨k, ⟨hw, _⟩ | ⟨blk, c, rfl, h1, h2, h3, h4, h5⟩⟩
    · rw [hn] at hw
      have := h.fm.wq_perm
      rw [hw] at this
      exact absurd this.symm.eq_nil hl
    · exact ⟨_, c, rfl, h.keep k, ⟨by simp [lnZ], h1, h2, fun e => (by cases e), fun i hi => ⟨blk, 0, rfl, trivial, by rw [Nat.zero_add, lnZ_at ls hi]; exact h5 i hi⟩⟩⟩
theorem same_line {ya : Option Addr} {yc : Nat} (h : Ft w W b g cap T N ls rl wl va vc) (z : Zs W (fun _ => True) ya ls.length yc (lnZ ls)) : Calls Try.prog 24 #[.slice ya ls.length yc, .slice va ls.length vc] W fun e w' => e = .returned (.bool true) ∧ Ft w w' b g cap T N ls rl wl va vc := by
  refine (sameI_any W z h.zs).mono ?_
  rintro e w' ⟨rfl, k⟩
  exact ⟨by rw [decide_eq_true rfl], h.keep k⟩
theorem line2 (h : Ft w W b g cap T N ls [] wl va vc) (hN : N ≤ 16) : Calls Try.prog 25 #[.pointer (some ⟨b, 0, none⟩), .int .i64 7, .int .i64 2] W fun e w' => (∃ ya yc, e = .returned (.slice ya 0 yc)) ∧ Ft w w' b g cap T N ls [] wl va vc := by
  have hn := h.fm.n'
  have hw : wq T 7 2 T.n = [] := by rw [hn]; exact h.fm.wq_other
  refine (line_any (ls := []) (wl := []) W h.tn.1 (by omega) 2 (.inr hw)).mono ?_
  rintro e w' ⟨k, ⟨_, rfl⟩ | ⟨blk, c, rfl, h1, h2, h3, h4, h5⟩⟩
  · exact ⟨⟨_, _, rfl⟩, h.keep k⟩
  · exact ⟨⟨_, _, rfl⟩, h.keep k⟩
end
section
variable {o : Oper} {a : Act} {w : World}
theorem er_make (x : Operand) (ho : o.op = .makeSlice 29 x x) (n : Nat) (hn : n ≤ 16) (hx : a.eval x = .int .i64 n) : (execOp a.eval o).run Try.prog w = .ok (.value (.slice (some ⟨w.heap.size, 0, none⟩) n n)) (mkP n w) := by
  unfold execOp
  simp only [ho, hx, Sem.run_bind, mkP_run n hn, Result.andThen_ok]
  rfl
theorem er_alloc (ho : o.op = .alloc 38) : (execOp a.eval o).run Try.prog w = .ok (.value (.pointer (some ⟨w.heap.size, 0, none⟩))) (w.alloc (.cells Z21 38)) := by
  simp only [execOp, ho]
  simp [go_sem]
  rfl
theorem list_make {P : Program} {ops : Array Oper} {Q : Exit → Act → World → Prop} {rest : List Oper} (hg : o.guard = none) (k : Nat) {v : Value} {w' : World} (hd : o.dst = some k) (hr : (execOp a.eval o).run P w = .ok (.value v) w') (h : wpList P ops Q rest (a.put (some k) v) w') : wpList P ops Q (o :: rest) a w :=
  wg_val (by simp [Region.wanted, hg]) hr (by rw [hd]; exact h)
end
def PA (cb pb N : Nat) : Array Value := #[.int .i64 0, .int .i64 0, .int .i64 0, .int .i64 0, .int .i64 0, .int .i64 0, .slice none 0 0, .slice (some ⟨cb, 0, none⟩) 1 1, .slice (some ⟨pb, 0, none⟩) N N, .int .i64 0, .int .i64 0, .int .i64 0, .int .i64 0, .int .i64 0, .int .i64 0, .int .i64 0, .int .i64 0, .int .i64 0, .slice none 0 0, .slice none 0 0, .slice none 0 0]
theorem pa_one (cb pb N : Nat) : (PA cb pb N).all (·.oneCell') = true := by simp [PA, Value.oneCell']
theorem built_part (cb pb N : Nat) : Try.prog.built 38 [(4, .slice (some ⟨cb, 0, none⟩) 1 1), (5, .slice (some ⟨pb, 0, none⟩) N N)] = some (PA cb pb N) := by kernel_rfl
/-- the partition in memory -/
def Pt (w wc : World) (v : Value) (N : Nat) : Prop := ∃ (b : Nat) (A : Array Value) (cb pb : Nat), v = .pointer (some ⟨b, 0, none⟩) ∧ wc.heap[b]? = some (.cells A 38) ∧ A.size = 21 ∧ A[7]? = some (.slice (some ⟨cb, 0, none⟩) 1 1) ∧ A[8]? = some (.slice (some ⟨pb, 0, none⟩) N N) ∧ A[9]? = some (.int .i64 0) ∧ Pq wc (fun k => k = pb) (some ⟨pb, 0, none⟩) N N (fun _ => ⟨0, 0, 0, 0, 0, false⟩) ∧ pb < wc.heap.size ∧ Kept No w wc
theorem pt_end {w w2 : World} (K : Kept No w w2) (N : Nat) (hN : N ≤ 16) (o : Obj) : Pt w (((mkP N (w2.alloc o)).alloc (.cells Z21 38)).setRow (mkP N (w2.alloc o)).heap.size (PA w2.heap.size (w2.alloc o).heap.size N)) (.pointer (some ⟨(mkP N (w2.alloc o)).heap.size, 0, none⟩)) N := by
  have k1 : Kept No w (w2.alloc o) := K.alloc _
  have k2 : Kept No w (mkP N (w2.alloc o)) := k1.alloc _
  have k3 := k2.alloc (.cells Z21 38)
  have hB := alloc_new (mkP N (w2.alloc o)) (.cells Z21 38)
  have hr := setRow_heap _ (mkP N (w2.alloc o)).heap.size Z21 (PA w2.heap.size (w2.alloc o).heap.size N) 38 (0, 0) hB
  have k4 := k3.setRow (g := (mkP N (w2.alloc o)).heap.size) (.inr (by have := k2.size; omega)) (PA w2.heap.size (w2.alloc o).heap.size N)
  have hq := mkP_pq N hN (w2.alloc o)
  have m1 : Kept No (mkP N (w2.alloc o)) (((mkP N (w2.alloc o)).alloc (.cells Z21 38)).setRow (mkP N (w2.alloc o)).heap.size (PA w2.heap.size (w2.alloc o).heap.size N)) := ((Kept.refl No _).alloc _).setRow (.inr (Nat.le_refl _)) _
  have m2 : (mkP N (w2.alloc o)).heap.size = (w2.alloc o).heap.size + 1 := by unfold mkP; rw [World.size_alloc]
  exact ⟨_, _, w2.heap.size, (w2.alloc o).heap.size, rfl, hr, rfl, rfl, rfl, rfl, pq_kept hq m1, by have := m1.size; omega, k4⟩

set_option maxHeartbeats 8000000 in
theorem fair_law {F : Nat → Prop} {a : Option Addr} {m c : Nat} {xs : List Int} (count rounds : Int) (w : World) (hz : Zs w F a m c xs) :
    Calls Try.prog 5 #[.int .i64 count, .slice a m c, .int .i64 rounds] w fun e w' => e = .returned (.bool true) ∧ Kept No w w' := by
  have hml := hz.len
  have hmc := hz.cap
  have hmx := hz.max
  have HZ := hid hz
  clear hz
  obtain ⟨N, eN, hN1, hN2⟩ := clip_nat count 1 16 (by omega) (by omega)
  have cl := fun W => clip_any count 1 16 W
  rw [eN] at cl
  have hN1' : 1 ≤ N := by omega
  have hN2' : N ≤ 16 := by omega
  clear eN hN1 hN2
  have kn := known_any w
  go_enter Try.func5, Try.ntmps5
  go_upto_region 4 with (first
    | (go_at_call 17; refine (cl _).mono ?_; rintro e w1 ⟨rfl, e1⟩; subst e1)
    | (go_at_call 9; refine kn.mono ?_; rintro e w2 ⟨rfl, k2⟩; have K2 := hid k2; clear k2))
  clear cl kn
  go_cut [8] (fun v wc => Pt w1 wc v N)
  case first =>
    have mk := mkP_run N hN2'
    have ez : ∀ W : World, W.alloc (.cells #[.int .i64 0, .int .i64 0, .int .i64 0, .int .i64 0, .int .i64 0, .int .i64 0, .slice none 0 0, .slice none 0 0, .slice none 0 0, .int .i64 0, .int .i64 0, .int .i64 0, .int .i64 0, .int .i64 0, .int .i64 0, .int .i64 0, .int .i64 0, .int .i64 0, .slice none 0 0, .slice none 0 0, .slice none 0 0] 38) = W.alloc (.cells Z21 38) := fun _ => rfl
    refine wp_region_lit ?_
    iterate 8 go_step
    rename_i K8 hK8
    refine hK8 _ _ ?_
    refine list_make rfl 27 rfl (er_make (.tmp 26) rfl N hN2' rfl) ?_
    simp only [Act.put, List.setIfInBounds_toArray, List.set_cons_zero, List.set_cons_succ]
    refine list_build rfl 38 _ rfl [(4, .slice (some ⟨w2.heap.size, 0, none⟩) 1 1), (5, .slice (some ⟨(w2.alloc (.cells #[.int .u8 0, .int .u8 0, .int .u8 0, .int .u8 0, .int .i32 0] 25)).heap.size, 0, none⟩) N N)] (by kernel_rfl) _ (built_part _ _ _) ?_
    simp only [Act.put, List.setIfInBounds_toArray, List.set_cons_zero, List.set_cons_succ]
    have pe := hid (pt_end K2.out N hN2' (.cells #[.int .u8 0, .int .u8 0, .int .u8 0, .int .u8 0, .int .i32 0] 25))
    have b5 := alloc_new (mkP N (w2.alloc (.cells #[.int .u8 0, .int .u8 0, .int .u8 0, .int .u8 0, .int .i32 0] 25))) (.cells Z21 38)
    refine list_make rfl 8 rfl (er_alloc rfl) ?_
    simp only [Act.put, List.setIfInBounds_toArray, List.set_cons_zero, List.set_cons_succ]
    refine wpList_store_row rfl 38 (.tmp 8) (.tmp 28) rfl _ (PA _ _ N) rfl rfl _ Z21 b5 Try.info21 rfl (pa_one _ _ _) ?_
    simp only [Act.put]
    clear b5
    go_wp2
    go_meet
    exact pe.out
  case rest =>
    obtain ⟨pt, A, cb, pb, rfl, hp, hA, h7, h8, h9, hq, hpb, kw⟩ := hcut
    have nw := new_any wc hA h7 h8 h9 ⟨Nat.le_refl _, by omega⟩ hq (fun k e => by subst e; exact hpb) hN1' (by omega)
    have HK := hid kw
    clear h7 h8 h9 hq hpb kw
    go_upto_region 5 with fail
    refine wp_region_lit ?_
    refine wpList_load_row rfl 38 (.tmp 8) rfl pt rfl _ A (0, 0) _ hp Try.underlying38 rfl (by rw [hA]; exact Try.info21) ?_
    simp only [Act.put, List.setIfInBounds_toArray, List.set_cons_zero, List.set_cons_succ]
    clear hp
    go_upto_region 8 with (go_at_call 8; refine nw.mono ?_; rintro e w3 ⟨rfl, g, cap, tw, hg, k3⟩; have HT := hid tw; have HG := hid hg; have K3 := hid k3; clear tw hg k3)
    clear nw hA
    obtain ⟨b, hb⟩ : ∃ b, wc.heap.size + 1 = b := ⟨_, rfl⟩
    have h0 : Hid (Ft w1 w3 b g cap { ps := fun _ => (Ql.pr ⟨0, 0, 0, 0, 0, false⟩), n := N, cd := 1, hd := 0, lk := 0, pl := 1 } N [] [] [] none 0) := by
      have hks := HK.out.size
      have hgg := HG.out
      rw [hb] at HT
      exact ⟨⟨HT.out, HK.out.trans K3.out (fun _ e => e.elim), by omega, by omega⟩, fm_new N _ rfl rfl rfl (fun _ => rfl), World.ownsRow_nil _ _ _ _, fun k e => by cases e⟩
    rw [hb]
    clear hb HT HG K3 HK K2
    go_upto_block 0 with fail
    go_cut [10, 11] (fun l i wr => ∃ (T : Tt) (ls : List Nat) (va : Option Addr) (vc : Nat), l = .slice va ls.length vc ∧ 0 ≤ T.pl ∧ T.pl ≤ 101 ∧ ls.length ≤ 100 ∧ Ft w1 wr b g cap T N ls ls [] va vc)
    case first =>
      go_wp2_with fail
      go_loopw [10, 11] (fun l i wr => ∃ (k : Nat) (T : Tt) (ls : List Nat) (va : Option Addr) (vc : Nat), k ≤ 100 ∧ k ≤ m ∧ i = .int .i64 k ∧ l = .slice va ls.length vc ∧ Nd T ∧ 0 ≤ T.pl ∧ T.pl ≤ 1 + k ∧ ls.length ≤ k ∧ Ft w1 wr b g cap T N ls ls [] va vc) (fun _ i _ => 100 - (intOf i).toNat)
      case atStart =>
        exact ⟨0, _, [], none, 0, by omega, by omega, rfl, rfl, fun i => ⟨rfl, rfl⟩, by show (0:Int) ≤ 1; omega, by show (1:Int) ≤ 1 + 0; omega, Nat.le_refl _, h0.out⟩
      case round =>
        clear h0
        obtain ⟨k, T, ls, va, vc, hk1, hk2, rfl, rfl, nd, pl0, pl1, hln, ft⟩ := hrel
        by_cases hlt : k < m
        · have hltz : (k : Int) < (m : Int) := by omega
          by_cases hlt2 : k < 100
          · have hltz2 : (k : Int) < 100 := by omega
            obtain ⟨b', o', rfl, _, d⟩ := HZ.out.at' k hlt
            have e1 := ft.tn.2.1.cell d (fun h => h)
            clear d
            unfold iv at e1
            generalize xs.getD k 0 = X at *
            obtain ⟨j, ej, hj1, hj2⟩ := clip_nat X 0 ((N : Int) - 1) (by omega) (by omega)
            have cl := fun W => clip_any X 0 ((N : Int) - 1) W
            rw [ej] at cl
            clear ej hj1
            have hjN : j < N := by omega
            have hFn := ft.fm.n'
            by_cases hin : j ∈ ls
            · have s1 : (T.ps j).st = 1 := (ft.fm.rs j hjN).2 hin
              have sn := start_not wr ft.tn.1 (i := j) (by omega) (by omega) (by omega) 0 0 0 0
              rw [show (j : Int) + 1 = 1 + j by omega] at sn
              have HF : Hid (Nd T ∧ Ft w1 wr b g cap T N ls ls [] va vc) := ⟨nd, ft⟩
              clear nd ft s1
              go_wp2_with (first
                | (go_at_call 17; refine (cl _).mono ?_; rintro e w4 ⟨rfl, e4⟩; subst e4)
                | (go_at_call 10; refine sn.mono ?_; rintro e w5 ⟨rfl, k5⟩; have K5 := hid k5; clear k5))
              refine ⟨⟨k + 1, T, ls, va, vc, by omega, by omega, by go_num, rfl, HF.out.1, pl0, by omega, by omega, HF.out.2.keep K5.out⟩, ?_⟩
              simp [intOf]; omega
            · have s1 : (T.ps j).st = 0 := ft.fm.dm j hjN hin (by simp)
              have sn := start_yes wr ft.tn.1 (i := j) (by omega) (by omega) ⟨pl0, by omega⟩ s1 0 0 0 0 rfl
              rw [show (j : Int) + 1 = 1 + j by omega] at sn
              have HF : Hid (Nd T ∧ Ft w1 wr b g cap T N ls ls [] va vc) := ⟨nd, ft⟩
              clear nd ft s1
              go_wp2_with (first
                | (go_at_call 17; refine (cl _).mono ?_; rintro e w4 ⟨rfl, e4⟩; subst e4)
                | (go_at_call 10; refine sn.mono ?_; rintro e w5 ⟨rfl, t5, k5⟩; have F5 : Hid (Ft w1 w5 b g cap (T.start j 0 0 0 0) N ls (ls ++ [j]) [] va vc) := HF.out.2.step t5 k5 (HF.out.2.fm.start hjN hin); clear t5 k5 sn; have AP : Hid ((w5.alloc (.cells #[.int .i64 (1 + (j : Int))] 3)).ownsRow w1.heap.size 3 1 (.slice va ls.length vc) ls.length (lnV ls) ∧ w1.heap.size ≤ (w5.alloc (.cells #[.int .i64 (1 + (j : Int))] 3)).heap.size ∧ (w5.alloc (.cells #[.int .i64 (1 + (j : Int))] 3)).cell? ⟨w5.heap.size, 0, none⟩ = some (.int .i64 (1 + (j : Int))) ∧ Kept No w5 (w5.alloc (.cells #[.int .i64 (1 + (j : Int))] 3))) := ⟨F5.out.own.alloc _, by have := F5.out.tn.2.1.size; rw [World.size_alloc]; omega, one (alloc_new w5 _), (Kept.refl No w5).alloc _⟩)
                | (at_builtin; refine wpList_app1 rfl _ _ 65 3 rfl _ 8 Try.underlying65 Try.infoI rfl w1.heap.size (.slice va ls.length vc) ls.length _ rfl AP.out.1 AP.out.2.1 ⟨w5.heap.size, 0, none⟩ 1 (.int .i64 (1 + (j : Int))) rfl AP.out.2.2.1 rfl (by omega) (by unfold maxLen; omega) ?_; intro ya yc wa own1 gr1 lo1))
              refine ⟨⟨k + 1, T.start j 0 0 0 0, ls ++ [j], ya, yc, by omega, by omega, by go_num, ?_, HF.out.1.start j, ?_, ?_, ?_, ?_⟩, ?_⟩
              · rw [show (ls ++ [j]).length = ls.length + 1 by simp]
              · show (0 : Int) ≤ T.pl + 1; omega
              · show T.pl + 1 ≤ 1 + ((k + 1 : Nat) : Int); omega
              · simp; omega
              · have ow := own1.out
                rw [show (1 : Int) + j = j + 1 by omega] at ow
                exact F5.out.app (HF.out.1.start j) AP.out.2.2.2 ow gr1.out lo1.out
              · simp [intOf]; omega
          · have hltz2 : ¬ (k : Int) < 100 := by omega
            have HF := hid ft
            clear nd ft
            go_wp2
            go_meet
            exact ⟨T, ls, va, vc, rfl, pl0, by omega, by omega, HF.out⟩
        · have hltz : ¬ (k : Int) < (m : Int) := by omega
          have HF := hid ft
          clear nd ft
          go_wp2
          go_meet
          exact ⟨T, ls, va, vc, rfl, pl0, by omega, by omega, HF.out⟩
    case rest =>
      clear h0 HZ
      obtain ⟨T, ls, va, vc, rfl, pl0, pl1, hln, ft⟩ := hcut
      go_upto_block 2 with fail
      go_cut [13] (fun r wr => ∃ T : Tt, 0 ≤ T.pl ∧ T.pl ≤ 4101 ∧ Ft w1 wr b g cap T N ls ls [] va vc)
      case first =>
        have HF := hid ft
        clear ft
        go_wp2_with fail
        go_loopw [13] (fun r wr => ∃ (q : Nat) (T : Tt), q ≤ 40 ∧ r = .int .i64 q ∧ 0 ≤ T.pl ∧ T.pl ≤ 101 + q * 100 ∧ Ft w1 wr b g cap T N ls ls [] va vc) (fun r _ => 40 - (intOf r).toNat)
        case atStart => exact ⟨0, T, by omega, rfl, pl0, by omega, HF.out⟩
        case round =>
          clear HF pl0 pl1
          obtain ⟨q, T, hq, rfl, pl0, pl1, ft⟩ := hrel
          have HF := hid ft
          clear ft
          by_cases hr1 : (q : Int) < rounds
          · by_cases hq2 : q < 40
            · have hqz : (q : Int) < 40 := by omega
              go_wp2
              go_loopw [14] (fun i wr => ∃ (k : Nat) (T : Tt), k ≤ ls.length ∧ i = .int .i64 k ∧ 0 ≤ T.pl ∧ T.pl ≤ 101 + q * 100 + k ∧ Ft w1 wr b g cap T N ls (ls.drop k ++ ls.take k) [] va vc) (fun i _ => ls.length - (intOf i).toNat)
              case atStart => exact ⟨0, T, by omega, rfl, pl0, by omega, by simpa using HF.out⟩
              case round =>
                clear HF pl0 pl1
                obtain ⟨k, T, hk, rfl, pl0, pl1, ft⟩ := hrel
                by_cases hlt : k < ls.length
                · have hltz : (k : Int) < (ls.length : Int) := by omega
                  rw [drop_one ls hlt, List.cons_append] at ft
                  obtain ⟨gl, rfl, e1, hv1, hv2⟩ := ft.cell hlt
                  have tk := hid (take_one ls hlt)
                  generalize ls.getD k 0 = x at *
                  have pk := pick_head ft hN2'
                  have HF := hid ft
                  clear ft
                  go_wp2_with (first
                    | (go_at_call 22; refine pk.mono ?_; rintro e w6 ⟨rfl, k6⟩; have e2 := k6.cell e1 (fun h => h); have yl := yield_head (HF.out.keep k6) hN2' ⟨pl0, by omega⟩; clear k6 pk)
                    | (go_at_call 23; refine yl.mono ?_; rintro e w7 ⟨rfl, f7⟩; have F7 := hid f7; clear f7 yl))
                  refine ⟨⟨k + 1, T.behind x, by omega, by go_num, ?_, ?_, by rw [tk.out, ← List.append_assoc]; exact F7.out⟩, ?_⟩
                  · show (0 : Int) ≤ T.pl + 1; omega
                  · show T.pl + 1 ≤ 101 + (q : Int) * 100 + ((k + 1 : Nat) : Int); omega
                  · simp [intOf]; omega
                · have hltz : ¬ (k : Int) < (ls.length : Int) := by omega
                  have hkl : k = ls.length := by omega
                  subst hkl
                  rw [List.drop_length, List.take_length, List.nil_append] at ft
                  have HF := hid ft
                  clear ft
                  go_wp2
                  refine ⟨⟨q + 1, T, by omega, by go_num, pl0, by omega, HF.out⟩, ?_⟩
                  simp [intOf]; omega
            · have hqz : ¬ (q : Int) < 40 := by omega
              go_wp2
              go_meet
              exact ⟨T, pl0, by omega, HF.out⟩
          · go_wp2
            go_meet
            exact ⟨T, pl0, by omega, HF.out⟩
      case rest =>
        clear ft pl0 pl1
        obtain ⟨T, pl0, pl1, ft⟩ := hcut
        have HF := hid ft
        clear ft
        go_wp2
        go_loopw [17] (fun i wr => ∃ (k : Nat) (T : Tt), k ≤ ls.length ∧ i = .int .i64 k ∧ 0 ≤ T.pl ∧ T.pl ≤ 4101 + k ∧ Ft w1 wr b g cap T N ls (ls.drop k) (ls.take k) va vc) (fun i _ => ls.length - (intOf i).toNat)
        case atStart => exact ⟨0, T, by omega, rfl, pl0, by omega, by simpa using HF.out⟩
        case round =>
          clear HF pl0 pl1
          obtain ⟨k, T, hk, rfl, pl0, pl1, ft⟩ := hrel
          by_cases hlt : k < ls.length
          · have hltz : (k : Int) < (ls.length : Int) := by omega
            rw [drop_one ls hlt] at ft
            obtain ⟨gl, rfl, e1, hv1, hv2⟩ := ft.cell hlt
            have tk := hid (take_one ls hlt)
            generalize ls.getD k 0 = x at *
            have wt := wait_head ft hN2' ⟨pl0, by omega⟩
            clear ft
            go_wp2_with (go_at_call 11; refine wt.mono ?_; rintro e w7 ⟨rfl, T7, p7, f7⟩; have F7 := hid f7; clear f7 wt)
            refine ⟨⟨k + 1, T7, by omega, by go_num, by omega, by omega, by rw [tk.out]; exact F7.out⟩, ?_⟩
            simp [intOf]; omega
          · have hltz : ¬ (k : Int) < (ls.length : Int) := by omega
            have hkl : k = ls.length := by omega
            subst hkl
            rw [List.drop_length, List.take_length] at ft
            have pk := pick_none ft hN2'
            have HF := hid ft
            clear ft
            go_wp2_with (first
              | (go_at_call 22; refine pk.mono ?_; rintro e w6 ⟨rfl, k6⟩; have l3 := line3 (HF.out.keep k6) hN2'; clear k6 pk)
              | (go_at_call 25; refine l3.mono ?_; rintro e w7 ⟨ya, yc, rfl, f7, z7⟩; have sl := same_line f7 z7; clear f7 z7 l3)
              | (go_at_call 24; refine sl.mono ?_; rintro e w8 ⟨rfl, f8⟩; have l2 := line2 f8 hN2'; clear f8 sl)
              | (go_at_call 25; refine l2.mono ?_; rintro e w9 ⟨⟨xa, xc, rfl⟩, f9⟩; have F9 := hid f9; clear f9 l2))
            go_ret
            exact ⟨rfl, F9.out.tn.2.1⟩
end Go.Proofs.Ytofkacfchkimiaa
