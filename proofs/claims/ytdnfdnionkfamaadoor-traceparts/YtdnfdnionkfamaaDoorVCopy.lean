/-
  trace: copyOf, Project.
-/
import Derived.Test.YtdnfdnionkfamaaDoorVDat
import Derived.WalkKit
namespace Go.Proofs.YtdnfdnionkfamaaDoor
open Go.RowKit
set_option linter.unusedVariables false
set_option linter.unusedSimpArgs false
set_option maxRecDepth 100000

section
variable {w : World} {a : Act} {o : Oper}
theorem er_cCopy (x : Operand) (t : TypeId) (ho : o.op = .call { callee := .value (.func 12), args := #[x], argTypes := #[t] }) (v : Value) (hx : a.eval x = v) : (execOp a.eval o).run Tryd.prog w = .ok (.enter 12 #[v]) w := by
  subst hx
  simp [execOp, ho, go_sem, Act.eval]
end
theorem wpList_apB {w : World} {ops : Array Oper} {rest : List Oper} {o : Oper} {a : Act} {Q : Exit → Act → World → Prop} (hgd : o.guard = none) (s x : Operand) (t e : TypeId)
    (ho : o.op = .call { callee := .builtin .append, args := #[s, x], argTypes := #[t, t] }) (B : Nat) (z : Value) (size bytes : Nat) (ht : Tryd.prog.underlying t = some (.slice e)) (hi : (Tryd.prog.info? e).map (fun i => (i.zero, i.size, i.bytes)) = some (some z, size, bytes)) (hzs : z.cells.size = size) (hsz : 0 < size)
    (v : Value) (n : Nat) (us : List Value) (hs : a.eval s = v) (hv : w.ownsRow B e size v n us) (hB : B ≤ w.heap.size) (ad : Addr) (m c : Nat) (news : List Value) (hx : a.eval x = .slice (some ad) m c) (hl : news.length = m * size) (hnews : ∀ j u, news[j]? = some u → w.cell? (ad.add j) = some u) (h1 : ∀ u ∈ news, u.oneCell' = true) (hm : 1 ≤ m) (hn : n + m ≤ 9007199254740992) (hb : (n + m) * bytes ≤ 140737488355328)
    (h : ∀ g yc w', Hid (w'.ownsRow B e size (.slice (some ⟨g, 0, none⟩) (n + m) yc) (n + m) (us ++ news)) → Hid (Kept (fun k => v.ownBlock = some k) w w') → wpList Tryd.prog ops Q rest (a.put o.dst (.slice (some ⟨g, 0, none⟩) (n + m) yc)) w') : wpList Tryd.prog ops Q (o :: rest) a w := by
  obtain ⟨i0, hi, hz0, hz1, hz2⟩ := info_parts hi
  refine wpList_append_own _ hgd s x t ho B e i0 z size bytes ht hi hz0 hz1 hz2 hzs hsz v n us hs hv ad m c news hx hl hnews h1 (by unfold maxLen; omega) hb hB ?_
  intro v' w' own1 grow1 _
  obtain ⟨ya, yn, yc, rfl⟩ := own_slice own1
  obtain ⟨g, rfl, rfl⟩ : ∃ g, ya = some ⟨g, 0, none⟩ ∧ yn = n + m := by
    rcases own1.2 with ⟨h2, h3⟩ | ⟨g, cap, cur, h2, _⟩
    · omega
    · injection h2 with h2 h3 _; exact ⟨g, h2, h3⟩
  exact h g yc w' own1 (Kept.grown (Kept.refl _ _) grow1 (fun k e => .inl e))
def R7 (k0 k1 k2 k3 k4 k5 : Int) (v : Value) : Array Value := #[.int .i64 k0, .int .i64 k1, .int .i64 k2, .int .i64 k3, .int .i64 k4, .int .i64 k5, v]
set_option maxHeartbeats 4000000 in
theorem copyRaw {F : Nat → Prop} {da : Option Addr} {dn dc : Nat} {x : List Int} (w : World) (k0 k1 k2 k3 k4 k5 : Int) (hz : Zs w F da dn dc x) (hd : dn ≤ 17592186044416) :
    Calls Tryd.prog 12 #[.agg #[.int .i64 k0, .int .i64 k1, .int .i64 k2, .int .i64 k3, .int .i64 k4, .int .i64 k5, .slice da dn dc]] w fun r w' => ∃ ya yc, r = .returned (.agg (R7 k0 k1 k2 k3 k4 k5 (.slice ya dn yc))) ∧ w'.ownsRow w.heap.size 2 1 (.slice ya dn yc) dn (x.map iv) ∧ Kept No w w' := by
  obtain ⟨w2, e2⟩ : ∃ w2, w2 = (w.alloc (.cells #[.int .i64 k0, .int .i64 k1, .int .i64 k2, .int .i64 k3, .int .i64 k4, .int .i64 k5, .slice da dn dc] 28)).alloc (.cells #[.int .i64 0, .int .i64 0, .int .i64 0, .int .i64 0, .int .i64 0, .int .i64 0, .slice none 0 0] 28) := ⟨_, rfl⟩
  have K1 : Kept No w w2 := by rw [e2]; exact ((Kept.refl No w).alloc _).alloc _
  have BA : w2.heap[w.heap.size]? = some (.cells #[.int .i64 k0, .int .i64 k1, .int .i64 k2, .int .i64 k3, .int .i64 k4, .int .i64 k5, .slice da dn dc] 28) := by rw [e2]; exact ((Kept.refl No _).alloc _).at' (alloc_new w _) (fun e => e)
  have BR : w2.heap[w.heap.size + 1]? = some (.cells #[.int .i64 0, .int .i64 0, .int .i64 0, .int .i64 0, .int .i64 0, .int .i64 0, .slice none 0 0] 28) := by
    have := alloc_new (w.alloc (.cells #[.int .i64 k0, .int .i64 k1, .int .i64 k2, .int .i64 k3, .int .i64 k4, .int .i64 k5, .slice da dn dc] 28)) (.cells #[.int .i64 0, .int .i64 0, .int .i64 0, .int .i64 0, .int .i64 0, .int .i64 0, .slice none 0 0] 28)
    rw [World.size_alloc] at this
    rw [e2]; exact this
  have S1 : Hid (w.heap.size + 1 < w2.heap.size) := heap_lt BR
  have hv := (hz.kept K1 (fun _ _ e => e)).vs
  have c3a : w2.cell? ⟨w.heap.size, 6, none⟩ = some (.slice da dn dc) := (cell_blk BA 6).trans rfl
  have H1 := hid (And.intro K1 (And.intro BA (And.intro BR hv)))
  clear K1 BA BR hz hv
  go_enter Tryd.func12, Tryd.ntmps12
  go_upto_region 1 with fail
  rw [← e2]
  clear e2
  go_upto_region 2 with (at_builtin; refine wpList_cpv rfl _ _ 26 2 rfl _ 8 Tryd.underlying26 Tryd.infoW rfl w2.heap.size _ rfl (World.ownsRow_nil _ _ _ _) (Nat.le_refl _) _ dn dc rfl _ _ H1.out.2.2.2 (iv_one x) (by omega) ?_; intro ya yc w3 o3 k3'; have k3 : Kept No w2 w3 := k3'.out.mono (fun k e => by cases e); have b1 := k3.at' H1.out.2.1 (fun e => e); have b2 := k3.at' H1.out.2.2.1 (fun e => e); have c3 := (cell_blk b1 6).trans rfl; have fa := fz_blk b1 6; have H3 := hid (And.intro o3.out (And.intro k3 (And.intro b1 b2))); clear o3 k3 k3' b1 b2)
  clear c3a
  obtain ⟨w4, e4⟩ : ∃ w4, w4 = w3.setCell ⟨w.heap.size, 6, none⟩ (.slice ya dn yc) := ⟨_, rfl⟩
  have K4 : Kept (fun k => k = w.heap.size) w3 w4 := by rw [e4]; exact (Kept.refl (fun k => k = w.heap.size) w3).setCell (p := ⟨w.heap.size, 6, none⟩) (.inl rfl) _
  have B4 : w4.heap[w.heap.size]? = some (.cells (R7 k0 k1 k2 k3 k4 k5 (.slice ya dn yc)) 28) := by rw [e4]; exact set_blk H3.out.2.2.1 6 _
  have B5 : w4.heap[w.heap.size + 1]? = some (.cells #[.int .i64 0, .int .i64 0, .int .i64 0, .int .i64 0, .int .i64 0, .int .i64 0, .slice none 0 0] 28) := K4.at' H3.out.2.2.2 (fun e => by omega)
  have LD := hid (ldSt (w := w4) (b := w.heap.size) (o := 0) 28 _ (R7 k0 k1 k2 k3 k4 k5 (.slice ya dn yc)) (fun j v hv => by rw [Nat.zero_add, cell_blk B4, ← Array.getElem?_toList]; exact hv) Tryd.underlying28 rfl Tryd.infoI4)
  have H4 := hid (And.intro K4 (And.intro B4 B5))
  clear K4 B4 B5 c3 fa
  rw [← e4]
  clear e4
  go_wp2_with (first
    | (refine l_take 7 rfl rfl (er_ldX 28 (.tmp 1) rfl (.pointer (some ⟨w.heap.size, 0, none⟩)) (.agg (R7 k0 k1 k2 k3 k4 k5 (.slice ya dn yc))) rfl LD.out) ?_)
    | (refine l_turn rfl rfl (er_stI _ _ rfl (w.heap.size + 1) (R7 k0 k1 k2 k3 k4 k5 (.slice ya dn yc)) _ rfl rfl H4.out.2.2 rfl rfl (by simp [R7, Value.oneCell'])) ?_))
  have kq : Kept (fun k => k = w.heap.size + 1) w4 (w4.setRow (w.heap.size + 1) (R7 k0 k1 k2 k3 k4 k5 (.slice ya dn yc))) := (Kept.refl (fun k => k = w.heap.size + 1) w4).setRow (.inl rfl) _
  have hfin : (w4.setRow (w.heap.size + 1) (R7 k0 k1 k2 k3 k4 k5 (.slice ya dn yc))).heap[w.heap.size + 1]? = some (.cells (R7 k0 k1 k2 k3 k4 k5 (.slice ya dn yc)) 28) := setRow_heap _ _ _ _ _ (0, 0) H4.out.2.2
  refine bodyPost_ret (results_cell_row rfl _ _ (w.heap.size + 1) 28 (R7 k0 k1 k2 k3 k4 k5 (.slice ya dn yc)) (0, 0) _ rfl hfin Tryd.underlying28 rfl (by kernel_rfl)) rfl ?_
  have s1 := S1.out
  have kk : Kept (fun k => k = w.heap.size ∨ k = w.heap.size + 1) w3 (w4.setRow (w.heap.size + 1) (R7 k0 k1 k2 k3 k4 k5 (.slice ya dn yc))) := (H4.out.1.mono (fun k e => .inl e)).trans (kq.mono (fun k e => .inr e)) (fun k e => .inl e)
  exact ⟨ya, yc, rfl, kk.owns (owns_base H3.out.1 (by omega)) (fun k hk e => by have := (owns_blk H3.out.1 hk).1; omega), (H1.out.1.trans H3.out.2.1 (fun _ e => .inl e)).trans kk (fun k e => .inr (by omega))⟩
theorem copy_any {F : Nat → Prop} {x : Ev} {da : Option Addr} {dc : Nat} (w : World) (B : Nat) (hr : Ir w F x da dc) :
    Calls Tryd.prog 12 #[.agg (x.val da dc)] w fun r w' => ∃ ya yc, r = .returned (.agg (x.val ya yc)) ∧ Ir w' (Fd w' B) x ya yc ∧ Kept No w w' := by
  refine (copyRaw w x.tk x.pt x.kd x.pr x.ea x.eb hr.zs hr.sm).mono ?_
  rintro r w' ⟨ya, yc, rfl, ho, k⟩
  obtain ⟨a', c', e, hz⟩ := Zs.of_owns ho
  injection e with e1 _ e3
  subst e1 e3
  refine ⟨ya, yc, rfl, ⟨hz.mono (fun g hg => .inr ?_), hr.sm, hr.t6⟩, k⟩
  obtain ⟨_, cs, h2⟩ := owns_blk ho hg
  exact ⟨cs, _, h2⟩
theorem take_snoc {α : Type} {l : List α} {i : Nat} {x : α} (h : l[i]? = some x) : l.take (i + 1) = l.take i ++ [x] := by
  obtain ⟨hi, rfl⟩ := List.getElem?_eq_some_iff.1 h
  rw [List.take_succ_eq_append_getElem hi]
set_option maxHeartbeats 4000000 in
theorem project_any {F : Nat → Prop} {a : Option Addr} {n c : Nat} {xs : List Ev} (p : Int) (w : World) (hl : Il w F a n c xs) (hn : n * 72 ≤ 140737488351232) :
    Calls Tryd.prog 7 #[.slice a n c, .int .i64 p] w fun r w' => ∃ v', r = .returned v' ∧ Gi w' w.heap.size v' (prj p xs).length (prj p xs) ∧ Kept No w w' := by
  have hlc := hl.cap
  have hlm := hl.max
  have HL := hid (And.intro hl.low (Nat.le_refl w.heap.size))
  have HPL : Hid (∀ k, k ≤ n → (prj p (xs.take k)).length ≤ k) := fun k hk => Nat.le_trans (prj_len _ _) (by rw [List.length_take]; omega)
  have HLN := hid hl.len
  clear hl
  obtain ⟨B, hB⟩ : ∃ B, B = w.heap.size := ⟨_, rfl⟩
  rw [← hB] at HL ⊢
  go_enter Tryd.func7, Tryd.ntmps7
  go_upto_region 3 with fail
  go_wp2
  go_loopw [5, 10] (fun u5 u10 wr => ∃ (k : Nat), k ≤ n ∧ u10 = .int .i64 k ∧ Gi wr B u5 (prj p (xs.take k)).length (prj p (xs.take k)) ∧ Kept (fun k => B ≤ k) w wr) (fun _ u10 _ => n - (intOf u10).toNat)
  case atStart => exact ⟨0, by omega, rfl, Gi.nil _ _, Kept.refl _ _⟩
  case round =>
    obtain ⟨k, hk, rfl, gi, kr⟩ := hrel
    by_cases hlt : k < n
    · have hltz : (k : Int) < (n : Int) := by omega
      have ilr := HL.out.1.kept kr (fun b hb e => by omega)
      obtain ⟨x, hx⟩ : ∃ x, xs[k]? = some x := ⟨_, List.getElem?_eq_getElem (by rw [HLN.out]; exact hlt)⟩
      obtain ⟨b, o, da, dc, rfl, _, hc, ir⟩ := ilr.at' k x hx
      have LD := hid (ldI hc)
      have HPK := HPL.out k hk
      have HTS : Hid (xs.take (k + 1) = xs.take k ++ [x]) := take_snoc hx
      have HG := hid (And.intro gi (And.intro kr ir))
      clear gi kr ir ilr hc hx
      go_upto_region 4 with fail
      go_cut [7] (fun u wd => ∃ pb, u = .pointer (some ⟨pb, 0, none⟩) ∧ wd.heap[pb]? = some (.cells (x.val da dc) 28) ∧ Kept No wr wd)
      case first =>
        go_wp2_with (first
          | (refine l_take 13 rfl rfl (er_ldX 28 (.tmp 12) rfl (.pointer (some ⟨b, o + k * 7, none⟩)) (.agg (x.val da dc)) rfl LD.out) ?_)
          | (refine l_make 7 rfl rfl (er_alI rfl) ?_)
          | (refine l_turn rfl rfl (er_stI _ _ rfl wr.heap.size (x.val da dc) _ rfl rfl (alloc_new wr _) rfl rfl (x.val_one da dc)) ?_))
        go_meet
        exact ⟨wr.heap.size, rfl, setRow_heap _ _ _ _ _ (0, 0) (alloc_new wr _), ((Kept.refl No wr).alloc _).setRow (.inr (Nat.le_refl _)) _⟩
      case rest =>
      rename World => w3
      obtain ⟨pb, rfl, hpb, k3⟩ := hcut
      have LP := hid (ldI (w := w3) (b := pb) (o := 0) (x := x) (da := da) (dc := dc) (fun j v hv => by rw [Nat.zero_add, cell_blk hpb, ← Array.getElem?_toList]; exact hv))
      have cp : w3.cell? ⟨pb, 1, none⟩ = some (.int .i64 x.pt) := (cell_blk hpb 1).trans rfl
      have H3 := hid k3
      clear k3 hpb LD
      by_cases hpe : x.pt = p
      · have hpt : (x.pt == p) = true := by simp [hpe]
        have CC := hid (copy_any w3 B (HG.out.2.2.keep H3.out))
        have HPT := hid hpe
        clear hpe
        obtain ⟨xp, hxp⟩ : ∃ xp, xp = x.pt := ⟨_, rfl⟩
        rw [← hxp] at cp hpt
        obtain ⟨m, hm⟩ : ∃ m, m = (prj p (xs.take k)).length := ⟨_, rfl⟩
        rw [← hm] at HPK HG
        go_wp2_with (first
          | (refine l_take 19 rfl rfl (er_ldX 28 (.tmp 7) rfl (.pointer (some ⟨pb, 0, none⟩)) (.agg (x.val da dc)) rfl LP.out) ?_)
          | (go_at_call 12; refine CC.out.mono ?_; rintro r w4 ⟨ya, yc, rfl, ir4, k4⟩; have H4 := hid (And.intro ir4 (H3.out.trans k4 (fun _ e => e.elim))); clear ir4 k4)
          | (refine l_make 21 rfl rfl (er_bsG 22 28 7 72 Z7 (x.val ya yc) _ rfl Tryd.underlying22 Tryd.infoI (by decide) (by decide) rfl (fill_I x ya yc)) ?_)
          | (at_builtin; go_loud (obtain ⟨As, gj⟩ := HG.out.1; refine wpList_apB rfl _ _ 22 28 rfl B (.agg Z7) 7 72 Tryd.underlying22 Tryd.infoI rfl (by decide) u5 m _ rfl ((gj.keep (H4.out.2.alloc _)).own) (by rw [World.size_alloc]; have h1 := HG.out.2.1.size; have h2 := H4.out.2.size; omega) ⟨w4.heap.size, 0, none⟩ 1 1 (x.val ya yc).toList rfl rfl (news_alloc w4 (x.val ya yc) 28) (all_mem (x.val_one ya yc)) (by omega) (by omega) (by omega) ?_; intro g7 c7 w5 o5 k5; have HJ := hid gj; clear gj)))
        have K4a : Kept No wr (w4.alloc (.cells (x.val ya yc) 28)) := H4.out.2.alloc _
        refine ⟨⟨k + 1, by omega, rfl, ?_, ?_⟩, ?_⟩
        · rw [HTS.out, prj_snoc, if_pos HPT.out, List.length_append, ← hm]
          exact (HJ.out.keep K4a).more ((H4.out.1.keep ((Kept.refl No w4).alloc _)).mono (fun q hq => hq.kept ((Kept.refl No w4).alloc _) (fun e => e))) k5.out o5.out
        · exact (HG.out.2.1.trans K4a (fun _ e => e.elim)).trans k5.out (fun q e => .inl (HJ.out.low e))
        · simp [intOf]; omega
      · have hpt : (x.pt == p) = false := by simp [hpe]
        have HN : Hid (Gi w3 B u5 (prj p (xs.take (k + 1))).length (prj p (xs.take (k + 1))) ∧ Kept (fun k => B ≤ k) w w3) := by
          rw [HTS.out, prj_snoc, if_neg hpe]
          exact ⟨HG.out.1.keep H3.out, HG.out.2.1.trans H3.out (fun _ e => e.elim)⟩
        clear hpe
        obtain ⟨xp, hxp⟩ : ∃ xp, xp = x.pt := ⟨_, rfl⟩
        rw [← hxp] at cp hpt
        go_wp2
        refine ⟨⟨k + 1, by omega, rfl, HN.out⟩, ?_⟩
        simp [intOf]; omega
    · have hltz : ¬ (k : Int) < (n : Int) := by omega
      obtain rfl : k = n := by omega
      have HG : Hid (Gi wr B u5 (prj p xs).length (prj p xs) ∧ Kept (fun k => B ≤ k) w wr) := by
        rw [List.take_of_length_le (by rw [HLN.out]; exact Nat.le_refl _)] at gi
        exact ⟨gi, kr⟩
      clear gi kr
      go_wp2
      go_ret
      exact ⟨_, rfl, by rw [← hB]; exact HG.out.1, (Kept.refl No w).trans HG.out.2 (fun k e => .inr (by omega))⟩
end Go.Proofs.YtdnfdnionkfamaaDoor
