/-
  PortLoads: the law's walk.
-/
import Derived.Test.YthebokkogeigoaaSCmp
namespace Go.Proofs.Ythebokkogeigoaa
open Go.RowKit
set_option linter.unusedVariables false
set_option linter.unusedSimpArgs false
set_option maxRecDepth 100000

/-- what the document's Load answers, its two values apart -/
def RR (w : World) (F : Nat → Prop) (n sn : Nat) (ps : Nat → Pr) (part : Int) (ss : Nat → Ps) (wv fv : Value) (w' : World) : Prop :=
  (sn = n ∧ allS ps part ss n = true ∧ ∃ va vc, wv = .slice va n vc ∧ fv = .int .i64 0 ∧ Gl w.heap.size F w' (.slice va n vc) n (fun i => wantS (ps i) part (ss i)) ∧ Kept No w w') ∨ (¬ (sn = n ∧ allS ps part ss n = true) ∧ wv = .slice none 0 0 ∧ fv = .int .i64 20 ∧ Kept No w w')
theorem RLd.res {w : World} {F : Nat → Prop} {n sn : Nat} {ps : Nat → Pr} {part : Int} {ss : Nat → Ps} {e : Ending} {w' : World} (h : RLd w F n sn ps part ss e w') : ∃ wv fv, e = .returned (.tuple #[wv, fv]) ∧ RR w F n sn ps part ss wv fv w' := by
  rcases h with ⟨h1, h2, va, vc, rfl, h3⟩ | ⟨h1, rfl, h2⟩
  · exact ⟨_, _, rfl, .inl ⟨h1, h2, va, vc, rfl, rfl, h3⟩⟩
  · exact ⟨_, _, rfl, .inr ⟨h1, rfl, rfl, h2⟩⟩
theorem RR.kept {w : World} {F : Nat → Prop} {n sn : Nat} {ps : Nat → Pr} {part : Int} {ss : Nat → Ps} {wv fv : Value} {w' : World} (h : RR w F n sn ps part ss wv fv w') : Kept No w w' := by
  rcases h with ⟨_, _, _, _, _, _, _, k⟩ | ⟨_, _, _, k⟩ <;> exact k
theorem pl_row {w : World} {B c n : Nat} {a : Option Addr} {ps : Nat → Pr} (h : w.ownsRow B 30 6 (.slice a n c) n (cat (fun i => pc (ps i)) n)) : Pl w (fun k => k < w.heap.size) a n c ps := by
  have hc := own_cap h
  refine ⟨hc.1, hc.2, fun i hi => ?_⟩
  obtain ⟨g, rfl, h1, h2⟩ := (own_some h).2 (by omega)
  refine ⟨g, 0, rfl, h2, ?_, ?_, ?_, ?_, ?_, ?_⟩
  · rw [Nat.zero_add]; exact port_row h hi 0 _ rfl
  · rw [Nat.zero_add]; exact port_row h hi 1 _ rfl
  · rw [Nat.zero_add]; exact port_row h hi 2 _ rfl
  · rw [Nat.zero_add]; exact port_row h hi 3 _ rfl
  · rw [Nat.zero_add]; exact port_row h hi 4 _ rfl
  · rw [Nat.zero_add]; exact port_row h hi 5 _ rfl
theorem fit_kd (p : Pr) : (fitP p).kd = 0 ∨ (fitP p).kd = 1 ∧ 0 ≤ (fitP p).dp := by
  unfold fitP
  by_cases h : p.kd % 2 = 1
  · right
    simp only [h, if_true, true_and]
    omega
  · left
    show p.kd % 2 = 0
    omega
theorem row_slice {w : World} {B t s n : Nat} {v : Value} {L : List Value} (h : w.ownsRow B t s v n L) : ∃ a c, v = .slice a n c := by
  rcases h.2 with ⟨h2, h3⟩ | ⟨g, cap, cur, h2, _⟩
  · exact ⟨none, 0, by rw [h2, h3]⟩
  · exact ⟨_, _, h2⟩
theorem pts_slice {w : World} {B : Nat} {pv : Value} {z1 z2 : Nat → Nat} (h : Pts w B pv 3 z1 z2) : ∃ g c, pv = .slice (some ⟨g, 0, none⟩) 3 c := by
  obtain ⟨a, c, rfl⟩ := row_slice h.own
  obtain ⟨g, rfl, _⟩ := (own_some h.own).2 (by omega)
  exact ⟨g, c, rfl⟩
theorem Try.infoS5 : (Try.prog.info? 61).map (·.size) = some 5 := by kernel_rfl
def ZS5 : Array Value := #[.slice none 0 0, .bool false, .int .i64 0, .slice none 0 0, .int .i64 0]
theorem Try.infoSZ : (Try.prog.info? 61).map (fun i => (i.zero, i.size, i.bytes)) = some (some (.agg ZS5), 5, 72) := by kernel_rfl
theorem fill_g (s : Ps) (d : Gd) : Instr.fill (fun i => some (i * 5, 5)) ((Array.range (1 * 5)).map ((Value.agg ZS5).cells[· % (Value.agg ZS5).cells.size]!)) [(0, .agg (gval s d))] = some (gval s d) := by kernel_rfl
theorem gval_all (s : Ps) (d : Gd) : (gval s d).all (·.oneCell') = true := all_oneCell_toArray (Ps.val_one _)
def MS : Array Value := #[.slice none 0 0, .bool false, .int .i64 0, .slice none 0 0, .int .i64 (-77)]
theorem built_s7 : Try.prog.built 61 [(2, .int .i64 (-77))] = some MS := by kernel_rfl
theorem fill_s7 : Instr.fill (fun i => some (i * 5, 5)) ((Array.range (1 * 5)).map ((Value.agg ZS5).cells[· % (Value.agg ZS5).cells.size]!)) [(0, .agg MS)] = some MS := by kernel_rfl
theorem MS_all : MS.all (·.oneCell') = true := by simp [MS, Value.oneCell']
section
variable {w : World} {a : Act} {o : Oper}
theorem er_neqB (x y : Operand) (ho : o.op = .binOp .neq 4 x y 4) (u v : Bool) (c : Bool) (hx : a.eval x = .bool u) (hy : a.eval y = .bool v) (hc : (u != v) = c) : (execOp a.eval o).run Try.prog w = .ok (.value (.bool c)) w := by
  subst hc
  simp only [execOp, ho, hx, hy]
  cases u <;> cases v <;> simp [go_sem]
theorem er_eqN (x : Operand) (ho : o.op = .binOp .eql 31 x (.const (.pointer none)) 31) (u : Option Addr) (hx : a.eval x = .pointer u) : (execOp a.eval o).run Try.prog w = .ok (.value (.bool u.isNone)) w := by
  simp only [execOp, ho, hx]
  cases u <;> simp [go_sem]
theorem er_ixS (x y : Operand) (ho : o.op = .indexAddr 55 x y) (g i n c : Nat) (hx : a.eval x = .slice (some ⟨g, 0, none⟩) n c) (hy : a.eval y = .int .i64 (i : Int)) (hi : i < n) (hn : n ≤ 2097152) : (execOp a.eval o).run Try.prog w = .ok (.value (.pointer (some ⟨g, i * 5, none⟩))) w := by
  simp only [execOp, ho, hx, hy]
  simp [go_sem, add_none]
  omega
theorem er_slS (x y : Operand) (ho : o.op = .slice 55 x none (some y) none) (g m c j : Nat) (hx : a.eval x = .slice (some ⟨g, 0, none⟩) m c) (hy : a.eval y = .int .i64 j) (hj : j ≤ c) : (execOp a.eval o).run Try.prog w = .ok (.value (.slice (some ⟨g, 0, none⟩) j c)) w := by
  simp only [execOp, ho, hx, Option.map_some, Option.map_none, hy]
  have h2 : (j : Int) ≤ (c : Int) := by omega
  simp [go_sem, h2, hj, add_none]
end
set_option maxHeartbeats 16000000 in
theorem loads_law {F : Nat → Prop} {a sa : Option Addr} {m c sn sc : Nat} {ps0 : Nat → Pr} {ss : Nat → Ps} (w : World) (p : Int) (hl : Pl w F a m c ps0) (hs : Sr w F sa sn sc ss) (hsm : Sml sn ss) (hF : ∀ k, F k → k < w.heap.size) (hp0 : 0 ≤ p) (hp1 : p < 256) :
    Calls Try.prog 5 #[.slice a m c, .int .u8 p, .slice sa sn sc] w fun r w' => r = .returned (.bool true) ∧ Kept No w w' := by
  have hs1 := hs.cap
  have hs2 := hs.max
  have hs3 := hs.sm
  obtain ⟨fs, hfs⟩ : ∃ fs : Nat → Pr, fs = fun i => fitP (ps0 i) := ⟨_, rfl⟩
  have CI := hid (image_any w hl)
  rw [show (fun i => pc (fitP (ps0 i))) = fun i => pc (fs i) by rw [hfs]] at CI
  obtain ⟨n, en⟩ : ∃ n, n = min m 64 := ⟨_, rfl⟩
  have hn : n ≤ 64 := by omega
  rw [← en] at CI
  have hk : ∀ i, i < n → (fs i).kd = 0 ∨ (fs i).kd = 1 ∧ 0 ≤ (fs i).dp := fun i _ => by rw [hfs]; exact fit_kd _
  have HD : Hid (∀ i, i < n → (fs i).dp ≤ 64) := fun i _ => by rw [hfs]; exact fit_dp _
  have HH := hid (And.intro hs (And.intro hsm (And.intro hF hk)))
  clear hs hsm hF hl hfs en hk
  go_enter Try.func5, Try.ntmps5
  go_upto_region 2 with (go_at_call 7; refine CI.out.mono ?_; rintro r w1 ⟨pv, lv, z1, z2, rfl, hpt, hpl, k1⟩; obtain ⟨gp, c3, rfl⟩ := pts_slice hpt; obtain ⟨la, lc, rfl⟩ := row_slice hpl; have H1 := hid (And.intro hpt (And.intro hpl k1)); clear hpt hpl k1)
  obtain ⟨w2, e2⟩ : ∃ w2, w2 = w1.alloc (.cells #[.slice (some ⟨gp, 0, none⟩) 3 c3, .slice la n lc, .slice none 0 0] 27) := ⟨_, rfl⟩
  rw [← e2]
  have K2 : Kept No w1 w2 := by rw [e2]; exact (Kept.refl No w1).alloc _
  have B2 : w2.heap[w1.heap.size]? = some (.cells #[.slice (some ⟨gp, 0, none⟩) 3 c3, .slice la n lc, .slice none 0 0] 27) := by rw [e2]; exact alloc_new w1 _
  clear e2
  have KK2 : Kept No w w2 := H1.out.2.2.trans K2 (fun _ e => e.elim)
  have c0 : w2.cell? ⟨w1.heap.size, 0, none⟩ = some (.slice (some ⟨gp, 0, none⟩) 3 c3) := (cell_blk B2 0).trans rfl
  have c1 : w2.cell? ⟨w1.heap.size, 1, none⟩ = some (.slice la n lc) := (cell_blk B2 1).trans rfl
  have c2 : w2.cell? ⟨w1.heap.size, 2, none⟩ = some (.slice none 0 0) := (cell_blk B2 2).trans rfl
  have pl2 := pl_row (K2.owns H1.out.2.1 (fun _ _ e => e))
  have CL := hid (fun part => rload_any (pv := .slice (some ⟨gp, 0, none⟩) 3 c3) (ch := .slice none 0 0) w2 part pl2 (fun i hi => (HH.out.2.2.2 i hi).imp id (fun h => h.1)) (HH.out.1.kept KK2 (fun _ _ e => e)) (fun k hk => Nat.lt_of_lt_of_le (HH.out.2.2.1 k hk) KK2.size))
  have H2 := hid (And.intro KK2 (And.intro B2 (And.intro (H1.out.1.keep K2) (K2.owns H1.out.2.1 (fun _ _ e => e)))))
  clear K2 B2 KK2 pl2 CI
  go_cut [8] (fun x wd => ∃ q : Int, x = .int .i64 q ∧ w2 = wd)
  case first =>
    go_wp2
    go_meet
    exact ⟨_, rfl, rfl⟩
  case rest =>
  rename World => wz
  obtain ⟨q, rfl, ez⟩ := hcut
  subst ez
  go_upto_region 3 with fail
  go_cut [9, 10] (fun x y wd => RR w2 F n sn fs q ss x y wd)
  case first =>
    go_wp2_with (go_at_call 18; refine (CL.out q).mono ?_; intro r w3 hr; obtain ⟨wv, fv, rfl, res⟩ := hr.res; clear hr; have RS := hid res; clear res)
    go_meet
    exact RS.out
  case rest =>
  rename World => w3
  have k3 := hcut.kept
  have H3 := hid (And.intro hcut (And.intro k3 (H2.out.1.trans k3 (fun _ e => e.elim))))
  have SR3 := hid (HH.out.1.kept H3.out.2.2 (fun _ _ e => e))
  clear hcut k3 c0 c1 c2 CL
  go_upto_region 5 with fail
  go_wp2
  go_loopw [11, 12] (fun u11 u12 wr => ∃ (k : Nat) (va : Option Addr) (vc : Nat) (gd : Nat → Gd), k ≤ sn ∧ u11 = .slice va k vc ∧ u12 = .int .i64 k ∧ Gv wr w3.heap.size (.slice va k vc) k 0 0 [] ss gd ∧ Kept No w3 wr) (fun _ u12 _ => sn - (intOf u12).toNat)
  case atStart => exact ⟨0, none, 0, fun _ => ⟨0, 0, none, 0, fun _ => (0, 0), 0, 0⟩, by omega, rfl, rfl, Gv.nil _ _ _ _, Kept.refl _ _⟩
  case round =>
    obtain ⟨k, va, vc, gd, hk, rfl, rfl, gv, kr⟩ := hrel
    by_cases hlt : k < sn
    · as_aux_lemma =>
        have hltz : (k : Int) < (sn : Int) := by omega
        obtain ⟨b, o, A, rfl, hb, hcell, vr⟩ := SR3.out.at' k hlt
        have LD := hid (ldSt (w := wr) (b := b) (o := o + k * 5) 61 _ A (fun j v hv => kr.cell ((hcell j (by have := (List.getElem?_eq_some_iff.1 hv).1; rw [Array.length_toList, vr.size.1] at this; exact this)).trans (by rw [← Array.getElem?_toList]; exact hv)) (fun e => e)) Try.underlying61 rfl (by rw [vr.size.1]; exact Try.infoS5))
        obtain ⟨qa, qn, qc, da, dn, dc, eA, mr, zs, hdn⟩ := vr
        have KG := hid (And.intro gv (And.intro kr (And.intro mr (And.intro zs eA))))
        have HQN := hid mr.len
        have SA : Hid (A.size = 5 ∧ A.all (·.oneCell') = true) := by show A.size = 5 ∧ A.all (·.oneCell') = true; rw [eA]; exact ⟨rfl, all_oneCell_toArray (Ps.val_one _)⟩
        have hqc := mr.cap
        have hqm := mr.max
        have hqs := mr.sm
        clear gv kr mr zs hcell eA
        go_upto_region 8 with fail
        go_cut [13] (fun x wd => ∃ pb, x = .pointer (some ⟨pb, 0, none⟩) ∧ wd.heap[pb]? = some (.cells A 61) ∧ wr.heap.size ≤ pb ∧ Kept No wr wd)
        case first =>
          go_wp2_with (first
            | (refine l_take 42 rfl rfl (er_ldX 61 (.tmp 41) rfl (.pointer (some ⟨b, o + k * 5, none⟩)) (.agg A) rfl LD.out) ?_)
            | (refine l_make 13 rfl rfl (er_alS rfl) ?_)
            | (refine l_turn rfl rfl (er_st5 _ _ rfl wr.heap.size A _ rfl rfl (alloc_new wr _) SA.out.1 rfl SA.out.2) ?_))
          go_meet
          exact ⟨wr.heap.size, rfl, setRow_heap _ _ _ _ _ (0, 0) (alloc_new wr _), Nat.le_refl _, ((Kept.refl No wr).alloc _).setRow (.inr (Nat.le_refl _)) _⟩
        case rest =>
        rename World => w8
        obtain ⟨pb, rfl, hpb, hpl, k8⟩ := hcut
        have hA3 : w8.cell? ⟨pb, 3, none⟩ = some (.slice da dn dc) := (cell_blk hpb 3).trans (by rw [KG.out.2.2.2.2]; rfl)
        have f3 := fz_blk hpb 3
        have K38 : Kept No w3 w8 := KG.out.2.1.trans k8 (fun _ e => e.elim)
        have CM := hid (marked_any w8 (KG.out.2.2.2.1.kept K38 (fun _ _ e => e)) (by omega))
        have H8 := hid (And.intro hpb (And.intro hpl (And.intro k8 K38)))
        clear hpb hpl k8 K38
        go_upto_region 10 with (go_at_call 14; refine CM.out.mono ?_; rintro r w9 ⟨dg, dcap, rfl, mk9, k9⟩; have B9 : w9.heap[pb]? = some (.cells A 61) := k9.at' H8.out.1 (fun e => e); have hA3 : w9.cell? ⟨pb, 3, none⟩ = some (.slice da dn dc) := (cell_blk B9 3).trans (by rw [KG.out.2.2.2.2]; rfl); have f3 := fz_blk B9 3; have H9 := hid (And.intro mk9 (And.intro k9 B9)); clear mk9 k9 B9)
        obtain ⟨w10, e10⟩ : ∃ w10, w10 = w9.setCell ⟨pb, 3, none⟩ (.slice (some ⟨dg, 0, none⟩) dn dcap) := ⟨_, rfl⟩
        rw [← e10]
        have hpb9 := heap_lt H8.out.1
        have K10 : Kept (fun x => x = pb) w9 w10 := by rw [e10]; exact (Kept.refl (fun x => x = pb) w9).setCell (p := ⟨pb, 3, none⟩) (.inl rfl) _
        have B10 : w10.heap[pb]? = some (.cells ((ss k).val (.slice qa qn qc) (.slice (some ⟨dg, 0, none⟩) dn dcap)) 61) := by
          have := set_blk H9.out.2.2 3 (.slice (some ⟨dg, 0, none⟩) dn dcap)
          rw [KG.out.2.2.2.2] at this
          rw [e10]; exact this
        have M10 : Mks w10 w8.heap.size dg dn dcap (ss k).d := H9.out.1.kept K10 (fun e => by have h1 := H9.out.1.blk; have e' : dg = pb := e; omega)
        have KA : Kept No wr w10 := (H8.out.2.2.1.trans H9.out.2.1 (fun _ e => e.elim)).trans K10 (fun x e => .inr (by have := H8.out.2.1; have e' : x = pb := e; omega))
        have a0 : w10.cell? ⟨pb, 0, none⟩ = some (.slice qa qn qc) := (cell_blk B10 0).trans rfl
        have H10 := hid (And.intro B10 (And.intro M10 KA))
        clear e10 hpb9 K10 B10 M10 KA CM hA3 f3
        go_upto_region 11 with fail
        go_wp2
        go_loopw [14, 15] (fun u14 u15 wr2 => ∃ (j : Nat) (xa : Option Addr) (xc : Nat) (ms : Nat → Nat × Nat), j ≤ qn ∧ u14 = .slice xa j xc ∧ u15 = .int .i64 j ∧ Mq wr2 w10.heap.size (.slice xa j xc) j ms (ss k).q ∧ Kept No w10 wr2) (fun _ u15 _ => qn - (intOf u15).toNat)
        case atStart => exact ⟨0, none, 0, fun _ => (0, 0), by omega, rfl, rfl, Mq.nil _ _ _ _, Kept.refl _ _⟩
        case round =>
          rename World => wi
          obtain ⟨j, xa, xc, ms, hj, rfl, rfl, mq, ki⟩ := hrel
          have a0i : wi.cell? ⟨pb, 0, none⟩ = some (.slice qa qn qc) := ki.cell a0 (fun e => e)
          clear a0
          by_cases hjl : j < qn
          · have hjz : (j : Int) < (qn : Int) := by omega
            obtain ⟨b2, o2, xda, xdn, xdc, rfl, hb2, hc2, zx, hxn⟩ := KG.out.2.2.1.at' j hjl
            have K3i : Kept No w3 wi := (KG.out.2.1.trans H10.out.2.2 (fun _ e => e.elim)).trans ki (fun _ e => e.elim)
            have cj : wi.cell? ⟨b2, o2 + j, none⟩ = some (.slice xda xdn xdc) := K3i.cell hc2 (fun e => e)
            have CMi := hid (marked_any wi (zx.kept K3i (fun _ _ e => e)) (by omega))
            have ZL := hid zx.len
            have MI2 := hid (And.intro mq ki)
            have S10 := hid ki.size
            clear mq ki K3i zx hc2
            go_wp2_with (first
              | (go_at_call 14; refine CMi.out.mono ?_; rintro r w14 ⟨g4, c4, rfl, mk4, k4⟩; have H14 := hid (And.intro mk4 k4); clear mk4 k4)
              | (refine l_make 63 rfl rfl (er_bsL _ rfl (some ⟨g4, 0, none⟩) xdn c4 rfl) ?_)
              | (at_builtin; refine wpList_apK rfl _ _ 47 22 rfl w10.heap.size (.slice none 0 0) 1 24 Try.underlying47 Try.infoL rfl (by decide) (.slice xa j xc) j _ rfl ((MI2.out.1.keep (H14.out.2.alloc _)).own) (by rw [World.size_alloc]; have h1 := S10.out; have h2 := H14.out.2.size; omega) ⟨w14.heap.size, 0, none⟩ 1 1 [.slice (some ⟨g4, 0, none⟩) xdn c4] rfl rfl (news_alloc w14 #[.slice (some ⟨g4, 0, none⟩) xdn c4] 22) (by intro u hu; rw [List.mem_singleton] at hu; rw [hu]; rfl) (by omega) (by omega) (by decide) ?_; intro g5 c5 w15 o15 k15))
            have hm4 : Mks (w14.alloc (.cells #[.slice (some ⟨g4, 0, none⟩) xdn c4] 22)) wi.heap.size g4 ((ss k).q.getD j []).length c4 ((ss k).q.getD j []) := by
              rw [ZL.out]
              exact H14.out.1.kept ((Kept.refl No w14).alloc _) (fun e => e)
            refine ⟨⟨j + 1, some ⟨g5, 0, none⟩, c5, upd ms j (g4, c4), by omega, rfl, rfl, ?_, ?_⟩, ?_⟩
            · exact MI2.out.1.more (H14.out.2.alloc _) hm4 S10.out k15.out (by rw [ZL.out]; exact o15.out)
            · exact (MI2.out.2.trans (H14.out.2.alloc _) (fun _ e => e.elim)).trans k15.out (fun x e => .inr (owns_blk MI2.out.1.own e).1)
            · simp [intOf]; omega
          · have hjz : ¬ (j : Int) < (qn : Int) := by omega
            obtain rfl : j = qn := by omega
            have Bi : wi.heap[pb]? = some (.cells ((ss k).val (.slice qa j qc) (.slice (some ⟨dg, 0, none⟩) dn dcap)) 61) := ki.at' H10.out.1 (fun e => e)
            have fi := fz_blk Bi 0
            have HI := hid (And.intro Bi (And.intro mq ki))
            clear mq ki Bi
            go_upto_region 16 with fail
            obtain ⟨w16, e16⟩ : ∃ w16, w16 = wi.setCell ⟨pb, 0, none⟩ (.slice xa j xc) := ⟨_, rfl⟩
            rw [← e16]
            have K16 : Kept (fun x => x = pb) wi w16 := by rw [e16]; exact (Kept.refl (fun x => x = pb) wi).setCell (p := ⟨pb, 0, none⟩) (.inl rfl) _
            have B16 : w16.heap[pb]? = some (.cells ((ss k).val (.slice xa j xc) (.slice (some ⟨dg, 0, none⟩) dn dcap)) 61) := by rw [e16]; exact set_blk HI.out.1 0 _
            obtain ⟨d, ed⟩ : ∃ d : Gd, d = ⟨dg, dcap, xa, xc, ms, wr.heap.size, wi.heap.size⟩ := ⟨_, rfl⟩
            have K1i : Kept No wr wi := H10.out.2.2.trans HI.out.2.2 (fun _ e => e.elim)
            have K16r : Kept No wr w16 := K1i.trans K16 (fun x e => .inr (by have := H8.out.2.1; have e' : x = pb := e; omega))
            have ZD := KG.out.2.2.2.1.len
            have EG : gval (ss k) d = (ss k).val (.slice xa j xc) (.slice (some ⟨dg, 0, none⟩) dn dcap) := by rw [ed]; unfold gval; rw [HQN.out, ZD]
            have G16 : G1 w16 (ss k) d := by
              have m10 := H10.out.2.1.blk
              have hp10 := heap_lt H10.out.1
              have hp8 := heap_lt H8.out.1
              have si := HI.out.2.2.size
              have s8 := H8.out.2.2.1.size
              rw [ed]
              refine ⟨?_, ?_, Nat.lt_of_lt_of_le m10.2.1 si, fun i hi => ?_, K16.size⟩
              · rw [ZD]
                exact owns_base ((H10.out.2.1.kept HI.out.2.2 (fun e => e)).kept K16 (fun e => by have e' : dg = pb := e; omega)) s8
              · rw [HQN.out]
                refine (HI.out.2.1.kept K16 (fun g hg e => ?_) (fun i hi e => ?_)).base (by show dg + 1 ≤ _; omega)
                · have h1 := (owns_blk HI.out.2.1.own hg).1
                  have e' : g = pb := e
                  omega
                · have h1 := (HI.out.2.1.mks i hi).blk.1
                  have e' : (ms i).1 = pb := e
                  omega
              · rw [HQN.out] at hi
                exact (HI.out.2.1.mks i hi).blk.2.1
            have LD16 := hid (ldSt (w := w16) (b := pb) (o := 0) 61 _ (gval (ss k) d) (fun l v hv => by
              rw [Nat.zero_add, cell_blk B16, ← EG, ← Array.getElem?_toList]
              exact hv) Try.underlying61 rfl Try.infoS5)
            have H16 := hid (And.intro K16r G16)
            have hlo : Hid (d.lo = wr.heap.size) := by show d.lo = wr.heap.size; rw [ed]
            clear e16 K16 B16 K1i K16r G16 fi a0i EG ZD ed
            go_wp2_with (first
              | (refine l_take 68 rfl rfl (er_ldX 61 (.tmp 13) rfl (.pointer (some ⟨pb, 0, none⟩)) (.agg (gval (ss k) d)) rfl LD16.out) ?_)
              | (refine l_make 69 rfl rfl (er_bsG 55 61 5 72 ZS5 (gval (ss k) d) _ rfl Try.underlying55 Try.infoSZ (by decide) (by decide) rfl (fill_g (ss k) d)) ?_)
              | (at_builtin; refine wpList_apK rfl _ _ 55 61 rfl w3.heap.size (.agg ZS5) 5 72 Try.underlying55 Try.infoSZ rfl (by decide) (.slice va k vc) k _ rfl ((KG.out.1.keep (H16.out.1.alloc _)).own) (by rw [World.size_alloc]; have h1 := KG.out.2.1.size; have h2 := H16.out.1.size; omega) ⟨w16.heap.size, 0, none⟩ 1 1 (gval (ss k) d).toList rfl rfl (news_alloc w16 (gval (ss k) d) 61) (all_mem (gval_all _ _)) (by omega) (by omega) (by decide) ?_; intro g7 c7 w17 o17 k17))
            refine ⟨⟨k + 1, some ⟨g7, 0, none⟩, c7, upd gd k d, by omega, rfl, rfl, ?_, ?_⟩, ?_⟩
            · exact KG.out.1.more (H16.out.1.alloc _) (H16.out.2.kept ((Kept.refl No w16).alloc _) (fun _ _ _ e => e.elim)) hlo.out KG.out.2.1.size k17.out (by have h7 := o17.out; rw [List.append_nil] at h7; exact h7)
            · exact (KG.out.2.1.trans (H16.out.1.alloc _) (fun _ e => e.elim)).trans k17.out (fun x e => .inr (owns_blk KG.out.1.own e).1)
            · simp [intOf]; omega
    · have hltz : ¬ (k : Int) < (sn : Int) := by omega
      obtain rfl : k = sn := by omega
      have GR := hid (And.intro gv kr)
      clear gv kr
      go_upto_region 17 with fail
      go_cut [11] (fun x wd => ∃ g7 c7, x = .slice (some ⟨g7, 0, none⟩) k c7 ∧ k + 1 ≤ c7 ∧ c7 ≤ 9223372036854775807 ∧ Gv wd w3.heap.size (.slice (some ⟨g7, 0, none⟩) (k + 1) c7) k 1 0 MS.toList ss gd ∧ Kept No w3 wd)
      case first =>
        go_wp2_with (first
          | (refine l_take 72 rfl rfl (er_build 61 _ rfl _ (by kernel_rfl) _ built_s7) ?_)
          | (refine l_make 73 rfl rfl (er_bsG 55 61 5 72 ZS5 MS _ rfl Try.underlying55 Try.infoSZ (by decide) (by decide) rfl fill_s7) ?_)
          | (at_builtin; refine wpList_apK rfl _ _ 55 61 rfl w3.heap.size (.agg ZS5) 5 72 Try.underlying55 Try.infoSZ rfl (by decide) (.slice va k vc) k _ rfl ((GR.out.1.keep ((Kept.refl No wr).alloc _)).own) (by rw [World.size_alloc]; have h1 := GR.out.2.size; omega) ⟨wr.heap.size, 0, none⟩ 1 1 MS.toList rfl rfl (news_alloc wr MS 61) (all_mem MS_all) (by omega) (by omega) (by decide) ?_; intro g7 c7 w17 o17 k17; have hc7 := own_cap o17.out))
        go_meet
        exact ⟨g7, c7, rfl, hc7.1, hc7.2, (GR.out.1.keep ((Kept.refl No wr).alloc _)).mark k17.out o17.out, (GR.out.2.alloc _).trans k17.out (fun x e => .inr (owns_blk GR.out.1.own e).1)⟩
      case rest =>
      rename World => w17
      obtain ⟨g7, c7, rfl, hc7, hc8, gv7, k17⟩ := hcut
      have K27 : Kept No w2 w17 := H3.out.2.1.trans k17 (fun _ e => e.elim)
      have B17 := K27.at' H2.out.2.1 (fun e => e)
      have c0 : w17.cell? ⟨w1.heap.size, 0, none⟩ = some (.slice (some ⟨gp, 0, none⟩) 3 c3) := (cell_blk B17 0).trans rfl
      have c1 : w17.cell? ⟨w1.heap.size, 1, none⟩ = some (.slice la n lc) := (cell_blk B17 1).trans rfl
      have c2 : w17.cell? ⟨w1.heap.size, 2, none⟩ = some (.slice none 0 0) := (cell_blk B17 2).trans rfl
      have CO := hid (loaded_any w17 q (H2.out.2.2.1.keep K27) (K27.owns H2.out.2.2.2 (fun _ _ e => e)) hn HH.out.2.2.2 (gv7.sr HH.out.2.1 (by omega)) (fun x hx => hx.2))
      have H17 := hid (And.intro gv7 k17)
      clear gv7 k17 K27 B17 GR
      as_aux_lemma =>
        go_upto_region 18 with fail
        go_cut [16, 17] (fun x y wd => Res w17 n k fs q ss x y wd)
        case first =>
          go_wp2_with (go_at_call 19; refine CO.out.mono ?_; intro r w18 hr; obtain ⟨pv, ev, rfl, res⟩ := hr.res; clear hr; have RS := hid res; clear res)
          go_meet
          exact RS.out
        case rest =>
        rename World => w18
        have k18 := hcut.kept
        have gv8 := H17.out.1.keep k18
        have m18 : w18.cell? ⟨g7, k * 5 + 4, none⟩ = some (.int .i64 (-77)) := by
          refine own_cell gv8.own ?_
          rw [List.getElem?_append_right (by rw [cat_len (s := 5) (fun _ => rfl)]; omega), cat_len (s := 5) (fun _ => rfl), Nat.add_sub_cancel_left]
          rfl
        have H18 := hid (And.intro hcut (And.intro gv8 (And.intro k18 (H17.out.2.trans k18 (fun _ e => e.elim)))))
        clear hcut gv8 k18 c0 c1 c2 CO
        clear hk hlt hltz
        as_aux_lemma =>
          go_upto_region 19 with fail
          go_cut [107] (fun x wd => x = .bool false ∧ w18 = wd)
          case first =>
            as_aux_lemma =>
              rcases H3.out.1 with ⟨e1, e2, wa, wc, rfl, rfl, _⟩ | ⟨e1, rfl, rfl, _⟩
              · rcases H18.out.1 with ⟨_, _, b', mb', c', S', rfl, rfl, _⟩ | ⟨e3, _⟩
                · skip
                  refine wp_region_lit ?_
                  refine l_take 85 rfl rfl (er_mv _ rfl (.int .i64 0) rfl) ?_
                  simp only [Act.put, List.setIfInBounds_toArray, List.set_cons_zero, List.set_cons_succ]
                  refine l_take 86 rfl rfl (er_mv _ rfl (.int .i64 0) rfl) ?_
                  simp only [Act.put, List.setIfInBounds_toArray, List.set_cons_zero, List.set_cons_succ]
                  refine l_take 87 rfl rfl (er_neqI _ _ rfl 0 0 false rfl rfl (by decide)) ?_
                  simp only [Act.put, List.setIfInBounds_toArray, List.set_cons_zero, List.set_cons_succ]
                  refine l_take 88 rfl rfl (er_mv _ rfl (.bool false) rfl) ?_
                  simp only [Act.put, List.setIfInBounds_toArray, List.set_cons_zero, List.set_cons_succ]
                  refine l_take 89 rfl rfl (er_mv _ rfl (.pointer (some ⟨b', 0, none⟩)) rfl) ?_
                  simp only [Act.put, List.setIfInBounds_toArray, List.set_cons_zero, List.set_cons_succ]
                  refine l_take 90 rfl rfl (er_eqN _ rfl (some ⟨b', 0, none⟩) rfl) ?_
                  simp only [Act.put, List.setIfInBounds_toArray, List.set_cons_zero, List.set_cons_succ]
                  refine l_take 91 rfl rfl (er_mv _ rfl (.int .i64 0) rfl) ?_
                  simp only [Act.put, List.setIfInBounds_toArray, List.set_cons_zero, List.set_cons_succ]
                  refine l_take 92 rfl rfl (er_neqI _ _ rfl 0 0 false rfl rfl (by decide)) ?_
                  simp only [Act.put, List.setIfInBounds_toArray, List.set_cons_zero, List.set_cons_succ]
                  refine l_take 93 rfl rfl (er_neqB _ _ rfl false false false rfl rfl (by decide)) ?_
                  simp only [Act.put, List.setIfInBounds_toArray, List.set_cons_zero, List.set_cons_succ]
                  refine l_take 94 rfl rfl (er_pk _ _ _ rfl false (.bool false) rfl rfl) ?_
                  simp only [Act.put, List.setIfInBounds_toArray, List.set_cons_zero, List.set_cons_succ]
                  refine l_take 95 rfl rfl (er_mv _ rfl (.bool false) rfl) ?_
                  simp only [Act.put, List.setIfInBounds_toArray, List.set_cons_zero, List.set_cons_succ]
                  refine l_take 96 rfl rfl (er_mv _ rfl (.slice (some ⟨g7, 0, none⟩) k c7) rfl) ?_
                  simp only [Act.put, List.setIfInBounds_toArray, List.set_cons_zero, List.set_cons_succ]
                  refine l_take 97 rfl rfl (er_mv _ rfl (.slice sa k sc) rfl) ?_
                  simp only [Act.put, List.setIfInBounds_toArray, List.set_cons_zero, List.set_cons_succ]
                  refine l_take 98 rfl rfl (er_len 55 _ rfl sa k sc rfl (by kernel_rfl)) ?_
                  simp only [Act.put, List.setIfInBounds_toArray, List.set_cons_zero, List.set_cons_succ]
                  refine l_take 99 rfl rfl (er_addN _ rfl k rfl hs3) ?_
                  simp only [Act.put, List.setIfInBounds_toArray, List.set_cons_zero, List.set_cons_succ]
                  refine l_take 100 rfl rfl (er_slS _ _ rfl g7 k c7 (k + 1) rfl rfl hc7) ?_
                  simp only [Act.put, List.setIfInBounds_toArray, List.set_cons_zero, List.set_cons_succ]
                  refine l_take 101 rfl rfl (er_mv _ rfl (.slice sa k sc) rfl) ?_
                  simp only [Act.put, List.setIfInBounds_toArray, List.set_cons_zero, List.set_cons_succ]
                  refine l_take 102 rfl rfl (er_len 55 _ rfl sa k sc rfl (by kernel_rfl)) ?_
                  simp only [Act.put, List.setIfInBounds_toArray, List.set_cons_zero, List.set_cons_succ]
                  refine l_take 103 rfl rfl (er_ixS _ _ rfl g7 k (k + 1) c7 rfl rfl (by omega) (by omega)) ?_
                  simp only [Act.put, List.setIfInBounds_toArray, List.set_cons_zero, List.set_cons_succ]
                  refine l_take 104 rfl rfl (er_fS2 _ rfl g7 (k * 5) rfl) ?_
                  simp only [Act.put, List.setIfInBounds_toArray, List.set_cons_zero, List.set_cons_succ]
                  refine l_take 105 rfl rfl (er_ldi _ rfl g7 (k * 5 + 4) (.int .i64 (-77)) rfl m18) ?_
                  simp only [Act.put, List.setIfInBounds_toArray, List.set_cons_zero, List.set_cons_succ]
                  refine l_take 106 rfl rfl (er_neqI _ _ rfl (-77) (-77) false rfl rfl (by decide)) ?_
                  simp only [Act.put, List.setIfInBounds_toArray, List.set_cons_zero, List.set_cons_succ]
                  refine l_take 107 rfl rfl (er_pk _ _ _ rfl false (.bool false) rfl rfl) ?_
                  simp only [Act.put, List.setIfInBounds_toArray, List.set_cons_zero, List.set_cons_succ]
                  go_wp2
                  go_meet
                  exact ⟨rfl, rfl⟩
                · exact absurd ⟨e1, e2⟩ e3
              · rcases H18.out.1 with ⟨e3, e4, _⟩ | ⟨_, rfl, rfl, _⟩
                · exact absurd ⟨e3, e4⟩ e1
                · skip
                  refine wp_region_lit ?_
                  refine l_take 85 rfl rfl (er_mv _ rfl (.int .i64 20) rfl) ?_
                  simp only [Act.put, List.setIfInBounds_toArray, List.set_cons_zero, List.set_cons_succ]
                  refine l_take 86 rfl rfl (er_mv _ rfl (.int .i64 20) rfl) ?_
                  simp only [Act.put, List.setIfInBounds_toArray, List.set_cons_zero, List.set_cons_succ]
                  refine l_take 87 rfl rfl (er_neqI _ _ rfl 20 20 false rfl rfl (by decide)) ?_
                  simp only [Act.put, List.setIfInBounds_toArray, List.set_cons_zero, List.set_cons_succ]
                  refine l_take 88 rfl rfl (er_mv _ rfl (.bool false) rfl) ?_
                  simp only [Act.put, List.setIfInBounds_toArray, List.set_cons_zero, List.set_cons_succ]
                  refine l_take 89 rfl rfl (er_mv _ rfl (.pointer none) rfl) ?_
                  simp only [Act.put, List.setIfInBounds_toArray, List.set_cons_zero, List.set_cons_succ]
                  refine l_take 90 rfl rfl (er_eqN _ rfl none rfl) ?_
                  simp only [Act.put, List.setIfInBounds_toArray, List.set_cons_zero, List.set_cons_succ]
                  refine l_take 91 rfl rfl (er_mv _ rfl (.int .i64 20) rfl) ?_
                  simp only [Act.put, List.setIfInBounds_toArray, List.set_cons_zero, List.set_cons_succ]
                  refine l_take 92 rfl rfl (er_neqI _ _ rfl 20 0 true rfl rfl (by decide)) ?_
                  simp only [Act.put, List.setIfInBounds_toArray, List.set_cons_zero, List.set_cons_succ]
                  refine l_take 93 rfl rfl (er_neqB _ _ rfl true true false rfl rfl (by decide)) ?_
                  simp only [Act.put, List.setIfInBounds_toArray, List.set_cons_zero, List.set_cons_succ]
                  refine l_take 94 rfl rfl (er_pk _ _ _ rfl false (.bool false) rfl rfl) ?_
                  simp only [Act.put, List.setIfInBounds_toArray, List.set_cons_zero, List.set_cons_succ]
                  refine l_take 95 rfl rfl (er_mv _ rfl (.bool false) rfl) ?_
                  simp only [Act.put, List.setIfInBounds_toArray, List.set_cons_zero, List.set_cons_succ]
                  refine l_take 96 rfl rfl (er_mv _ rfl (.slice (some ⟨g7, 0, none⟩) k c7) rfl) ?_
                  simp only [Act.put, List.setIfInBounds_toArray, List.set_cons_zero, List.set_cons_succ]
                  refine l_take 97 rfl rfl (er_mv _ rfl (.slice sa k sc) rfl) ?_
                  simp only [Act.put, List.setIfInBounds_toArray, List.set_cons_zero, List.set_cons_succ]
                  refine l_take 98 rfl rfl (er_len 55 _ rfl sa k sc rfl (by kernel_rfl)) ?_
                  simp only [Act.put, List.setIfInBounds_toArray, List.set_cons_zero, List.set_cons_succ]
                  refine l_take 99 rfl rfl (er_addN _ rfl k rfl hs3) ?_
                  simp only [Act.put, List.setIfInBounds_toArray, List.set_cons_zero, List.set_cons_succ]
                  refine l_take 100 rfl rfl (er_slS _ _ rfl g7 k c7 (k + 1) rfl rfl hc7) ?_
                  simp only [Act.put, List.setIfInBounds_toArray, List.set_cons_zero, List.set_cons_succ]
                  refine l_take 101 rfl rfl (er_mv _ rfl (.slice sa k sc) rfl) ?_
                  simp only [Act.put, List.setIfInBounds_toArray, List.set_cons_zero, List.set_cons_succ]
                  refine l_take 102 rfl rfl (er_len 55 _ rfl sa k sc rfl (by kernel_rfl)) ?_
                  simp only [Act.put, List.setIfInBounds_toArray, List.set_cons_zero, List.set_cons_succ]
                  refine l_take 103 rfl rfl (er_ixS _ _ rfl g7 k (k + 1) c7 rfl rfl (by omega) (by omega)) ?_
                  simp only [Act.put, List.setIfInBounds_toArray, List.set_cons_zero, List.set_cons_succ]
                  refine l_take 104 rfl rfl (er_fS2 _ rfl g7 (k * 5) rfl) ?_
                  simp only [Act.put, List.setIfInBounds_toArray, List.set_cons_zero, List.set_cons_succ]
                  refine l_take 105 rfl rfl (er_ldi _ rfl g7 (k * 5 + 4) (.int .i64 (-77)) rfl m18) ?_
                  simp only [Act.put, List.setIfInBounds_toArray, List.set_cons_zero, List.set_cons_succ]
                  refine l_take 106 rfl rfl (er_neqI _ _ rfl (-77) (-77) false rfl rfl (by decide)) ?_
                  simp only [Act.put, List.setIfInBounds_toArray, List.set_cons_zero, List.set_cons_succ]
                  refine l_take 107 rfl rfl (er_pk _ _ _ rfl false (.bool false) rfl rfl) ?_
                  simp only [Act.put, List.setIfInBounds_toArray, List.set_cons_zero, List.set_cons_succ]
                  go_wp2
                  go_meet
                  exact ⟨rfl, rfl⟩
          case rest =>
          rename World => w19
          obtain ⟨rfl, e19⟩ := hcut
          subst e19
          have HB := hid (fun i (hi : i < k) => (H17.out.1.one i (Nat.zero_le _) hi).hw)
          have HF := hid (fun x (hx : F x) (e : w3.heap.size ≤ x ∧ x < w17.heap.size) => (by have h1 := HH.out.2.2.1 x hx; have h2 := H3.out.2.2.size; omega : False))
          clear m18
          as_aux_lemma =>
            go_upto_region 21 with fail
            go_wp2
            go_loopw [18] (fun u18 wr => ∃ (i : Nat), i ≤ k ∧ u18 = .int .i64 i ∧ Gv wr w3.heap.size (.slice (some ⟨g7, 0, none⟩) (k + 1) c7) k 1 i MS.toList ss gd ∧ Kept (fun x => w3.heap.size ≤ x ∧ x < w17.heap.size) w18 wr) (fun u18 _ => k - (intOf u18).toNat)
            case atStart => exact ⟨0, by omega, rfl, H18.out.2.1, Kept.refl _ _⟩
            case round =>
              rename World => wc
              obtain ⟨i, hi, rfl, gvc, kc⟩ := hrel
              as_aux_lemma =>
                by_cases hlt : i < k
                · have hltz : (i : Int) < (k : Int) := by omega
                  have K3c : Kept (fun x => w3.heap.size ≤ x ∧ x < w17.heap.size) w3 wc := (H18.out.2.2.2.mono (fun _ e => e.elim)).trans kc (fun _ e => .inl e)
                  obtain ⟨b, o, qa, qn, qc, da, dn, dc, rfl, hb, x0, x1, x2, x3, x4, mr, zs, hdn⟩ := (SR3.out.kept K3c HF.out).row hlt
                  obtain rfl := mr.len
                  obtain rfl := zs.len
                  obtain ⟨y0, y1, y2, y3, y4⟩ := gvc.five hlt
                  have g1 := gvc.one i (Nat.le_refl _) hlt
                  have hbk : b < w3.heap.size := Nat.lt_of_lt_of_le (HH.out.2.2.1 b hb) H3.out.2.2.size
                  have hlo : w3.heap.size ≤ (gd i).lo := gvc.lo i hlt
                  have X0 := hid (fun W (q : Kept No wc W) => q.cell x0 (fun e => e))
                  have X1 := hid (fun W (q : Kept No wc W) => q.cell x1 (fun e => e))
                  have X2 : Hid (∀ W, Kept No wc W → W.cell? ⟨b, o + i * 5 + 1 + 1, none⟩ = some (.int .i64 (ss i).tk)) := fun W q => q.cell x2 (fun e => e)
                  have X3 : Hid (∀ W, Kept No wc W → W.cell? ⟨b, o + i * 5 + 1 + 2, none⟩ = some (.slice da (ss i).d.length dc)) := fun W q => q.cell x3 (fun e => e)
                  have X4 := hid (fun W (q : Kept No wc W) => q.cell x4 (fun e => e))
                  have Y0 := hid (fun W (q : Kept No wc W) => q.cell y0 (fun e => e))
                  have Y1 := hid (fun W (q : Kept No wc W) => q.cell y1 (fun e => e))
                  have Y2 : Hid (∀ W, Kept No wc W → W.cell? ⟨g7, i * 5 + 1 + 1, none⟩ = some (.int .i64 (ss i).tk)) := fun W q => q.cell y2 (fun e => e)
                  have Y3 : Hid (∀ W, Kept No wc W → W.cell? ⟨g7, i * 5 + 1 + 2, none⟩ = some (.slice (some ⟨(gd i).dg, 0, none⟩) (ss i).d.length (gd i).dc)) := fun W q => q.cell y3 (fun e => e)
                  have Y4 := hid (fun W (q : Kept No wc W) => q.cell y4 (fun e => e))
                  have HC := hid (And.intro gvc (And.intro kc (And.intro g1 (And.intro mr (And.intro zs (And.intro hbk hlo))))))
                  have SZ : Hid ((ss i).q.length ≤ 1048576 ∧ (ss i).d.length ≤ 1048576) := ⟨mr.sm, hdn⟩
                  clear gvc kc K3c g1 mr zs hdn hbk hlo x0 x1 x2 x3 x4 y0 y1 y2 y3 y4 hb
                  go_upto_region 24 with fail
                  go_cut [19] (fun x wd => x = .bool true ∧ Kept No wc wd)
                  case first =>
                    as_aux_lemma =>
                      refine wp_region_held_drew (S := fun W => Kept No wc W) (by kernel_rfl) ((Kept.refl No wc).drew) (fun hS => ?_)
                      refine d_take 0 114 rfl rfl (by kernel_rfl) (by kernel_rfl) (by kernel_rfl) (fun _ _ _ h => h) rfl (fun w' hw' => er_mv _ rfl (.slice (some ⟨g7, 0, none⟩) k c7) rfl) hS ?_
                      simp only [Act.put, List.setIfInBounds_toArray, List.set_cons_zero, List.set_cons_succ]
                      refine d_take 1 115 rfl rfl (by kernel_rfl) (by kernel_rfl) (by kernel_rfl) (fun _ _ _ h => h) rfl (fun w' hw' => er_mv _ rfl (.int .i64 (i : Int)) rfl) hS ?_
                      simp only [Act.put, List.setIfInBounds_toArray, List.set_cons_zero, List.set_cons_succ]
                      refine d_take 2 116 rfl rfl (by kernel_rfl) (by kernel_rfl) (by kernel_rfl) (fun _ _ _ h => h) rfl (fun w' hw' => er_ixS _ _ rfl g7 i k c7 rfl rfl hlt (by omega)) hS ?_
                      simp only [Act.put, List.setIfInBounds_toArray, List.set_cons_zero, List.set_cons_succ]
                      refine d_take 3 117 rfl rfl (by kernel_rfl) (by kernel_rfl) (by kernel_rfl) (fun _ _ _ h => h) rfl (fun w' hw' => er_fS2 _ rfl g7 (i * 5) rfl) hS ?_
                      simp only [Act.put, List.setIfInBounds_toArray, List.set_cons_zero, List.set_cons_succ]
                      refine d_take 4 118 rfl rfl (by kernel_rfl) (by kernel_rfl) (by kernel_rfl) (fun _ _ _ h => h) rfl (fun w' hw' => er_ldi _ rfl g7 (i * 5 + 4) (.int .i64 (ss i).lost) rfl (Y4.out w' hw')) hS ?_
                      simp only [Act.put, List.setIfInBounds_toArray, List.set_cons_zero, List.set_cons_succ]
                      refine d_take 5 119 rfl rfl (by kernel_rfl) (by kernel_rfl) (by kernel_rfl) (fun _ _ _ h => h) rfl (fun w' hw' => er_mv _ rfl (.slice (some ⟨b, o, none⟩) k sc) rfl) hS ?_
                      simp only [Act.put, List.setIfInBounds_toArray, List.set_cons_zero, List.set_cons_succ]
                      refine d_take 6 120 rfl rfl (by kernel_rfl) (by kernel_rfl) (by kernel_rfl) (fun _ _ _ h => h) rfl (fun w' hw' => er_mv _ rfl (.int .i64 (i : Int)) rfl) hS ?_
                      simp only [Act.put, List.setIfInBounds_toArray, List.set_cons_zero, List.set_cons_succ]
                      refine d_take 7 121 rfl rfl (by kernel_rfl) (by kernel_rfl) (by kernel_rfl) (fun _ _ _ h => h) rfl (fun w' hw' => er_ixT _ _ rfl b o i k sc rfl rfl hlt) hS ?_
                      simp only [Act.put, List.setIfInBounds_toArray, List.set_cons_zero, List.set_cons_succ]
                      refine d_take 8 122 rfl rfl (by kernel_rfl) (by kernel_rfl) (by kernel_rfl) (fun _ _ _ h => h) rfl (fun w' hw' => er_fS2 _ rfl b (o + i * 5) rfl) hS ?_
                      simp only [Act.put, List.setIfInBounds_toArray, List.set_cons_zero, List.set_cons_succ]
                      refine d_take 9 123 rfl rfl (by kernel_rfl) (by kernel_rfl) (by kernel_rfl) (fun _ _ _ h => h) rfl (fun w' hw' => er_ldi _ rfl b (o + i * 5 + 4) (.int .i64 (ss i).lost) rfl (X4.out w' hw')) hS ?_
                      simp only [Act.put, List.setIfInBounds_toArray, List.set_cons_zero, List.set_cons_succ]
                      refine d_take 10 124 rfl rfl (by kernel_rfl) (by kernel_rfl) (by kernel_rfl) (fun _ _ _ h => h) rfl (fun w' hw' => er_eqI _ _ rfl (ss i).lost rfl rfl) hS ?_
                      simp only [Act.put, List.setIfInBounds_toArray, List.set_cons_zero, List.set_cons_succ]
                      refine d_take 11 125 rfl rfl (by kernel_rfl) (by kernel_rfl) (by kernel_rfl) (fun _ _ _ h => h) rfl (fun w' hw' => er_mv _ rfl (.bool true) rfl) hS ?_
                      simp only [Act.put, List.setIfInBounds_toArray, List.set_cons_zero, List.set_cons_succ]
                      refine d_take 12 126 rfl rfl (by kernel_rfl) (by kernel_rfl) (by kernel_rfl) (fun _ _ _ h => h) rfl (fun w' hw' => er_mv _ rfl (.slice (some ⟨g7, 0, none⟩) k c7) rfl) hS ?_
                      simp only [Act.put, List.setIfInBounds_toArray, List.set_cons_zero, List.set_cons_succ]
                      refine d_take 13 127 rfl rfl (by kernel_rfl) (by kernel_rfl) (by kernel_rfl) (fun _ _ _ h => h) rfl (fun w' hw' => er_mv _ rfl (.int .i64 (i : Int)) rfl) hS ?_
                      simp only [Act.put, List.setIfInBounds_toArray, List.set_cons_zero, List.set_cons_succ]
                      refine d_take 14 128 rfl rfl (by kernel_rfl) (by kernel_rfl) (by kernel_rfl) (fun _ _ _ h => h) rfl (fun w' hw' => er_ixS _ _ rfl g7 i k c7 rfl rfl hlt (by omega)) hS ?_
                      simp only [Act.put, List.setIfInBounds_toArray, List.set_cons_zero, List.set_cons_succ]
                      refine d_take 15 129 rfl rfl (by kernel_rfl) (by kernel_rfl) (by kernel_rfl) (fun _ _ _ h => h) rfl (fun w' hw' => er_fS1 _ rfl g7 (i * 5) rfl) hS ?_
                      simp only [Act.put, List.setIfInBounds_toArray, List.set_cons_zero, List.set_cons_succ]
                      refine d_take 16 130 rfl rfl (by kernel_rfl) (by kernel_rfl) (by kernel_rfl) (fun _ _ _ h => h) rfl (fun w' hw' => er_fM0 _ rfl g7 (i * 5 + 1) rfl) hS ?_
                      simp only [Act.put, List.setIfInBounds_toArray, List.set_cons_zero, List.set_cons_succ]
                      refine d_take 17 131 rfl rfl (by kernel_rfl) (by kernel_rfl) (by kernel_rfl) (fun _ _ _ h => h) rfl (fun w' hw' => er_ldb _ rfl g7 (i * 5 + 1) (.bool (ss i).has) rfl (Y1.out w' hw')) hS ?_
                      simp only [Act.put, List.setIfInBounds_toArray, List.set_cons_zero, List.set_cons_succ]
                      refine d_take 18 132 rfl rfl (by kernel_rfl) (by kernel_rfl) (by kernel_rfl) (fun _ _ _ h => h) rfl (fun w' hw' => er_mv _ rfl (.slice (some ⟨b, o, none⟩) k sc) rfl) hS ?_
                      simp only [Act.put, List.setIfInBounds_toArray, List.set_cons_zero, List.set_cons_succ]
                      refine d_take 19 133 rfl rfl (by kernel_rfl) (by kernel_rfl) (by kernel_rfl) (fun _ _ _ h => h) rfl (fun w' hw' => er_mv _ rfl (.int .i64 (i : Int)) rfl) hS ?_
                      simp only [Act.put, List.setIfInBounds_toArray, List.set_cons_zero, List.set_cons_succ]
                      refine d_take 20 134 rfl rfl (by kernel_rfl) (by kernel_rfl) (by kernel_rfl) (fun _ _ _ h => h) rfl (fun w' hw' => er_ixT _ _ rfl b o i k sc rfl rfl hlt) hS ?_
                      simp only [Act.put, List.setIfInBounds_toArray, List.set_cons_zero, List.set_cons_succ]
                      refine d_take 21 135 rfl rfl (by kernel_rfl) (by kernel_rfl) (by kernel_rfl) (fun _ _ _ h => h) rfl (fun w' hw' => er_fS1 _ rfl b (o + i * 5) rfl) hS ?_
                      simp only [Act.put, List.setIfInBounds_toArray, List.set_cons_zero, List.set_cons_succ]
                      refine d_take 22 136 rfl rfl (by kernel_rfl) (by kernel_rfl) (by kernel_rfl) (fun _ _ _ h => h) rfl (fun w' hw' => er_fM0 _ rfl b (o + i * 5 + 1) rfl) hS ?_
                      simp only [Act.put, List.setIfInBounds_toArray, List.set_cons_zero, List.set_cons_succ]
                      refine d_take 23 137 rfl rfl (by kernel_rfl) (by kernel_rfl) (by kernel_rfl) (fun _ _ _ h => h) rfl (fun w' hw' => er_ldb _ rfl b (o + i * 5 + 1) (.bool (ss i).has) rfl (X1.out w' hw')) hS ?_
                      simp only [Act.put, List.setIfInBounds_toArray, List.set_cons_zero, List.set_cons_succ]
                      refine d_take 24 138 rfl rfl (by kernel_rfl) (by kernel_rfl) (by kernel_rfl) (fun _ _ _ h => h) rfl (fun w' hw' => er_eqB _ _ rfl (ss i).has rfl rfl) hS ?_
                      simp only [Act.put, List.setIfInBounds_toArray, List.set_cons_zero, List.set_cons_succ]
                      refine d_take 25 139 rfl rfl (by kernel_rfl) (by kernel_rfl) (by kernel_rfl) (fun _ _ _ h => h) rfl (fun w' hw' => er_pk _ _ _ rfl true (.bool true) rfl rfl) hS ?_
                      simp only [Act.put, List.setIfInBounds_toArray, List.set_cons_zero, List.set_cons_succ]
                      refine d_take 26 140 rfl rfl (by kernel_rfl) (by kernel_rfl) (by kernel_rfl) (fun _ _ _ h => h) rfl (fun w' hw' => er_mv _ rfl (.bool true) rfl) hS ?_
                      simp only [Act.put, List.setIfInBounds_toArray, List.set_cons_zero, List.set_cons_succ]
                      refine d_take 27 141 rfl rfl (by kernel_rfl) (by kernel_rfl) (by kernel_rfl) (fun _ _ _ h => h) rfl (fun w' hw' => er_mv _ rfl (.slice (some ⟨g7, 0, none⟩) k c7) rfl) hS ?_
                      simp only [Act.put, List.setIfInBounds_toArray, List.set_cons_zero, List.set_cons_succ]
                      refine d_take 28 142 rfl rfl (by kernel_rfl) (by kernel_rfl) (by kernel_rfl) (fun _ _ _ h => h) rfl (fun w' hw' => er_mv _ rfl (.int .i64 (i : Int)) rfl) hS ?_
                      simp only [Act.put, List.setIfInBounds_toArray, List.set_cons_zero, List.set_cons_succ]
                      refine d_take 29 143 rfl rfl (by kernel_rfl) (by kernel_rfl) (by kernel_rfl) (fun _ _ _ h => h) rfl (fun w' hw' => er_ixS _ _ rfl g7 i k c7 rfl rfl hlt (by omega)) hS ?_
                      simp only [Act.put, List.setIfInBounds_toArray, List.set_cons_zero, List.set_cons_succ]
                      refine d_take 30 144 rfl rfl (by kernel_rfl) (by kernel_rfl) (by kernel_rfl) (fun _ _ _ h => h) rfl (fun w' hw' => er_fS1 _ rfl g7 (i * 5) rfl) hS ?_
                      simp only [Act.put, List.setIfInBounds_toArray, List.set_cons_zero, List.set_cons_succ]
                      refine d_take 31 145 rfl rfl (by kernel_rfl) (by kernel_rfl) (by kernel_rfl) (fun _ _ _ h => h) rfl (fun w' hw' => er_fM1 _ rfl g7 (i * 5 + 1) rfl) hS ?_
                      simp only [Act.put, List.setIfInBounds_toArray, List.set_cons_zero, List.set_cons_succ]
                      refine d_take 32 146 rfl rfl (by kernel_rfl) (by kernel_rfl) (by kernel_rfl) (fun _ _ _ h => h) rfl (fun w' hw' => er_ldi _ rfl g7 (i * 5 + 1 + 1) (.int .i64 (ss i).tk) rfl (Y2.out w' hw')) hS ?_
                      simp only [Act.put, List.setIfInBounds_toArray, List.set_cons_zero, List.set_cons_succ]
                      refine d_take 33 147 rfl rfl (by kernel_rfl) (by kernel_rfl) (by kernel_rfl) (fun _ _ _ h => h) rfl (fun w' hw' => er_mv _ rfl (.slice (some ⟨b, o, none⟩) k sc) rfl) hS ?_
                      simp only [Act.put, List.setIfInBounds_toArray, List.set_cons_zero, List.set_cons_succ]
                      refine d_take 34 148 rfl rfl (by kernel_rfl) (by kernel_rfl) (by kernel_rfl) (fun _ _ _ h => h) rfl (fun w' hw' => er_mv _ rfl (.int .i64 (i : Int)) rfl) hS ?_
                      simp only [Act.put, List.setIfInBounds_toArray, List.set_cons_zero, List.set_cons_succ]
                      refine d_take 35 149 rfl rfl (by kernel_rfl) (by kernel_rfl) (by kernel_rfl) (fun _ _ _ h => h) rfl (fun w' hw' => er_ixT _ _ rfl b o i k sc rfl rfl hlt) hS ?_
                      simp only [Act.put, List.setIfInBounds_toArray, List.set_cons_zero, List.set_cons_succ]
                      refine d_take 36 150 rfl rfl (by kernel_rfl) (by kernel_rfl) (by kernel_rfl) (fun _ _ _ h => h) rfl (fun w' hw' => er_fS1 _ rfl b (o + i * 5) rfl) hS ?_
                      simp only [Act.put, List.setIfInBounds_toArray, List.set_cons_zero, List.set_cons_succ]
                      refine d_take 37 151 rfl rfl (by kernel_rfl) (by kernel_rfl) (by kernel_rfl) (fun _ _ _ h => h) rfl (fun w' hw' => er_fM1 _ rfl b (o + i * 5 + 1) rfl) hS ?_
                      simp only [Act.put, List.setIfInBounds_toArray, List.set_cons_zero, List.set_cons_succ]
                      refine d_take 38 152 rfl rfl (by kernel_rfl) (by kernel_rfl) (by kernel_rfl) (fun _ _ _ h => h) rfl (fun w' hw' => er_ldi _ rfl b (o + i * 5 + 1 + 1) (.int .i64 (ss i).tk) rfl (X2.out w' hw')) hS ?_
                      simp only [Act.put, List.setIfInBounds_toArray, List.set_cons_zero, List.set_cons_succ]
                      refine d_take 39 153 rfl rfl (by kernel_rfl) (by kernel_rfl) (by kernel_rfl) (fun _ _ _ h => h) rfl (fun w' hw' => er_eqI _ _ rfl (ss i).tk rfl rfl) hS ?_
                      simp only [Act.put, List.setIfInBounds_toArray, List.set_cons_zero, List.set_cons_succ]
                      refine d_take 40 154 rfl rfl (by kernel_rfl) (by kernel_rfl) (by kernel_rfl) (fun _ _ _ h => h) rfl (fun w' hw' => er_pk _ _ _ rfl true (.bool true) rfl rfl) hS ?_
                      simp only [Act.put, List.setIfInBounds_toArray, List.set_cons_zero, List.set_cons_succ]
                      refine d_take 41 155 rfl rfl (by kernel_rfl) (by kernel_rfl) (by kernel_rfl) (fun _ _ _ h => h) rfl (fun w' hw' => er_mv _ rfl (.bool true) rfl) hS ?_
                      simp only [Act.put, List.setIfInBounds_toArray, List.set_cons_zero, List.set_cons_succ]
                      refine d_take 42 156 rfl rfl (by kernel_rfl) (by kernel_rfl) (by kernel_rfl) (fun _ _ _ h => h) rfl (fun w' hw' => er_mv _ rfl (.slice (some ⟨g7, 0, none⟩) k c7) rfl) hS ?_
                      simp only [Act.put, List.setIfInBounds_toArray, List.set_cons_zero, List.set_cons_succ]
                      refine d_take 43 157 rfl rfl (by kernel_rfl) (by kernel_rfl) (by kernel_rfl) (fun _ _ _ h => h) rfl (fun w' hw' => er_mv _ rfl (.int .i64 (i : Int)) rfl) hS ?_
                      simp only [Act.put, List.setIfInBounds_toArray, List.set_cons_zero, List.set_cons_succ]
                      refine d_take 44 158 rfl rfl (by kernel_rfl) (by kernel_rfl) (by kernel_rfl) (fun _ _ _ h => h) rfl (fun w' hw' => er_ixS _ _ rfl g7 i k c7 rfl rfl hlt (by omega)) hS ?_
                      simp only [Act.put, List.setIfInBounds_toArray, List.set_cons_zero, List.set_cons_succ]
                      refine d_take 45 159 rfl rfl (by kernel_rfl) (by kernel_rfl) (by kernel_rfl) (fun _ _ _ h => h) rfl (fun w' hw' => er_fS0 _ rfl g7 (i * 5) rfl) hS ?_
                      simp only [Act.put, List.setIfInBounds_toArray, List.set_cons_zero, List.set_cons_succ]
                      refine d_take 46 160 rfl rfl (by kernel_rfl) (by kernel_rfl) (by kernel_rfl) (fun _ _ _ h => h) rfl (fun w' hw' => er_ldLL _ rfl g7 (i * 5) (.slice (gd i).qa (ss i).q.length (gd i).qc) rfl (Y0.out w' hw')) hS ?_
                      simp only [Act.put, List.setIfInBounds_toArray, List.set_cons_zero, List.set_cons_succ]
                      refine d_take 47 161 rfl rfl (by kernel_rfl) (by kernel_rfl) (by kernel_rfl) (fun _ _ _ h => h) rfl (fun w' hw' => er_len 47 _ rfl  (gd i).qa (ss i).q.length (gd i).qc rfl (by kernel_rfl)) hS ?_
                      simp only [Act.put, List.setIfInBounds_toArray, List.set_cons_zero, List.set_cons_succ]
                      refine d_take 48 162 rfl rfl (by kernel_rfl) (by kernel_rfl) (by kernel_rfl) (fun _ _ _ h => h) rfl (fun w' hw' => er_mv _ rfl (.slice (some ⟨b, o, none⟩) k sc) rfl) hS ?_
                      simp only [Act.put, List.setIfInBounds_toArray, List.set_cons_zero, List.set_cons_succ]
                      refine d_take 49 163 rfl rfl (by kernel_rfl) (by kernel_rfl) (by kernel_rfl) (fun _ _ _ h => h) rfl (fun w' hw' => er_mv _ rfl (.int .i64 (i : Int)) rfl) hS ?_
                      simp only [Act.put, List.setIfInBounds_toArray, List.set_cons_zero, List.set_cons_succ]
                      refine d_take 50 164 rfl rfl (by kernel_rfl) (by kernel_rfl) (by kernel_rfl) (fun _ _ _ h => h) rfl (fun w' hw' => er_ixT _ _ rfl b o i k sc rfl rfl hlt) hS ?_
                      simp only [Act.put, List.setIfInBounds_toArray, List.set_cons_zero, List.set_cons_succ]
                      refine d_take 51 165 rfl rfl (by kernel_rfl) (by kernel_rfl) (by kernel_rfl) (fun _ _ _ h => h) rfl (fun w' hw' => er_fS0 _ rfl b (o + i * 5) rfl) hS ?_
                      simp only [Act.put, List.setIfInBounds_toArray, List.set_cons_zero, List.set_cons_succ]
                      refine d_take 52 166 rfl rfl (by kernel_rfl) (by kernel_rfl) (by kernel_rfl) (fun _ _ _ h => h) rfl (fun w' hw' => er_ldLL _ rfl b (o + i * 5) (.slice qa (ss i).q.length qc) rfl (X0.out w' hw')) hS ?_
                      simp only [Act.put, List.setIfInBounds_toArray, List.set_cons_zero, List.set_cons_succ]
                      refine d_take 53 167 rfl rfl (by kernel_rfl) (by kernel_rfl) (by kernel_rfl) (fun _ _ _ h => h) rfl (fun w' hw' => er_len 47 _ rfl  qa (ss i).q.length qc rfl (by kernel_rfl)) hS ?_
                      simp only [Act.put, List.setIfInBounds_toArray, List.set_cons_zero, List.set_cons_succ]
                      refine d_take 54 168 rfl rfl (by kernel_rfl) (by kernel_rfl) (by kernel_rfl) (fun _ _ _ h => h) rfl (fun w' hw' => er_eqI _ _ rfl ((ss i).q.length : Int) rfl rfl) hS ?_
                      simp only [Act.put, List.setIfInBounds_toArray, List.set_cons_zero, List.set_cons_succ]
                      refine d_take 55 169 rfl rfl (by kernel_rfl) (by kernel_rfl) (by kernel_rfl) (fun _ _ _ h => h) rfl (fun w' hw' => er_pk _ _ _ rfl true (.bool true) rfl rfl) hS ?_
                      simp only [Act.put, List.setIfInBounds_toArray, List.set_cons_zero, List.set_cons_succ]
                      refine d_take 56 19 rfl rfl (by kernel_rfl) (by kernel_rfl) (by kernel_rfl) (fun _ _ _ h => h) rfl (fun w' hw' => er_as _ rfl (.bool true) rfl) hS ?_
                      simp only [Act.put, List.setIfInBounds_toArray, List.set_cons_zero, List.set_cons_succ]
                      refine wpAnyH_done (by kernel_rfl) ?_ _
                      have KD := hid hS
                      clear hS
                      go_wp2
                      go_meet
                      exact ⟨rfl, KD.out⟩
                  case rest =>
                  rename World => w24
                  obtain ⟨rfl, k24⟩ := hcut
                  have K24 := hid k24
                  clear k24
                  as_aux_lemma =>
                    go_upto_region 25 with fail
                    go_cut [188] (fun x wd => x = .bool false ∧ Kept No wc wd)
                    case first =>
                      as_aux_lemma =>
                        refine wp_region_held_drew (S := fun W => Kept No wc W) (by kernel_rfl) (K24.out.drew) (fun hS => ?_)
                        refine d_take 0 170 rfl rfl (by kernel_rfl) (by kernel_rfl) (by kernel_rfl) (fun _ _ _ h => h) rfl (fun w' hw' => er_mv _ rfl (.bool true) rfl) hS ?_
                        simp only [Act.put, List.setIfInBounds_toArray, List.set_cons_zero, List.set_cons_succ]
                        refine d_take 1 171 rfl rfl (by kernel_rfl) (by kernel_rfl) (by kernel_rfl) (fun _ _ _ h => h) rfl (fun w' hw' => er_not _ rfl true rfl) hS ?_
                        simp only [Act.put, List.setIfInBounds_toArray, List.set_cons_zero, List.set_cons_succ]
                        refine d_take 2 172 rfl rfl (by kernel_rfl) (by kernel_rfl) (by kernel_rfl) (fun _ _ _ h => h) rfl (fun w' hw' => er_mv _ rfl (.bool false) rfl) hS ?_
                        simp only [Act.put, List.setIfInBounds_toArray, List.set_cons_zero, List.set_cons_succ]
                        refine d_take 3 173 rfl rfl (by kernel_rfl) (by kernel_rfl) (by kernel_rfl) (fun _ _ _ h => h) rfl (fun w' hw' => er_mv _ rfl (.slice (some ⟨g7, 0, none⟩) k c7) rfl) hS ?_
                        simp only [Act.put, List.setIfInBounds_toArray, List.set_cons_zero, List.set_cons_succ]
                        refine d_take 4 174 rfl rfl (by kernel_rfl) (by kernel_rfl) (by kernel_rfl) (fun _ _ _ h => h) rfl (fun w' hw' => er_mv _ rfl (.int .i64 (i : Int)) rfl) hS ?_
                        simp only [Act.put, List.setIfInBounds_toArray, List.set_cons_zero, List.set_cons_succ]
                        refine d_take 5 175 rfl rfl (by kernel_rfl) (by kernel_rfl) (by kernel_rfl) (fun _ _ _ h => h) rfl (fun w' hw' => er_ixS _ _ rfl g7 i k c7 rfl rfl hlt (by omega)) hS ?_
                        simp only [Act.put, List.setIfInBounds_toArray, List.set_cons_zero, List.set_cons_succ]
                        refine d_take 6 176 rfl rfl (by kernel_rfl) (by kernel_rfl) (by kernel_rfl) (fun _ _ _ h => h) rfl (fun w' hw' => er_fS1 _ rfl g7 (i * 5) rfl) hS ?_
                        simp only [Act.put, List.setIfInBounds_toArray, List.set_cons_zero, List.set_cons_succ]
                        refine d_take 7 177 rfl rfl (by kernel_rfl) (by kernel_rfl) (by kernel_rfl) (fun _ _ _ h => h) rfl (fun w' hw' => er_fM2 _ rfl g7 (i * 5 + 1) rfl) hS ?_
                        simp only [Act.put, List.setIfInBounds_toArray, List.set_cons_zero, List.set_cons_succ]
                        refine d_take 8 178 rfl rfl (by kernel_rfl) (by kernel_rfl) (by kernel_rfl) (fun _ _ _ h => h) rfl (fun w' hw' => er_ldL _ rfl g7 (i * 5 + 1 + 2) (.slice (some ⟨(gd i).dg, 0, none⟩) (ss i).d.length (gd i).dc) rfl (Y3.out w' hw')) hS ?_
                        simp only [Act.put, List.setIfInBounds_toArray, List.set_cons_zero, List.set_cons_succ]
                        refine d_take 9 179 rfl rfl (by kernel_rfl) (by kernel_rfl) (by kernel_rfl) (fun _ _ _ h => h) rfl (fun w' hw' => er_len 22 _ rfl  (some ⟨(gd i).dg, 0, none⟩) (ss i).d.length (gd i).dc rfl (by kernel_rfl)) hS ?_
                        simp only [Act.put, List.setIfInBounds_toArray, List.set_cons_zero, List.set_cons_succ]
                        refine d_take 10 180 rfl rfl (by kernel_rfl) (by kernel_rfl) (by kernel_rfl) (fun _ _ _ h => h) rfl (fun w' hw' => er_mv _ rfl (.slice (some ⟨b, o, none⟩) k sc) rfl) hS ?_
                        simp only [Act.put, List.setIfInBounds_toArray, List.set_cons_zero, List.set_cons_succ]
                        refine d_take 11 181 rfl rfl (by kernel_rfl) (by kernel_rfl) (by kernel_rfl) (fun _ _ _ h => h) rfl (fun w' hw' => er_mv _ rfl (.int .i64 (i : Int)) rfl) hS ?_
                        simp only [Act.put, List.setIfInBounds_toArray, List.set_cons_zero, List.set_cons_succ]
                        refine d_take 12 182 rfl rfl (by kernel_rfl) (by kernel_rfl) (by kernel_rfl) (fun _ _ _ h => h) rfl (fun w' hw' => er_ixT _ _ rfl b o i k sc rfl rfl hlt) hS ?_
                        simp only [Act.put, List.setIfInBounds_toArray, List.set_cons_zero, List.set_cons_succ]
                        refine d_take 13 183 rfl rfl (by kernel_rfl) (by kernel_rfl) (by kernel_rfl) (fun _ _ _ h => h) rfl (fun w' hw' => er_fS1 _ rfl b (o + i * 5) rfl) hS ?_
                        simp only [Act.put, List.setIfInBounds_toArray, List.set_cons_zero, List.set_cons_succ]
                        refine d_take 14 184 rfl rfl (by kernel_rfl) (by kernel_rfl) (by kernel_rfl) (fun _ _ _ h => h) rfl (fun w' hw' => er_fM2 _ rfl b (o + i * 5 + 1) rfl) hS ?_
                        simp only [Act.put, List.setIfInBounds_toArray, List.set_cons_zero, List.set_cons_succ]
                        refine d_take 15 185 rfl rfl (by kernel_rfl) (by kernel_rfl) (by kernel_rfl) (fun _ _ _ h => h) rfl (fun w' hw' => er_ldL _ rfl b (o + i * 5 + 1 + 2) (.slice da (ss i).d.length dc) rfl (X3.out w' hw')) hS ?_
                        simp only [Act.put, List.setIfInBounds_toArray, List.set_cons_zero, List.set_cons_succ]
                        refine d_take 16 186 rfl rfl (by kernel_rfl) (by kernel_rfl) (by kernel_rfl) (fun _ _ _ h => h) rfl (fun w' hw' => er_len 22 _ rfl  da (ss i).d.length dc rfl (by kernel_rfl)) hS ?_
                        simp only [Act.put, List.setIfInBounds_toArray, List.set_cons_zero, List.set_cons_succ]
                        refine d_take 17 187 rfl rfl (by kernel_rfl) (by kernel_rfl) (by kernel_rfl) (fun _ _ _ h => h) rfl (fun w' hw' => er_neI _ _ rfl ((ss i).d.length : Int) rfl rfl) hS ?_
                        simp only [Act.put, List.setIfInBounds_toArray, List.set_cons_zero, List.set_cons_succ]
                        refine d_take 18 188 rfl rfl (by kernel_rfl) (by kernel_rfl) (by kernel_rfl) (fun _ _ _ h => h) rfl (fun w' hw' => er_pk _ _ _ rfl false (.bool false) rfl rfl) hS ?_
                        simp only [Act.put, List.setIfInBounds_toArray, List.set_cons_zero, List.set_cons_succ]
                        refine wpAnyH_done (by kernel_rfl) ?_ _
                        have KD := hid hS
                        clear hS
                        go_wp2
                        go_meet
                        exact ⟨rfl, KD.out⟩
                    case rest =>
                    rename World => w25
                    obtain ⟨rfl, k25⟩ := hcut
                    have m25 := HC.out.2.2.1.dm.kept k25 (fun e => e)
                    have gv25 := HC.out.1.keep k25
                    have XD3 : Hid (∀ W, Kept (fun x => x = (gd i).dg) w25 W → W.cell? ⟨b, o + i * 5 + 1 + 2, none⟩ = some (.slice da (ss i).d.length dc)) := fun W q => q.cell (X3.out _ k25) (fun e => by have h1 := HC.out.2.2.2.2.2; have h2 := m25.blk.1; have e' : b = _ := e; omega)
                    have YD3 : Hid (∀ W, Kept (fun x => x = (gd i).dg) w25 W → W.cell? ⟨g7, i * 5 + 1 + 2, none⟩ = some (.slice (some ⟨(gd i).dg, 0, none⟩) (ss i).d.length (gd i).dc)) := fun W q => q.cell (Y3.out _ k25) (fun e => own_tag gv25.own m25 (by decide) (by have e' : g7 = _ := e; rw [← e']; rfl))
                    have K3b : Kept (fun x => w3.heap.size ≤ x ∧ x < w17.heap.size) w3 w25 := ((H18.out.2.2.2.mono (fun _ e => e.elim)).trans HC.out.2.1 (fun _ e => .inl e)).trans k25 (fun _ e => e.elim)
                    have zs25 := HC.out.2.2.2.2.1.kept k25 (fun _ _ e => e)
                    have CL7 : Hid (∀ W, Kept No w25 W → Calls Try.prog 20 #[.slice (some ⟨(gd i).dg, 0, none⟩) (ss i).d.length (gd i).dc, .slice da (ss i).d.length dc] W fun e w'' => e = .returned (.bool true) ∧ Kept (fun x => x = (gd i).dg) w25 w'') := fun W q => (left_yes W (m25.kept q (fun e => e)) (zs25.kept q (fun _ _ e => e)) SZ.out.2).mono (fun r w'' h => ⟨h.1, (q.mono (fun _ e => e.elim)).trans h.2 (fun _ e => .inl e)⟩)
                    have H25 := hid (And.intro k25 (And.intro gv25 m25))
                    clear k25 gv25 m25 zs25 K3b
                    as_aux_lemma =>
                      go_upto_region 27 with fail
                      go_cut [19] (fun x wd => x = .bool true ∧ Kept (fun x => x = (gd i).dg) w25 wd)
                      case first =>
                        as_aux_lemma =>
                          refine wp_region_held_drew (S := fun W => Kept (fun x => x = (gd i).dg) w25 W) (by kernel_rfl) ((Kept.refl _ w25).drew) (fun hS => ?_)
                          refine d_take 0 189 rfl rfl (by kernel_rfl) (by kernel_rfl) (by kernel_rfl) (fun _ _ _ h => h) rfl (fun w' hw' => er_mv _ rfl (.slice (some ⟨g7, 0, none⟩) k c7) rfl) hS ?_
                          simp only [Act.put, List.setIfInBounds_toArray, List.set_cons_zero, List.set_cons_succ]
                          refine d_take 1 190 rfl rfl (by kernel_rfl) (by kernel_rfl) (by kernel_rfl) (fun _ _ _ h => h) rfl (fun w' hw' => er_mv _ rfl (.int .i64 (i : Int)) rfl) hS ?_
                          simp only [Act.put, List.setIfInBounds_toArray, List.set_cons_zero, List.set_cons_succ]
                          refine d_take 2 191 rfl rfl (by kernel_rfl) (by kernel_rfl) (by kernel_rfl) (fun _ _ _ h => h) rfl (fun w' hw' => er_ixS _ _ rfl g7 i k c7 rfl rfl hlt (by omega)) hS ?_
                          simp only [Act.put, List.setIfInBounds_toArray, List.set_cons_zero, List.set_cons_succ]
                          refine d_take 3 192 rfl rfl (by kernel_rfl) (by kernel_rfl) (by kernel_rfl) (fun _ _ _ h => h) rfl (fun w' hw' => er_fS1 _ rfl g7 (i * 5) rfl) hS ?_
                          simp only [Act.put, List.setIfInBounds_toArray, List.set_cons_zero, List.set_cons_succ]
                          refine d_take 4 193 rfl rfl (by kernel_rfl) (by kernel_rfl) (by kernel_rfl) (fun _ _ _ h => h) rfl (fun w' hw' => er_fM2 _ rfl g7 (i * 5 + 1) rfl) hS ?_
                          simp only [Act.put, List.setIfInBounds_toArray, List.set_cons_zero, List.set_cons_succ]
                          refine d_take 5 194 rfl rfl (by kernel_rfl) (by kernel_rfl) (by kernel_rfl) (fun _ _ _ h => h) rfl (fun w' hw' => er_ldL _ rfl g7 (i * 5 + 1 + 2) (.slice (some ⟨(gd i).dg, 0, none⟩) (ss i).d.length (gd i).dc) rfl (YD3.out w' hw')) hS ?_
                          simp only [Act.put, List.setIfInBounds_toArray, List.set_cons_zero, List.set_cons_succ]
                          refine d_take 6 195 rfl rfl (by kernel_rfl) (by kernel_rfl) (by kernel_rfl) (fun _ _ _ h => h) rfl (fun w' hw' => er_mv _ rfl (.slice (some ⟨b, o, none⟩) k sc) rfl) hS ?_
                          simp only [Act.put, List.setIfInBounds_toArray, List.set_cons_zero, List.set_cons_succ]
                          refine d_take 7 196 rfl rfl (by kernel_rfl) (by kernel_rfl) (by kernel_rfl) (fun _ _ _ h => h) rfl (fun w' hw' => er_mv _ rfl (.int .i64 (i : Int)) rfl) hS ?_
                          simp only [Act.put, List.setIfInBounds_toArray, List.set_cons_zero, List.set_cons_succ]
                          refine d_take 8 197 rfl rfl (by kernel_rfl) (by kernel_rfl) (by kernel_rfl) (fun _ _ _ h => h) rfl (fun w' hw' => er_ixT _ _ rfl b o i k sc rfl rfl hlt) hS ?_
                          simp only [Act.put, List.setIfInBounds_toArray, List.set_cons_zero, List.set_cons_succ]
                          refine d_take 9 198 rfl rfl (by kernel_rfl) (by kernel_rfl) (by kernel_rfl) (fun _ _ _ h => h) rfl (fun w' hw' => er_fS1 _ rfl b (o + i * 5) rfl) hS ?_
                          simp only [Act.put, List.setIfInBounds_toArray, List.set_cons_zero, List.set_cons_succ]
                          refine d_take 10 199 rfl rfl (by kernel_rfl) (by kernel_rfl) (by kernel_rfl) (fun _ _ _ h => h) rfl (fun w' hw' => er_fM2 _ rfl b (o + i * 5 + 1) rfl) hS ?_
                          simp only [Act.put, List.setIfInBounds_toArray, List.set_cons_zero, List.set_cons_succ]
                          refine d_take 11 200 rfl rfl (by kernel_rfl) (by kernel_rfl) (by kernel_rfl) (fun _ _ _ h => h) rfl (fun w' hw' => er_ldL _ rfl b (o + i * 5 + 1 + 2) (.slice da (ss i).d.length dc) rfl (XD3.out w' hw')) hS ?_
                          simp only [Act.put, List.setIfInBounds_toArray, List.set_cons_zero, List.set_cons_succ]
                          refine d_call 12 201 (by kernel_rfl) rfl rfl rfl (er_cLeft _ _ _ _ rfl (.slice (some ⟨(gd i).dg, 0, none⟩) (ss i).d.length (gd i).dc) (.slice da (ss i).d.length dc) rfl rfl) (CL7.out _ ((Kept.refl No _).drew)) (fun w' hS => ?_)
                          simp only [Act.put, List.setIfInBounds_toArray, List.set_cons_zero, List.set_cons_succ]
                          refine d_take 13 19 rfl rfl (by kernel_rfl) (by kernel_rfl) (by kernel_rfl) (fun _ _ _ h => h) rfl (fun w' hw' => er_as _ rfl (.bool true) rfl) hS ?_
                          simp only [Act.put, List.setIfInBounds_toArray, List.set_cons_zero, List.set_cons_succ]
                          refine wpAnyH_done (by kernel_rfl) ?_ _
                          have KD := hid hS
                          clear hS
                          go_wp2
                          go_meet
                          exact ⟨rfl, KD.out⟩
                      case rest =>
                      rename World => w27
                      obtain ⟨rfl, k27⟩ := hcut
                      have hdg : w3.heap.size ≤ (gd i).dg ∧ (gd i).dg < w17.heap.size := ⟨Nat.le_trans HC.out.2.2.2.2.2.2 H25.out.2.2.blk.1, Nat.lt_of_lt_of_le HC.out.2.2.1.hd (HB.out i hlt)⟩
                      have kc7 : Kept (fun x => w3.heap.size ≤ x ∧ x < w17.heap.size) wc w27 := (H25.out.1.mono (fun _ e => e.elim)).trans (k27.mono (fun x e => by have e' : x = _ := e; rw [e']; exact hdg)) (fun _ e => .inl e)
                      have gv27 := H25.out.2.1.left H25.out.2.2 (j' := i + 1) (i := i) (Nat.le_succ _) (by omega) HC.out.2.2.1.hd k27
                      have mz27 : Mz w27 ((gd i).dg + 1) (.slice (gd i).qa (ss i).q.length (gd i).qc) (ss i).q.length 0 (gd i).ms (ss i).q := by
                        have h := HC.out.2.2.1.q.keep H25.out.1
                        refine (h.kept k27 (fun g hg e => ?_) (fun a ha e => ?_)).mz
                        · have := (owns_blk h.own hg).1
                          have e' : g = _ := e
                          omega
                        · have := (h.mks a ha).blk.1
                          have e' : ((gd i).ms a).1 = _ := e
                          omega
                      have H27 := hid (And.intro kc7 (And.intro gv27 mz27))
                      have HM := hid (fun a (ha : a < (ss i).q.length) => HC.out.2.2.1.hq a ha)
                      clear k27 kc7 gv27 mz27 XD3 YD3 CL7 hdg
                      as_aux_lemma =>
                        go_upto_region 28 with fail
                        go_wp2
                        go_loopw [19, 20] (fun u19 u20 wr => ∃ (j : Nat), j ≤ (ss i).q.length ∧ u19 = .bool true ∧ u20 = .int .i64 j ∧ Gv wr w3.heap.size (.slice (some ⟨g7, 0, none⟩) (k + 1) c7) k 1 (i + 1) MS.toList ss gd ∧ Mz wr ((gd i).dg + 1) (.slice (gd i).qa (ss i).q.length (gd i).qc) (ss i).q.length j (gd i).ms (ss i).q ∧ Kept (fun x => w3.heap.size ≤ x ∧ x < w17.heap.size) wc wr) (fun _ u20 _ => (ss i).q.length - (intOf u20).toNat)
                        case atStart => exact ⟨0, by omega, rfl, rfl, H27.out.2.1, H27.out.2.2, H27.out.1⟩
                        case round =>
                          rename World => wq
                          obtain ⟨j, hj, rfl, rfl, gvq, mzq, kq⟩ := hrel
                          as_aux_lemma =>
                            have hqs := SZ.out.1
                            have hbx : ¬ (w3.heap.size ≤ b ∧ b < w17.heap.size) := fun e => by have h1 := HC.out.2.2.2.2.2.1; omega
                            have xq : wq.cell? ⟨b, o + i * 5, none⟩ = some (.slice qa (ss i).q.length qc) := kq.cell (X0.out _ (Kept.refl _ _)) hbx
                            by_cases hjl : j < (ss i).q.length
                            · have hjz : (j : Int) < ((ss i).q.length : Int) := by omega
                              obtain ⟨gq, eqa, hgq, hgq2⟩ := (own_some mzq.own).2 (by omega)
                              obtain ⟨b2, o2, xda, xdn, xdc, rfl, hb2, hc2, zx, hxn⟩ := HC.out.2.2.2.1.at' j hjl
                              obtain rfl := zx.len
                              have hm := mzq.mks j (Nat.le_refl _) hjl
                              have hcq := mzq
                              rw [eqa] at hcq
                              have hmb : w3.heap.size ≤ ((gd i).ms j).1 ∧ ((gd i).ms j).1 < w17.heap.size := ⟨by have h1 := hm.blk.1; have h2 := HC.out.2.2.2.2.2.2; have h3 := H25.out.2.2.blk.1; omega, Nat.lt_of_lt_of_le (HM.out j hjl) (HB.out i hlt)⟩
                              have hne : ∀ x, F x → x ≠ ((gd i).ms j).1 := fun x hx e => HF.out x hx (by rw [e]; exact hmb)
                              have hq0 : wq.cell? ⟨g7, i * 5, none⟩ = some (.slice (some ⟨gq, 0, none⟩) (ss i).q.length (gd i).qc) := by rw [← eqa]; exact (gvq.five hlt).1
                              have YE0 : Hid (∀ W, Kept (fun x => x = ((gd i).ms j).1) wq W → W.cell? ⟨g7, i * 5, none⟩ = some (.slice (some ⟨gq, 0, none⟩) (ss i).q.length (gd i).qc)) := fun W q => q.cell hq0 (fun e => own_tag gvq.own hm (by decide) (by have e' : g7 = _ := e; rw [← e']; rfl))
                              have YE1 : Hid (∀ W, Kept (fun x => x = ((gd i).ms j).1) wq W → W.cell? ⟨gq, 0 + j, none⟩ = some (.slice (some ⟨((gd i).ms j).1, 0, none⟩) ((ss i).q.getD j []).length ((gd i).ms j).2)) := fun W q => by rw [Nat.zero_add]; exact q.cell (hcq.cell hjl) (fun e => own_tag hcq.own hm (by decide) (by have e' : gq = _ := e; rw [← e']; rfl))
                              have XE0 : Hid (∀ W, Kept (fun x => x = ((gd i).ms j).1) wq W → W.cell? ⟨b, o + i * 5, none⟩ = some (.slice (some ⟨b2, o2, none⟩) (ss i).q.length qc)) := fun W q => q.cell xq (fun e => by have e' : b = _ := e; exact hbx (by rw [e']; exact hmb))
                              have XE1 : Hid (∀ W, Kept (fun x => x = ((gd i).ms j).1) wq W → W.cell? ⟨b2, o2 + j, none⟩ = some (.slice xda ((ss i).q.getD j []).length xdc)) := fun W q => q.cell (kq.cell hc2 (HF.out b2 hb2)) (fun e => hne b2 hb2 e)
                              have zxq := zx.kept kq HF.out
                              have CL8 : Hid (∀ W, Kept No wq W → Calls Try.prog 20 #[.slice (some ⟨((gd i).ms j).1, 0, none⟩) ((ss i).q.getD j []).length ((gd i).ms j).2, .slice xda ((ss i).q.getD j []).length xdc] W fun e w'' => e = .returned (.bool true) ∧ Kept (fun x => x = ((gd i).ms j).1) wq w'') := fun W q => (left_yes W (hm.kept q (fun e => e)) (zxq.kept q (fun _ _ e => e)) hxn).mono (fun r w'' h => ⟨h.1, (q.mono (fun _ e => e.elim)).trans h.2 (fun _ e => .inl e)⟩)
                              have HQ := hid (And.intro gvq (And.intro mzq (And.intro kq (And.intro hm hmb))))
                              clear gvq mzq kq hm hmb hcq hne hq0 zx zxq hc2 hxn hb2 eqa hbx
                              go_upto_region 31 with fail
                              as_aux_lemma =>
                                refine wp_region_held_drew (S := fun W => Kept (fun x => x = ((gd i).ms j).1) wq W) (by kernel_rfl) ((Kept.refl _ wq).drew) (fun hS => ?_)
                                refine d_take 0 212 rfl rfl (by kernel_rfl) (by kernel_rfl) (by kernel_rfl) (fun _ _ _ h => h) rfl (fun w' hw' => er_mv _ rfl (.bool true) rfl) hS ?_
                                simp only [Act.put, List.setIfInBounds_toArray, List.set_cons_zero, List.set_cons_succ]
                                refine d_take 1 213 rfl rfl (by kernel_rfl) (by kernel_rfl) (by kernel_rfl) (fun _ _ _ h => h) rfl (fun w' hw' => er_mv _ rfl (.bool true) rfl) hS ?_
                                simp only [Act.put, List.setIfInBounds_toArray, List.set_cons_zero, List.set_cons_succ]
                                refine d_take 2 214 rfl rfl (by kernel_rfl) (by kernel_rfl) (by kernel_rfl) (fun _ _ _ h => h) rfl (fun w' hw' => er_mv _ rfl (.slice (some ⟨g7, 0, none⟩) k c7) rfl) hS ?_
                                simp only [Act.put, List.setIfInBounds_toArray, List.set_cons_zero, List.set_cons_succ]
                                refine d_take 3 215 rfl rfl (by kernel_rfl) (by kernel_rfl) (by kernel_rfl) (fun _ _ _ h => h) rfl (fun w' hw' => er_mv _ rfl (.int .i64 (i : Int)) rfl) hS ?_
                                simp only [Act.put, List.setIfInBounds_toArray, List.set_cons_zero, List.set_cons_succ]
                                refine d_take 4 216 rfl rfl (by kernel_rfl) (by kernel_rfl) (by kernel_rfl) (fun _ _ _ h => h) rfl (fun w' hw' => er_ixS _ _ rfl g7 i k c7 rfl rfl hlt (by omega)) hS ?_
                                simp only [Act.put, List.setIfInBounds_toArray, List.set_cons_zero, List.set_cons_succ]
                                refine d_take 5 217 rfl rfl (by kernel_rfl) (by kernel_rfl) (by kernel_rfl) (fun _ _ _ h => h) rfl (fun w' hw' => er_fS0 _ rfl g7 (i * 5) rfl) hS ?_
                                simp only [Act.put, List.setIfInBounds_toArray, List.set_cons_zero, List.set_cons_succ]
                                refine d_take 6 218 rfl rfl (by kernel_rfl) (by kernel_rfl) (by kernel_rfl) (fun _ _ _ h => h) rfl (fun w' hw' => er_ldLL _ rfl g7 (i * 5) (.slice (some ⟨gq, 0, none⟩) (ss i).q.length (gd i).qc) rfl (YE0.out w' hw')) hS ?_
                                simp only [Act.put, List.setIfInBounds_toArray, List.set_cons_zero, List.set_cons_succ]
                                refine d_take 7 219 rfl rfl (by kernel_rfl) (by kernel_rfl) (by kernel_rfl) (fun _ _ _ h => h) rfl (fun w' hw' => er_mv _ rfl (.int .i64 (j : Int)) rfl) hS ?_
                                simp only [Act.put, List.setIfInBounds_toArray, List.set_cons_zero, List.set_cons_succ]
                                refine d_take 8 220 rfl rfl (by kernel_rfl) (by kernel_rfl) (by kernel_rfl) (fun _ _ _ h => h) rfl (fun w' hw' => er_ixLL _ _ rfl gq 0 j (ss i).q.length (gd i).qc rfl rfl hjl) hS ?_
                                simp only [Act.put, List.setIfInBounds_toArray, List.set_cons_zero, List.set_cons_succ]
                                refine d_take 9 221 rfl rfl (by kernel_rfl) (by kernel_rfl) (by kernel_rfl) (fun _ _ _ h => h) rfl (fun w' hw' => er_ldL _ rfl gq (0 + j) (.slice (some ⟨((gd i).ms j).1, 0, none⟩) ((ss i).q.getD j []).length ((gd i).ms j).2) rfl (YE1.out w' hw')) hS ?_
                                simp only [Act.put, List.setIfInBounds_toArray, List.set_cons_zero, List.set_cons_succ]
                                refine d_take 10 222 rfl rfl (by kernel_rfl) (by kernel_rfl) (by kernel_rfl) (fun _ _ _ h => h) rfl (fun w' hw' => er_mv _ rfl (.slice (some ⟨b, o, none⟩) k sc) rfl) hS ?_
                                simp only [Act.put, List.setIfInBounds_toArray, List.set_cons_zero, List.set_cons_succ]
                                refine d_take 11 223 rfl rfl (by kernel_rfl) (by kernel_rfl) (by kernel_rfl) (fun _ _ _ h => h) rfl (fun w' hw' => er_mv _ rfl (.int .i64 (i : Int)) rfl) hS ?_
                                simp only [Act.put, List.setIfInBounds_toArray, List.set_cons_zero, List.set_cons_succ]
                                refine d_take 12 224 rfl rfl (by kernel_rfl) (by kernel_rfl) (by kernel_rfl) (fun _ _ _ h => h) rfl (fun w' hw' => er_ixT _ _ rfl b o i k sc rfl rfl hlt) hS ?_
                                simp only [Act.put, List.setIfInBounds_toArray, List.set_cons_zero, List.set_cons_succ]
                                refine d_take 13 225 rfl rfl (by kernel_rfl) (by kernel_rfl) (by kernel_rfl) (fun _ _ _ h => h) rfl (fun w' hw' => er_fS0 _ rfl b (o + i * 5) rfl) hS ?_
                                simp only [Act.put, List.setIfInBounds_toArray, List.set_cons_zero, List.set_cons_succ]
                                refine d_take 14 226 rfl rfl (by kernel_rfl) (by kernel_rfl) (by kernel_rfl) (fun _ _ _ h => h) rfl (fun w' hw' => er_ldLL _ rfl b (o + i * 5) (.slice (some ⟨b2, o2, none⟩) (ss i).q.length qc) rfl (XE0.out w' hw')) hS ?_
                                simp only [Act.put, List.setIfInBounds_toArray, List.set_cons_zero, List.set_cons_succ]
                                refine d_take 15 227 rfl rfl (by kernel_rfl) (by kernel_rfl) (by kernel_rfl) (fun _ _ _ h => h) rfl (fun w' hw' => er_mv _ rfl (.int .i64 (j : Int)) rfl) hS ?_
                                simp only [Act.put, List.setIfInBounds_toArray, List.set_cons_zero, List.set_cons_succ]
                                refine d_take 16 228 rfl rfl (by kernel_rfl) (by kernel_rfl) (by kernel_rfl) (fun _ _ _ h => h) rfl (fun w' hw' => er_ixLL _ _ rfl b2 o2 j (ss i).q.length qc rfl rfl hjl) hS ?_
                                simp only [Act.put, List.setIfInBounds_toArray, List.set_cons_zero, List.set_cons_succ]
                                refine d_take 17 229 rfl rfl (by kernel_rfl) (by kernel_rfl) (by kernel_rfl) (fun _ _ _ h => h) rfl (fun w' hw' => er_ldL _ rfl b2 (o2 + j) (.slice xda ((ss i).q.getD j []).length xdc) rfl (XE1.out w' hw')) hS ?_
                                simp only [Act.put, List.setIfInBounds_toArray, List.set_cons_zero, List.set_cons_succ]
                                refine d_call 18 230 (by kernel_rfl) rfl rfl rfl (er_cLeft _ _ _ _ rfl (.slice (some ⟨((gd i).ms j).1, 0, none⟩) ((ss i).q.getD j []).length ((gd i).ms j).2) (.slice xda ((ss i).q.getD j []).length xdc) rfl rfl) (CL8.out _ ((Kept.refl No _).drew)) (fun w' hS => ?_)
                                simp only [Act.put, List.setIfInBounds_toArray, List.set_cons_zero, List.set_cons_succ]
                                refine d_take 19 231 rfl rfl (by kernel_rfl) (by kernel_rfl) (by kernel_rfl) (fun _ _ _ h => h) rfl (fun w' hw' => er_pk _ _ _ rfl true (.bool true) rfl rfl) hS ?_
                                simp only [Act.put, List.setIfInBounds_toArray, List.set_cons_zero, List.set_cons_succ]
                                refine d_take 20 19 rfl rfl (by kernel_rfl) (by kernel_rfl) (by kernel_rfl) (fun _ _ _ h => h) rfl (fun w' hw' => er_as _ rfl (.bool true) rfl) hS ?_
                                simp only [Act.put, List.setIfInBounds_toArray, List.set_cons_zero, List.set_cons_succ]
                                refine wpAnyH_done (by kernel_rfl) ?_ _
                                have k31 := hS
                                clear hS
                                have gv31 := HQ.out.1.left HQ.out.2.2.2.1 (j' := i + 1) (i := i) (Nat.le_refl _) (by omega) (HM.out j hjl) k31
                                have mz31 := HQ.out.2.1.next hjl k31
                                have kc31 : Kept (fun x => w3.heap.size ≤ x ∧ x < w17.heap.size) wc w' := HQ.out.2.2.1.trans (k31.mono (fun x e => by have e' : x = _ := e; rw [e']; exact HQ.out.2.2.2.2)) (fun _ e => .inl e)
                                have H31 := hid (And.intro gv31 (And.intro mz31 kc31))
                                clear gv31 mz31 kc31 k31 YE0 YE1 XE0 XE1 CL8
                                go_wp2
                                refine ⟨⟨j + 1, by omega, rfl, by go_num, H31.out.1, H31.out.2.1, H31.out.2.2⟩, ?_⟩
                                simp [intOf]; omega
                            · have hjz : ¬ (j : Int) < ((ss i).q.length : Int) := by omega
                              have HQ := hid (And.intro gvq (HC.out.2.1.trans kq (fun _ e => .inl e)))
                              clear gvq mzq kq hbx
                              go_wp2
                              refine ⟨⟨i + 1, by omega, by go_num, HQ.out.1, HQ.out.2⟩, ?_⟩
                              simp [intOf]; omega
                · have hltz : ¬ (i : Int) < (k : Int) := by omega
                  have HC := hid kc
                  have KE : Hid (Kept No w wc) := ((H3.out.2.2.trans H18.out.2.2.2 (fun _ e => e.elim)).trans kc (fun x e => .inr (Nat.le_trans H3.out.2.2.size e.1)))
                  clear gvc kc
                  go_upto_region 34 with fail
                  as_aux_lemma =>
                    rcases H3.out.1 with ⟨e1, e2, wa, wv, rfl, rfl, gl, k3⟩ | ⟨e1, rfl, rfl, _⟩
                    · rcases H18.out.1 with ⟨_, _, b', mb', c', S', rfl, rfl, pt, stn, k8⟩ | ⟨e3, _⟩
                      · have sr := (gl.sr (by omega)).low
                        have K3c : Kept (fun x => w3.heap.size ≤ x ∧ x < w17.heap.size) w3 wc := (H18.out.2.2.2.mono (fun _ e => e.elim)).trans HC.out (fun _ e => .inl e)
                        have src := sr.kept K3c (fun x hx e => by have := hx.2; omega)
                        have ptc := pt.kept HC.out (fun x hx e => by have := pt.pf_lo hx; omega)
                        have hss : ∀ i, i < n → S'.ss i = wantS (fs i) q (ss i) := fun i hi => Pd.ss_want stn hi
                        have hSn := stn.len
                        have hkd := HH.out.2.2.2
                        have hsm := HH.out.2.1
                        have smal : Smal S'.n S'.ss := fun i hi => by
                          rw [hSn] at hi
                          rw [hss i hi]
                          have := hsm i (by omega)
                          exact want_small (hkd i hi) (HD.out i hi) (fun hp => allS_at e2 i hi hp) this.2.1 this.2.2
                        have CT := hid (told_yes (F := fun k => (F k ∨ w2.heap.size ≤ k) ∧ k < w3.heap.size) wc ptc (by omega) smal (by rw [hSn]; exact src.congr (fun i hi => (hss i hi).symm)) (fun x hx => Nat.lt_of_lt_of_le hx.2 K3c.size))
                        clear sr K3c src ptc hss smal gl pt stn k3 k8 hkd hsm
                        rw [hSn] at CT
                        go_wp2_with (go_at_call 21; refine CT.out.mono ?_; rintro r w35 ⟨rfl, k35⟩; have KF := hid (KE.out.trans k35 (fun _ e => e.elim)); clear k35)
                        go_ret
                        exact ⟨rfl, KF.out⟩
                      · exact absurd ⟨e1, e2⟩ e3
                    · clear HC
                      go_wp2
                      go_ret
                      exact ⟨rfl, KE.out⟩
end Go.Proofs.Ythebokkogeigoaa
