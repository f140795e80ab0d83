/-
  The document's Load: the walk.
-/
import Derived.Test.YthebokkogeigoaaSRefL
import Derived.Deep.RegionWith
namespace Go.Proofs.Ythebokkogeigoaa
open Go.RowKit
set_option linter.unusedVariables false
set_option linter.unusedSimpArgs false
set_option maxRecDepth 100000

/-- what Load answers of it -/
def RLd (w : World) (F : Nat → Prop) (n sn : Nat) (ps : Nat → Pr) (part : Int) (ss : Nat → Ps) (e : Ending) (w' : World) : Prop :=
  (sn = n ∧ allS ps part ss n = true ∧ ∃ va vc, e = .returned (.tuple #[.slice va n vc, .int .i64 0]) ∧ Gl w.heap.size F w' (.slice va n vc) n (fun i => wantS (ps i) part (ss i)) ∧ Kept No w w') ∨ (¬ (sn = n ∧ allS ps part ss n = true) ∧ e = .returned (.tuple #[.slice none 0 0, .int .i64 20]) ∧ Kept No w w')
theorem allS_no {ps : Nat → Pr} {part : Int} {ss : Nat → Ps} : ∀ n k, k < n → (ps k).pt = part → fitS (ps k) (ss k) = false → allS ps part ss n = false
  | 0, k, h, _, _ => by omega
  | n + 1, k, h, h1, h2 => by
    show (allS ps part ss n && _) = false
    by_cases e : k = n
    · subst e
      rw [h2, decide_eq_false (by simp [h1])]
      simp
    · rw [allS_no n k (by omega) h1 h2]
      rfl
theorem gl_step {k : Nat} {F : Nat → Prop} {w wr W2 w4 : World} {va ya : Option Addr} {vc yc : Nat} {As : Nat → Array Value} {A X : Array Value} {ss : Nat → Ps} (ga : wr.ownsRow w.heap.size 61 5 (.slice va k vc) k (cat (fun i => (As i).toList) k)) (gv : ∀ i, i < k → Vr wr F (As i) (ss i)) (B1 : wr.heap[w.heap.size]? = some (.cells X 27)) (kr : Kept No w wr) (k2 : Kept No wr W2) (hF : ∀ x, F x → x < w.heap.size) (hA : Vr W2 F A (ss k)) (o4 : w4.ownsRow w.heap.size 61 5 (.slice ya (k + 1) yc) (k + 1) (cat (fun i => (As i).toList) k ++ A.toList)) (k4 : Kept (fun x => (Value.slice va k vc).ownBlock = some x) W2 w4) :
    Gl w.heap.size F w4 (.slice ya (k + 1) yc) (k + 1) ss ∧ w4.heap[w.heap.size]? = some (.cells X 27) ∧ Kept No w w4 := by
  have ga2 := k2.owns ga (fun _ _ e => e)
  have hg : ∀ x, (Value.slice va k vc).ownBlock = some x → w.heap.size ≤ x := fun x hx => (owns_blk ga hx).1
  refine ⟨Gl.more (w := W2) (v := .slice va k vc) (fun i hi => (gv i hi).kept k2 (fun _ _ e => e)) (fun x hx e => by have := hF x hx; have := hg x e; omega) hA k4 o4, k4.at' (k2.at' B1 (fun e => e)) (fun e => ?_), (kr.trans k2 (fun _ e => .inl e)).trans k4 (fun x e => .inr (hg x e))⟩
  · obtain ⟨_, cs, h1⟩ := owns_blk ga e
    exact absurd (two_tags h1 B1) (by decide)
theorem news2 (w : World) (X : Obj) (A : Array Value) (t : TypeId) : ∀ j u, A.toList[j]? = some u → ((w.alloc X).alloc (.cells A t)).cell? ((⟨w.heap.size + 1, 0, none⟩ : Addr).add j) = some u := by
  intro j u hu
  have := news_alloc (w.alloc X) A t j u hu
  rw [World.size_alloc] at this
  exact this
theorem vr_two {w : World} {F : Nat → Prop} {p : Pr} {part : Int} {s : Ps} (h1 : p.pt = part) (h2 : p.kd = 0) (h3 : s.has = false) : Vr w F #[.slice none 0 0, .bool false, .int .i64 0, .slice none 0 0, .int .i64 s.lost] (wantS p part s) := by
  unfold wantS
  rw [if_pos h1, if_pos h2, if_neg (show ¬ p.kd = 1 by omega), if_pos (show p.kd = 1 ∨ s.has = false from .inr h3), if_pos (show p.kd = 1 ∨ s.has = false from .inr h3), h3]
  exact ⟨none, 0, 0, none, 0, 0, rfl, Mr.none w F, Zs.none w F, by omega⟩
theorem vr_three {w : World} {F : Nat → Prop} {p : Pr} {part : Int} {s : Ps} {da : Option Addr} {dn dc : Nat} (h1 : p.pt = part) (h2 : p.kd = 0) (h3 : s.has = true) (hz : Zs w F da dn dc s.d) (hd : dn ≤ 1048576) : Vr w F #[.slice none 0 0, .bool true, .int .i64 s.tk, .slice da dn dc, .int .i64 s.lost] (wantS p part s) := by
  have hn : ¬ (p.kd = 1 ∨ s.has = false) := by rw [h2, h3]; simp
  unfold wantS
  rw [if_pos h1, if_pos h2, if_neg (show ¬ p.kd = 1 by omega), if_neg hn, if_neg hn, h3]
  exact ⟨none, 0, 0, da, dn, dc, rfl, Mr.none w F, hz, hd⟩
theorem vr_one {w : World} {F : Nat → Prop} {p : Pr} {part : Int} {s : Ps} {qa : Option Addr} {qn qc : Nat} (h1 : p.pt = part) (h2 : p.kd = 1) (hm : Mr w F qa qn qc s.q) : Vr w F #[.slice qa qn qc, .bool false, .int .i64 0, .slice none 0 0, .int .i64 s.lost] (wantS p part s) := by
  unfold wantS
  rw [if_pos h1, if_neg (show ¬ p.kd = 0 by omega), if_pos h2, if_pos (show p.kd = 1 ∨ s.has = false from .inl h2), if_pos (show p.kd = 1 ∨ s.has = false from .inl h2)]
  exact ⟨qa, qn, qc, none, 0, 0, rfl, hm, Zs.none w F, by omega⟩
theorem vr_zero {w : World} {F : Nat → Prop} {p : Pr} {part : Int} {s : Ps} (h1 : p.pt ≠ part) : Vr w F #[.slice none 0 0, .bool false, .int .i64 0, .slice none 0 0, .int .i64 0] (wantS p part s) := by
  unfold wantS
  rw [if_neg h1]
  exact Vr.zero w F
set_option maxHeartbeats 16000000 in
theorem rload_any {F G : Nat → Prop} {pv ch : Value} {la sa : Option Addr} {n lc sn sc : Nat} {ps : Nat → Pr} {ss : Nat → Ps} (w : World) (part : Int) (hl : Pl w G la n lc ps) (hk : ∀ i, i < n → (ps i).kd = 0 ∨ (ps i).kd = 1) (hs : Sr w F sa sn sc ss) (hF : ∀ k, F k → k < w.heap.size) :
    Calls Try.prog 18 #[.agg #[pv, .slice la n lc, ch], .int .i64 part, .slice sa sn sc] w (RLd w F n sn ps part ss) := by
  have l1 := hl.cap
  have l2 := hl.max
  have s1 := hs.cap
  have s2 := hs.max
  have s3 := hs.sm
  have HL := hid (And.intro hl hk)
  have HS := hid hs
  have HF := hid hF
  clear hl hk hs hF
  by_cases hne : sn = n
  case neg =>
    have hne' : ((sn : Int) != (n : Int)) = true := by simp; omega
    have HN := hid hne
    clear hne
    go_enter Try.func18, Try.ntmps18
    go_wp2
    go_ret2
    exact .inr ⟨fun e => HN.out e.1, rfl, (Kept.refl No w).alloc _⟩
  case pos =>
    subst hne
    go_enter Try.func18, Try.ntmps18
    go_upto_region 1 with fail
    have K1 : Kept No w (w.alloc (.cells #[pv, .slice la sn lc, ch] 27)) := (Kept.refl No w).alloc _
    have B1 := alloc_new w (.cells #[pv, .slice la sn lc, ch] 27)
    have d1 : (w.alloc (.cells #[pv, .slice la sn lc, ch] 27)).cell? ⟨w.heap.size, 1, none⟩ = some (.slice la sn lc) := (cell_blk B1 1).trans rfl
    generalize w.alloc (.cells #[pv, .slice la sn lc, ch] 27) = w2 at *
    have H2 := hid (And.intro K1 B1)
    clear K1 B1
    go_wp2
    go_loopw [8, 9] (fun l i wr => ∃ (k : Nat) (va : Option Addr) (vc : Nat), k ≤ sn ∧ i = .int .i64 k ∧ l = .slice va k vc ∧ Gl w.heap.size F wr (.slice va k vc) k (fun i => wantS (ps i) part (ss i)) ∧ allS ps part ss k = true ∧ wr.heap[w.heap.size]? = some (.cells #[pv, .slice la sn lc, ch] 27) ∧ Kept No w wr) (fun _ i _ => sn - (intOf i).toNat)
    case atStart => exact ⟨0, none, 0, Nat.zero_le _, rfl, rfl, Gl.nil _ _ _ _, rfl, H2.out.2, H2.out.1⟩
    case round =>
      clear d1 H2
      obtain ⟨k, va, vc, hk, rfl, rfl, gl, hall, B1, kr⟩ := hrel
      obtain ⟨As, ga, gv⟩ := gl
      have d1 : wr.cell? ⟨w.heap.size, 1, none⟩ = some (.slice la sn lc) := (cell_blk B1 1).trans rfl
      by_cases hlt : k < sn
      · have hltz : (k : Int) < (sn : Int) := by omega
        obtain ⟨pb, po, rfl, hpb, p0, p1, p2, p3, p4, p5⟩ := (HL.out.1.kept kr (fun _ _ e => e)).at' k hlt
        obtain ⟨sb, so, qa, qn, qc, da, dn, dc, rfl, hsb, t0, t1, t2, t3, t4, hm, hz, hdn⟩ := (HS.out.kept kr (fun _ _ e => e)).row hlt
        have hkk := HL.out.2 k hlt
        have RF : Hid (∀ W, Kept No wr W → Calls Try.prog 36 #[.agg #[.int .i64 (ps k).pt, .int .i64 (ps k).kd, .bool (ps k).out, .int .i64 (ps k).sz, .int .i64 (ps k).dp, .int .i64 (ps k).rf], .agg #[.slice qa qn qc, .bool (ss k).has, .int .i64 (ss k).tk, .slice da dn dc, .int .i64 (ss k).lost]] W fun e w' => e = .returned (.bool (fitS (ps k) (ss k))) ∧ Kept No W w') := fun W kW => rfits_any W (ps k) hkk ⟨qa, qn, qc, da, dn, dc, rfl, hm.kept kW (fun _ _ e => e), hz.kept kW (fun _ _ e => e), hdn⟩
        have HV : Hid (∀ W, Kept No wr W → Mr W F qa qn qc (ss k).q ∧ Zs W F da dn dc (ss k).d) := fun W kW => ⟨hm.kept kW (fun _ _ e => e), hz.kept kW (fun _ _ e => e)⟩
        have GL := hid (And.intro ga (And.intro gv (And.intro hall (And.intro B1 kr))))
        clear ga gv hall B1 kr hm hz
        by_cases hpt : (ps k).pt = part
        · have hpt' : ((ps k).pt != part) = false := by simp [hpt]
          have HP := hid hpt
          clear hpt
          go_upto_region 9 with fail
          go_cut [44] (fun x wd => ∃ b9 : Bool, x = .bool b9 ∧ fitS (ps k) (ss k) = b9 ∧ Kept No wr wd)
          case first =>
            go_region_with (go_at_call 36; refine (RF.out _ (by first | exact (Kept.refl No wr).drew | exact Kept.refl No wr)).mono ?_; rintro e w3 ⟨rfl, k3⟩; have K3 := hid k3; clear k3)
            all_goals
              go_wp2
              go_meet
              first
                | exact ⟨_, rfl, rfl, K3.out⟩
                | exact ⟨_, rfl, rfl, ((Kept.refl No wr).drew).trans K3.out (fun _ e => .inl e)⟩
          case rest =>
          obtain ⟨b9, rfl, hb9, kc⟩ := hcut
          have HB9 := hid hb9
          have KC := hid kc
          replace d1 := kc.cell d1 (fun e => e)
          replace p1 := kc.cell p1 (fun e => e)
          replace t0 := kc.cell t0 (fun e => e)
          replace t1 := kc.cell t1 (fun e => e)
          replace t2 := kc.cell t2 (fun e => e)
          replace t3 := kc.cell t3 (fun e => e)
          replace t4 := kc.cell t4 (fun e => e)
          have HW : Hid (Mr wc F qa qn qc (ss k).q ∧ Zs wc F da dn dc (ss k).d ∧ dn ≤ 1048576) := ⟨(HV.out wc kc).1, (HV.out wc kc).2, hdn⟩
          clear hb9 kc p0 p2 p3 p4 p5 RF HV
          cases b9
          · have HA9 := hid (allS_no sn k hlt HP.out HB9.out)
            go_wp2
            go_ret2
            exact .inr ⟨fun e => by rw [HA9.out] at e; exact absurd e.2 (by decide), rfl, GL.out.2.2.2.2.trans KC.out (fun _ e => .inl e)⟩
          · have AS : Hid (allS ps part ss (k + 1) = true) := by
              show (allS ps part ss k && _) = true
              rw [GL.out.2.2.1, HB9.out]; simp
            rcases hkk with hkk | hkk
            · rw [hkk] at p1
              have HK := hid hkk
              clear hkk
              cases hh : (ss k).has
              · rw [hh] at t1
                have HH := hid hh
                clear hh
                have d1a := ((Kept.refl No wc).alloc (.cells #[.slice qa qn qc, .bool false, .int .i64 (ss k).tk, .slice da dn dc, .int .i64 (ss k).lost] 61)).cell d1 (fun e => e)
                have p1a := ((Kept.refl No wc).alloc (.cells #[.slice qa qn qc, .bool false, .int .i64 (ss k).tk, .slice da dn dc, .int .i64 (ss k).lost] 61)).cell p1 (fun e => e)
                have d1b := ((Kept.refl No wc).alloc (.cells #[.slice qa qn qc, .bool false, .int .i64 0, .slice none 0 0, .int .i64 (ss k).lost] 61)).cell d1 (fun e => e)
                have p1b := ((Kept.refl No wc).alloc (.cells #[.slice qa qn qc, .bool false, .int .i64 0, .slice none 0 0, .int .i64 (ss k).lost] 61)).cell p1 (fun e => e)
                go_wp2_with (at_builtin; go_must (refine wpList_appS rfl _ _ rfl w.heap.size (.slice va k vc) k _ rfl ((((Kept.refl No wc).alloc _).alloc _).owns (KC.out.owns GL.out.1 (fun _ _ e => e)) (fun _ _ e => e)) (by have := GL.out.2.2.2.2.size; have := KC.out.size; rw [World.size_alloc, World.size_alloc]; omega) #[.slice none 0 0, .bool false, .int .i64 0, .slice none 0 0, .int .i64 (ss k).lost] ⟨wc.heap.size + 1, 0, none⟩ rfl rfl (news2 wc _ _ _) (fun u hu => by simp at hu; rcases hu with rfl | rfl | rfl | rfl | rfl <;> rfl) (by omega) ?_); intro ya yc w4 o4 k4)
                have kk := ((Kept.refl No wc).alloc (.cells #[.slice none 0 0, .bool false, .int .i64 0, .slice none 0 0, .int .i64 (ss k).lost] 61)).alloc (.cells #[.slice none 0 0, .bool false, .int .i64 0, .slice none 0 0, .int .i64 (ss k).lost] 61)
                obtain ⟨g1, g2, g3⟩ := gl_step GL.out.1 GL.out.2.1 GL.out.2.2.2.1 GL.out.2.2.2.2 (KC.out.trans kk (fun _ e => .inl e)) HF.out (vr_two HP.out HK.out HH.out) o4.out k4.out
                refine ⟨⟨k + 1, ya, yc, by omega, by go_num, rfl, g1, AS.out, g2, g3⟩, ?_⟩
                simp [intOf]; omega
              · rw [hh] at t1
                have HH := hid hh
                clear hh
                have d1a := ((Kept.refl No wc).alloc (.cells #[.slice qa qn qc, .bool true, .int .i64 (ss k).tk, .slice da dn dc, .int .i64 (ss k).lost] 61)).cell d1 (fun e => e)
                have p1a := ((Kept.refl No wc).alloc (.cells #[.slice qa qn qc, .bool true, .int .i64 (ss k).tk, .slice da dn dc, .int .i64 (ss k).lost] 61)).cell p1 (fun e => e)
                have d1b := ((Kept.refl No wc).alloc (.cells #[.slice qa qn qc, .bool false, .int .i64 0, .slice none 0 0, .int .i64 (ss k).lost] 61)).cell d1 (fun e => e)
                have p1b := ((Kept.refl No wc).alloc (.cells #[.slice qa qn qc, .bool false, .int .i64 0, .slice none 0 0, .int .i64 (ss k).lost] 61)).cell p1 (fun e => e)
                go_wp2_with (at_builtin; go_must (refine wpList_appS rfl _ _ rfl w.heap.size (.slice va k vc) k _ rfl ((((Kept.refl No wc).alloc _).alloc _).owns (KC.out.owns GL.out.1 (fun _ _ e => e)) (fun _ _ e => e)) (by have := GL.out.2.2.2.2.size; have := KC.out.size; rw [World.size_alloc, World.size_alloc]; omega) #[.slice none 0 0, .bool true, .int .i64 (ss k).tk, .slice da dn dc, .int .i64 (ss k).lost] ⟨wc.heap.size + 1, 0, none⟩ rfl rfl (news2 wc _ _ _) (fun u hu => by simp at hu; rcases hu with rfl | rfl | rfl | rfl | rfl <;> rfl) (by omega) ?_); intro ya yc w4 o4 k4)
                have kk := ((Kept.refl No wc).alloc (.cells #[.slice none 0 0, .bool true, .int .i64 (ss k).tk, .slice da dn dc, .int .i64 (ss k).lost] 61)).alloc (.cells #[.slice none 0 0, .bool true, .int .i64 (ss k).tk, .slice da dn dc, .int .i64 (ss k).lost] 61)
                obtain ⟨g1, g2, g3⟩ := gl_step GL.out.1 GL.out.2.1 GL.out.2.2.2.1 GL.out.2.2.2.2 (KC.out.trans kk (fun _ e => .inl e)) HF.out (vr_three HP.out HK.out HH.out (HW.out.2.1.kept kk (fun _ _ e => e)) HW.out.2.2) o4.out k4.out
                refine ⟨⟨k + 1, ya, yc, by omega, by go_num, rfl, g1, AS.out, g2, g3⟩, ?_⟩
                simp [intOf]; omega
            · rw [hkk] at p1
              have HK := hid hkk
              clear hkk
              cases hh : (ss k).has
              · rw [hh] at t1
                clear hh
                have d1a := ((Kept.refl No wc).alloc (.cells #[.slice qa qn qc, .bool false, .int .i64 (ss k).tk, .slice da dn dc, .int .i64 (ss k).lost] 61)).cell d1 (fun e => e)
                have p1a := ((Kept.refl No wc).alloc (.cells #[.slice qa qn qc, .bool false, .int .i64 (ss k).tk, .slice da dn dc, .int .i64 (ss k).lost] 61)).cell p1 (fun e => e)
                have d1b := ((Kept.refl No wc).alloc (.cells #[.slice qa qn qc, .bool false, .int .i64 0, .slice none 0 0, .int .i64 (ss k).lost] 61)).cell d1 (fun e => e)
                have p1b := ((Kept.refl No wc).alloc (.cells #[.slice qa qn qc, .bool false, .int .i64 0, .slice none 0 0, .int .i64 (ss k).lost] 61)).cell p1 (fun e => e)
                go_wp2_with (at_builtin; go_must (refine wpList_appS rfl _ _ rfl w.heap.size (.slice va k vc) k _ rfl ((((Kept.refl No wc).alloc _).alloc _).owns (KC.out.owns GL.out.1 (fun _ _ e => e)) (fun _ _ e => e)) (by have := GL.out.2.2.2.2.size; have := KC.out.size; rw [World.size_alloc, World.size_alloc]; omega) #[.slice qa qn qc, .bool false, .int .i64 0, .slice none 0 0, .int .i64 (ss k).lost] ⟨wc.heap.size + 1, 0, none⟩ rfl rfl (news2 wc _ _ _) (fun u hu => by simp at hu; rcases hu with rfl | rfl | rfl | rfl | rfl <;> rfl) (by omega) ?_); intro ya yc w4 o4 k4)
                have kk := ((Kept.refl No wc).alloc (.cells #[.slice qa qn qc, .bool false, .int .i64 0, .slice none 0 0, .int .i64 (ss k).lost] 61)).alloc (.cells #[.slice qa qn qc, .bool false, .int .i64 0, .slice none 0 0, .int .i64 (ss k).lost] 61)
                obtain ⟨g1, g2, g3⟩ := gl_step GL.out.1 GL.out.2.1 GL.out.2.2.2.1 GL.out.2.2.2.2 (KC.out.trans kk (fun _ e => .inl e)) HF.out (vr_one HP.out HK.out (HW.out.1.kept kk (fun _ _ e => e))) o4.out k4.out
                refine ⟨⟨k + 1, ya, yc, by omega, by go_num, rfl, g1, AS.out, g2, g3⟩, ?_⟩
                simp [intOf]; omega
              · rw [hh] at t1
                clear hh
                have d1a := ((Kept.refl No wc).alloc (.cells #[.slice qa qn qc, .bool true, .int .i64 (ss k).tk, .slice da dn dc, .int .i64 (ss k).lost] 61)).cell d1 (fun e => e)
                have p1a := ((Kept.refl No wc).alloc (.cells #[.slice qa qn qc, .bool true, .int .i64 (ss k).tk, .slice da dn dc, .int .i64 (ss k).lost] 61)).cell p1 (fun e => e)
                have d1b := ((Kept.refl No wc).alloc (.cells #[.slice qa qn qc, .bool false, .int .i64 0, .slice none 0 0, .int .i64 (ss k).lost] 61)).cell d1 (fun e => e)
                have p1b := ((Kept.refl No wc).alloc (.cells #[.slice qa qn qc, .bool false, .int .i64 0, .slice none 0 0, .int .i64 (ss k).lost] 61)).cell p1 (fun e => e)
                go_wp2_with (at_builtin; go_must (refine wpList_appS rfl _ _ rfl w.heap.size (.slice va k vc) k _ rfl ((((Kept.refl No wc).alloc _).alloc _).owns (KC.out.owns GL.out.1 (fun _ _ e => e)) (fun _ _ e => e)) (by have := GL.out.2.2.2.2.size; have := KC.out.size; rw [World.size_alloc, World.size_alloc]; omega) #[.slice qa qn qc, .bool false, .int .i64 0, .slice none 0 0, .int .i64 (ss k).lost] ⟨wc.heap.size + 1, 0, none⟩ rfl rfl (news2 wc _ _ _) (fun u hu => by simp at hu; rcases hu with rfl | rfl | rfl | rfl | rfl <;> rfl) (by omega) ?_); intro ya yc w4 o4 k4)
                have kk := ((Kept.refl No wc).alloc (.cells #[.slice qa qn qc, .bool false, .int .i64 0, .slice none 0 0, .int .i64 (ss k).lost] 61)).alloc (.cells #[.slice qa qn qc, .bool false, .int .i64 0, .slice none 0 0, .int .i64 (ss k).lost] 61)
                obtain ⟨g1, g2, g3⟩ := gl_step GL.out.1 GL.out.2.1 GL.out.2.2.2.1 GL.out.2.2.2.2 (KC.out.trans kk (fun _ e => .inl e)) HF.out (vr_one HP.out HK.out (HW.out.1.kept kk (fun _ _ e => e))) o4.out k4.out
                refine ⟨⟨k + 1, ya, yc, by omega, by go_num, rfl, g1, AS.out, g2, g3⟩, ?_⟩
                simp [intOf]; omega
        · have hpt' : ((ps k).pt != part) = true := by simp [hpt]
          have HP := hid hpt
          clear hpt
          have AS : Hid (allS ps part ss (k + 1) = true) := by
            show (allS ps part ss k && _) = true
            rw [GL.out.2.2.1, decide_eq_true HP.out]; rfl
          go_wp2_with (at_builtin; go_must (refine wpList_appS rfl _ _ rfl w.heap.size (.slice va k vc) k _ rfl (((Kept.refl No wr).alloc _).owns GL.out.1 (fun _ _ e => e)) (by have := GL.out.2.2.2.2.size; rw [World.size_alloc]; omega) #[.slice none 0 0, .bool false, .int .i64 0, .slice none 0 0, .int .i64 0] ⟨wr.heap.size, 0, none⟩ rfl rfl (news_alloc wr _ _) (fun u hu => by simp at hu; rcases hu with rfl | rfl | rfl | rfl | rfl <;> rfl) (by omega) ?_); intro ya yc w4 o4 k4)
          have kk := (Kept.refl No wr).alloc (.cells #[.slice none 0 0, .bool false, .int .i64 0, .slice none 0 0, .int .i64 0] 61)
          obtain ⟨g1, g2, g3⟩ := gl_step GL.out.1 GL.out.2.1 GL.out.2.2.2.1 GL.out.2.2.2.2 kk HF.out (vr_zero HP.out) o4.out k4.out
          refine ⟨⟨k + 1, ya, yc, by omega, by go_num, rfl, g1, AS.out, g2, g3⟩, ?_⟩
          simp [intOf]; omega
      · have hltz : ¬ (k : Int) < (sn : Int) := by omega
        obtain rfl : k = sn := by omega
        have GL := hid (And.intro (show Gl w.heap.size F wr (.slice va k vc) k (fun i => wantS (ps i) part (ss i)) from ⟨As, ga, gv⟩) (And.intro hall kr))
        clear ga gv hall kr B1 d1
        go_wp2
        go_ret2
        exact .inl ⟨rfl, GL.out.2.1, va, vc, rfl, GL.out.1, GL.out.2.2⟩
end Go.Proofs.Ythebokkogeigoaa
