/-
  port: Load.
-/
import Derived.Test.YthebokkogeigoaaSEnd
import Derived.Test.YthebokkogeigoaaSRefW
namespace Go.Proofs.Ythebokkogeigoaa
open Go.RowKit
set_option linter.unusedVariables false
set_option linter.unusedSimpArgs false
set_option maxRecDepth 100000

/-- ports that stand as the document's -/
structure Stn (n : Nat) (ps : Nat → Pr) (part : Int) (S : Pd) (ss : Nat → Ps) : Prop where
  len : S.n = n
  own : ∀ i, i < n → S.own i = decide ((ps i).pt = part)
  pr : ∀ i, i < n → S.own i = true → (S.en i).pr = ps i
  sp : ∀ i, i < n → S.own i = true → (S.en i).ps = ss i
def PLd (w : World) (n sn : Nat) (ps : Nat → Pr) (part : Int) (ss : Nat → Ps) (e : Ending) (w' : World) : Prop :=
  (sn = n ∧ allS ps part ss n = true ∧ ∃ b mb c S, e = .returned (.tuple #[.pointer (some ⟨b, 0, none⟩), .int .i64 0]) ∧ Pt w' w.heap.size b mb c S ∧ Stn n ps part S (fun i => wantS (ps i) part (ss i)) ∧ Kept No w w') ∨ (¬ (sn = n ∧ allS ps part ss n = true) ∧ e = .returned (.tuple #[.pointer none, .int .i64 20]) ∧ Kept No w w')
/-- while it loads -/
structure Lg (w wr : World) (B b mb c : Nat) (n k : Nat) (ps : Nat → Pr) (part : Int) (ss : Nat → Ps) (S : Pd) : Prop where
  pt : Pt wr B b mb c S
  len : S.n = n
  own : ∀ i, i < n → S.own i = decide ((ps i).pt = part)
  pr : ∀ i, i < n → S.own i = true → (S.en i).pr = ps i
  sp : ∀ i, i < k → S.own i = true → (S.en i).ps = wantS (ps i) part (ss i)
  em : ∀ i, k ≤ i → i < n → S.own i = true → (S.en i).empty
  all : allS ps part ss k = true
  hk : Kept No w wr
  lo : w.heap.size ≤ B
theorem Lg.keep {w wr wr' : World} {B b mb c n k : Nat} {ps : Nat → Pr} {part : Int} {ss : Nat → Ps} {S : Pd} (h : Lg w wr B b mb c n k ps part ss S) (K : Kept No wr wr') : Lg w wr' B b mb c n k ps part ss S :=
  ⟨h.pt.keep K, h.len, h.own, h.pr, h.sp, h.em, h.all, h.hk.trans K (fun _ e => .inl e), h.lo⟩
theorem Lg.skip {w wr : World} {B b mb c n k : Nat} {ps : Nat → Pr} {part : Int} {ss : Nat → Ps} {S : Pd} (h : Lg w wr B b mb c n k ps part ss S) (hk : k < n) (ho : S.own k = false) : Lg w wr B b mb c n (k + 1) ps part ss S := by
  have e0 := h.own k hk
  rw [ho] at e0
  refine ⟨h.pt, h.len, h.own, h.pr, fun i hi hoi => ?_, fun i hi => h.em i (by omega), ?_, h.hk, h.lo⟩
  · by_cases e : i = k
    · subst e; rw [ho] at hoi; cases hoi
    · exact h.sp i (by omega) hoi
  · show (allS ps part ss k && _) = true
    rw [h.all, decide_eq_true (show (ps k).pt ≠ part from of_decide_eq_false e0.symm)]; rfl
theorem Lg.step {w wr wr' : World} {B b mb c n k : Nat} {ps : Nat → Pr} {part : Int} {ss : Nat → Ps} {S : Pd} {e' : En} (h : Lg w wr B b mb c n k ps part ss S) (hk : k < n) (ho : S.own k = true) (d : Did wr wr' B (S.en k) e') (hp : e'.pr = (S.en k).pr) (hf : fitS (S.en k).pr (ss k) = true) (hs : e'.ps = wantS (S.en k).pr (S.en k).pt (ss k)) : Lg w wr' B b mb c n (k + 1) ps part ss (S.put k e') := by
  obtain ⟨q1, q2, q3, q4⟩ := h.pt.did (by rw [h.len]; exact hk) ho d
  have e0 := h.own k hk
  rw [ho] at e0
  have hpt : (ps k).pt = part := of_decide_eq_true e0.symm
  have hpk := h.pr k hk ho
  have hpp : (S.en k).pt = part := by rw [← hpt, ← hpk]; rfl
  refine ⟨q1, h.len, h.own, fun i hi hoi => ?_, fun i hi hoi => ?_, fun i hi hin hoi => ?_, ?_, h.hk.trans q2 (fun x hx => .inr (by have := (h.pt.pw_blk hx).1; have := h.lo; omega)), h.lo⟩
  · show (upd S.en k e' i).pr = ps i
    by_cases e : i = k
    · subst e; rw [upd_same, hp]; exact hpk
    · rw [upd_oth _ _ e]; exact h.pr i hi hoi
  · show (upd S.en k e' i).ps = _
    by_cases e : i = k
    · subst e; rw [upd_same, hs, hpk, hpp]
    · rw [upd_oth _ _ e]; exact h.sp i (by omega) hoi
  · show (upd S.en k e' i).empty
    rw [upd_oth _ _ (by omega)]
    exact h.em i (by omega) hin hoi
  · show (allS ps part ss k && _) = true
    rw [h.all, ← hpk, hf]; simp
set_option maxHeartbeats 8000000 in
theorem pload_any {F G : Nat → Prop} {la sa pa ca : Option Addr} {n lc sn sc pn pc cn cc : Nat} {ps : Nat → Pr} {ss : Nat → Ps} (w : World) (part : Int) (hl : Pl w G la n lc ps) (hn : n ≤ 4095) (hk : ∀ i, i < n → (ps i).kd = 0 ∨ (ps i).kd = 1 ∧ 0 ≤ (ps i).dp) (hs : Sr w F sa sn sc ss) (hF : ∀ k, F k → k < w.heap.size) :
    Calls Try.prog 38 #[.agg #[.slice pa pn pc, .slice la n lc, .slice ca cn cc], .int .i64 part, .slice sa sn sc] w (PLd w n sn ps part ss) := by
  have l1 := hl.cap
  have l2 := hl.max
  have s1 := hs.cap
  have s2 := hs.max
  have s3 := hs.sm
  have K1 : Kept No w (w.alloc (.cells #[.slice pa pn pc, .slice la n lc, .slice ca cn cc] 27)) := (Kept.refl No w).alloc _
  have B1 := alloc_new w (.cells #[.slice pa pn pc, .slice la n lc, .slice ca cn cc] 27)
  have nw := new_any (w.alloc (.cells #[.slice pa pn pc, .slice la n lc, .slice ca cn cc] 27)) pa ca pn pc cn cc part (hl.kept K1 (fun _ _ e => e)) hn
  have d0 : (w.alloc (.cells #[.slice pa pn pc, .slice la n lc, .slice ca cn cc] 27)).cell? ⟨w.heap.size, 0, none⟩ = some (.slice pa pn pc) := (cell_blk B1 0).trans rfl
  have d1 : (w.alloc (.cells #[.slice pa pn pc, .slice la n lc, .slice ca cn cc] 27)).cell? ⟨w.heap.size, 1, none⟩ = some (.slice la n lc) := (cell_blk B1 1).trans rfl
  have d2 : (w.alloc (.cells #[.slice pa pn pc, .slice la n lc, .slice ca cn cc] 27)).cell? ⟨w.heap.size, 2, none⟩ = some (.slice ca cn cc) := (cell_blk B1 2).trans rfl
  have HS := hid (And.intro hs (And.intro hF (And.intro hk K1)))
  clear hl hk hs hF K1 B1
  by_cases hne : sn = n
  case neg =>
    have hne' : ((sn : Int) != (n : Int)) = true := by simp; omega
    have HN := hid hne
    clear hne nw
    go_enter Try.func38, Try.ntmps38
    go_wp2
    go_ret2
    exact .inr ⟨fun e => HN.out e.1, rfl, HS.out.2.2.2⟩
  case pos =>
    subst hne
    go_enter Try.func38, Try.ntmps38
    go_upto_region 1 with fail
    generalize w.alloc (.cells #[.slice pa pn pc, .slice la sn lc, .slice ca cn cc] 27) = w2 at *
    go_upto_region 4 with (go_at_call 8; refine nw.mono ?_; rintro r w3 ⟨b, mb, eb, rfl, pt, k3⟩; have PT := hid (And.intro pt k3); clear pt k3 nw)
    clear d0 d1 d2
    have LG : Hid (Lg w w3 w2.heap.size b mb sn sn 0 ps part ss (pdNew sn ps part sn eb)) :=
      ⟨PT.out.1, rfl, fun i hi => by
        show (decide (i < sn) && ((ps i).pt == part)) = _
        rw [decide_eq_true hi, Bool.true_and]
        by_cases h : (ps i).pt = part <;> simp [h], fun i _ _ => rfl, fun i hi => by omega, fun i _ _ _ => ⟨rfl, rfl, rfl, rfl, rfl, rfl, rfl⟩, rfl, HS.out.2.2.2.trans PT.out.2 (fun _ e => .inl e), HS.out.2.2.2.size⟩
    clear PT
    go_wp2
    go_loopw [23] (fun i wr => ∃ (k : Nat) (S : Pd), k ≤ sn ∧ i = .int .i64 k ∧ Lg w wr w2.heap.size b mb sn sn k ps part ss S) (fun i _ => sn - (intOf i).toNat)
    case atStart => exact ⟨0, _, Nat.zero_le _, rfl, LG.out⟩
    case round =>
      clear LG
      obtain ⟨k, S, hk, rfl, lg⟩ := hrel
      by_cases hlt : k < sn
      · have hltz : (k : Int) < (sn : Int) := by omega
        obtain ⟨sb, so, qa, qn, qc, da, dn, dc, rfl, hsb, t0, t1, t2, t3, t4, hm, hz, hdn⟩ := (HS.out.1.kept lg.hk (fun _ _ e => e)).row hlt
        have ka : Kept No wr (wr.alloc (.cells #[.slice qa qn qc, .bool (ss k).has, .int .i64 (ss k).tk, .slice da dn dc, .int .i64 (ss k).lost] 61)) := (Kept.refl No wr).alloc _
        have B4 := alloc_new wr (.cells #[.slice qa qn qc, .bool (ss k).has, .int .i64 (ss k).tk, .slice da dn dc, .int .i64 (ss k).lost] 61)
        have lga := lg.keep ka
        have hx : I6 ((k : Int) + 1) := by unfold I6; omega
        have LW := hid (And.intro hm (And.intro hz hdn))
        clear lg hm hz
        by_cases hown : S.own k = true
        · have hix : S.idx ((k : Int) + 1) = some k := Pd.idx_of (by rw [lga.len]; exact hlt) hown
          have fi := find_yes _ lga.pt hx hix
          have hpr := lga.pr k hlt hown
          have hkd : (S.en k).kd = 0 ∨ (S.en k).kd = 1 ∧ 0 ≤ (S.en k).dp := by
            have h9 := HS.out.2.2.1 k hlt
            rw [← hpr] at h9
            exact h9
          have ld := endload_any (wr.alloc (.cells #[.slice qa qn qc, .bool (ss k).has, .int .i64 (ss k).tk, .slice da dn dc, .int .i64 (ss k).lost] 61)) (lga.pt.ends k (by rw [lga.len]; exact hlt) hown) (lga.em k (Nat.le_refl _) hlt hown) hkd (F := F) (s := ss k) ⟨qa, qn, qc, da, dn, dc, rfl, LW.out.1.kept ka (fun _ _ e => e), LW.out.2.1.kept ka (fun _ _ e => e), LW.out.2.2⟩ (fun x hx => by have := HS.out.2.1 x hx; have := lga.lo; omega)
          have ld2 : Calls Try.prog 55 #[.pointer (some ⟨(S.en k).eb, 0, none⟩), .agg #[.slice qa qn qc, .bool (ss k).has, .int .i64 (ss k).tk, .slice da dn dc, .int .i64 (ss k).lost]] (wr.alloc (.cells #[.slice qa qn qc, .bool (ss k).has, .int .i64 (ss k).tk, .slice da dn dc, .int .i64 (ss k).lost] 61)) fun r w' => Ldd (wr.alloc (.cells #[.slice qa qn qc, .bool (ss k).has, .int .i64 (ss k).tk, .slice da dn dc, .int .i64 (ss k).lost] 61)) w' w2.heap.size (S.en k) (ss k) r := ld
          have LA := hid (And.intro lga (And.intro hown hpr))
          have B40 : (wr.alloc (.cells #[.slice qa qn qc, .bool (ss k).has, .int .i64 (ss k).tk, .slice da dn dc, .int .i64 (ss k).lost] 61)).cell? ⟨wr.heap.size, 0, none⟩ = some (.slice qa qn qc) := (cell_blk B4 0).trans rfl
          have B41 : (wr.alloc (.cells #[.slice qa qn qc, .bool (ss k).has, .int .i64 (ss k).tk, .slice da dn dc, .int .i64 (ss k).lost] 61)).cell? ⟨wr.heap.size, 1, none⟩ = some (.bool (ss k).has) := (cell_blk B4 1).trans rfl
          have B42 : (wr.alloc (.cells #[.slice qa qn qc, .bool (ss k).has, .int .i64 (ss k).tk, .slice da dn dc, .int .i64 (ss k).lost] 61)).cell? ⟨wr.heap.size, 2, none⟩ = some (.int .i64 (ss k).tk) := (cell_blk B4 2).trans rfl
          have B43 : (wr.alloc (.cells #[.slice qa qn qc, .bool (ss k).has, .int .i64 (ss k).tk, .slice da dn dc, .int .i64 (ss k).lost] 61)).cell? ⟨wr.heap.size, 3, none⟩ = some (.slice da dn dc) := (cell_blk B4 3).trans rfl
          have B44 : (wr.alloc (.cells #[.slice qa qn qc, .bool (ss k).has, .int .i64 (ss k).tk, .slice da dn dc, .int .i64 (ss k).lost] 61)).cell? ⟨wr.heap.size, 4, none⟩ = some (.int .i64 (ss k).lost) := (cell_blk B4 4).trans rfl
          clear lga hown hix B4 ka hpr hkd ld
          cases hb : fitS (S.en k).pr (ss k)
          · have HB := hid hb
            clear hb
            go_upto_region 7 with fail
            clear t0 t1 t2 t3 t4
            generalize wr.alloc (.cells #[.slice qa qn qc, .bool (ss k).has, .int .i64 (ss k).tk, .slice da dn dc, .int .i64 (ss k).lost] 61) = wa at *
            go_wp2_with (first
              | (go_at_call 29; refine fi.mono ?_; rintro r w5 ⟨rfl, e5⟩; subst e5; clear fi)
              | (go_at_call 55; refine ld2.mono ?_; rintro r w6 ⟨hr, e', d6, hp6, hs6⟩; rw [HB.out] at hr; subst hr; have D6 := hid d6; clear d6 hp6 hs6 ld2))
            go_ret2
            refine .inr ⟨fun q => ?_, rfl, LA.out.1.hk.trans D6.out.kept (fun x hx => .inr ?_)⟩
            · have h9 := allS_no (part := part) sn k hlt (by have h8 := LA.out.1.own k hlt; rw [LA.out.2.1] at h8; exact of_decide_eq_true h8.symm) (by rw [← LA.out.2.2]; exact HB.out)
              rw [h9] at q
              exact absurd q.2 (by decide)
            · have h9 := (LA.out.1.pt.ends k (by rw [LA.out.1.len]; exact hlt) LA.out.2.1).ew_blk hx
              have := LA.out.1.lo
              omega
          · have HB := hid hb
            clear hb
            go_upto_region 7 with fail
            clear t0 t1 t2 t3 t4
            generalize wr.alloc (.cells #[.slice qa qn qc, .bool (ss k).has, .int .i64 (ss k).tk, .slice da dn dc, .int .i64 (ss k).lost] 61) = wa at *
            go_wp2_with (first
              | (go_at_call 29; refine fi.mono ?_; rintro r w5 ⟨rfl, e5⟩; subst e5; clear fi)
              | (go_at_call 55; refine ld2.mono ?_; rintro r w6 ⟨hr, e', d6, hp6, hs6⟩; rw [HB.out] at hr; subst hr; have D6 := hid (And.intro d6 (And.intro hp6 (hs6 HB.out))); clear d6 hp6 hs6 ld2))
            refine ⟨⟨k + 1, _, by omega, by go_num, LA.out.1.step hlt LA.out.2.1 D6.out.1 D6.out.2.1 HB.out D6.out.2.2⟩, ?_⟩
            simp [intOf]; omega
        · have hix : S.idx ((k : Int) + 1) = none := by
            cases h9 : S.idx ((k : Int) + 1) with
            | none => rfl
            | some j =>
              obtain ⟨q1, q2, q3⟩ := Pd.idx_some h9
              obtain rfl : j = k := by omega
              exact absurd q2 hown
          have fi := find_no _ lga.pt hx hix
          have LA := hid (lga.skip hlt (by simpa using hown))
          clear lga hown hix B4 ka
          go_wp2_with (go_at_call 29; refine fi.mono ?_; rintro r w5 ⟨rfl, e5⟩; subst e5; clear fi)
          refine ⟨⟨k + 1, _, by omega, by go_num, LA.out⟩, ?_⟩
          simp [intOf]; omega
      · have hltz : ¬ (k : Int) < (sn : Int) := by omega
        obtain rfl : k = sn := by omega
        have LG := hid lg
        clear lg
        go_wp2
        go_ret2
        exact .inl ⟨rfl, LG.out.all, b, mb, k, S, rfl, LG.out.pt.base LG.out.lo, ⟨LG.out.len, LG.out.own, LG.out.pr, LG.out.sp⟩, LG.out.hk⟩
end Go.Proofs.Ythebokkogeigoaa
