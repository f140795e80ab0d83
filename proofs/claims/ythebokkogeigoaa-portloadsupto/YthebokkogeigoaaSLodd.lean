/-
  loaded: port.Load of an image that is lent, and written over behind it.
-/
import Derived.Test.YthebokkogeigoaaSUnc
namespace Go.Proofs.Ythebokkogeigoaa
open Go.RowKit
set_option linter.unusedVariables false
set_option linter.unusedSimpArgs false
set_option maxRecDepth 100000

theorem Le.pl {w : World} {B ga ca gl cl n : Nat} {ps : Nat → Pr} {y1 d1 y2 d2 : Nat → Nat} (h : Le w B ga ca gl cl n ps y1 d1 y2 d2) : Pl w (fun k => k = gl) (some ⟨gl, 0, none⟩) n cl ps := by
  have hc := own_cap h.ports
  refine ⟨by omega, by omega, fun i hi => ⟨gl, 0, rfl, rfl, ?_, ?_, ?_, ?_, ?_, ?_⟩⟩
  · rw [Nat.zero_add]; exact h.port hi 0 _ rfl
  · rw [Nat.zero_add]; exact h.port hi 1 _ rfl
  · rw [Nat.zero_add]; exact h.port hi 2 _ rfl
  · rw [Nat.zero_add]; exact h.port hi 3 _ rfl
  · rw [Nat.zero_add]; exact h.port hi 4 _ rfl
  · rw [Nat.zero_add]; exact h.port hi 5 _ rfl
/-- what port.Load answers, its two values apart -/
def Res (w : World) (n sn : Nat) (ps : Nat → Pr) (part : Int) (ss : Nat → Ps) (pv ev : Value) (w' : World) : Prop :=
  (sn = n ∧ allS ps part ss n = true ∧ ∃ b mb c S, pv = .pointer (some ⟨b, 0, none⟩) ∧ ev = .int .i64 0 ∧ Pt w' w.heap.size b mb c S ∧ Stn n ps part S (fun i => wantS (ps i) part (ss i)) ∧ Kept No w w') ∨ (¬ (sn = n ∧ allS ps part ss n = true) ∧ pv = .pointer none ∧ ev = .int .i64 20 ∧ Kept No w w')
theorem PLd.res {w : World} {n sn : Nat} {ps : Nat → Pr} {part : Int} {ss : Nat → Ps} {e : Ending} {w' : World} (h : PLd w n sn ps part ss e w') : ∃ pv ev, e = .returned (.tuple #[pv, ev]) ∧ Res w n sn ps part ss pv ev w' := by
  rcases h with ⟨h1, h2, b, mb, c, S, rfl, h3⟩ | ⟨h1, rfl, h2⟩
  · exact ⟨_, _, rfl, .inl ⟨h1, h2, b, mb, c, S, rfl, rfl, h3⟩⟩
  · exact ⟨_, _, rfl, .inr ⟨h1, rfl, rfl, h2⟩⟩
theorem Res.kept {w : World} {n sn : Nat} {ps : Nat → Pr} {part : Int} {ss : Nat → Ps} {pv ev : Value} {w' : World} (h : Res w n sn ps part ss pv ev w') : Kept No w w' := by
  rcases h with ⟨_, _, _, _, _, _, _, _, _, _, k⟩ | ⟨_, _, _, k⟩ <;> exact k
theorem Pt.pf_lo {w : World} {B b mb c : Nat} {S : Pd} (h : Pt w B b mb c S) {k : Nat} (hk : Pf b mb S k) : B ≤ k := by
  rcases hk with rfl | rfl | ⟨i, h1, h2, h3⟩
  · exact h.low
  · exact h.mlow
  · exact ((h.ends i h1 h2).ef_blk h3).1
theorem Res.on {w0 w w' w'' : World} {n sn : Nat} {ps : Nat → Pr} {part : Int} {ss : Nat → Ps} {pv ev : Value} {g : Nat} (h : Res w n sn ps part ss pv ev w') (k0 : Kept No w0 w) (K : Kept (fun x => x = g) w' w'') (h1 : w0.heap.size ≤ g) (h2 : g < w.heap.size) : PLd w0 n sn ps part ss (.returned (.tuple #[pv, ev])) w'' := by
  have kk : ∀ {w1}, Kept No w w1 → w1 = w' → Kept No w0 w'' := fun k e => by subst e; exact (k0.trans k (fun _ e => e.elim)).trans K (fun x e => .inr (by have e' : x = g := e; omega))
  rcases h with ⟨q1, q2, b, mb, c, S, rfl, rfl, q3, q4, q5⟩ | ⟨q1, rfl, rfl, q2⟩
  · refine .inl ⟨q1, q2, b, mb, c, S, rfl, (q3.kept K (fun k hk e => ?_)).base k0.size, q4, kk q5 rfl⟩
    have := q3.pf_lo hk
    have e' : k = g := e
    omega
  · exact .inr ⟨q1, rfl, kk q2 rfl⟩
def Q9 : Array Value := #[.int .i64 9, .int .i64 0, .bool false, .int .i64 0, .int .i64 0, .int .i64 0]
theorem built_q9 : Try.prog.built 30 [(0, .int .i64 9)] = some Q9 := by kernel_rfl
theorem Q9_all : Q9.all (·.oneCell') = true := by simp [Q9, Value.oneCell']
theorem own_set6 {w : World} {B g m c o : Nat} {L : List Value} (h : w.ownsRow B 30 6 (.slice (some ⟨g, 0, none⟩) m c) m L) : ∃ L', (w.setCells g o Q9.toList).ownsRow B 30 6 (.slice (some ⟨g, 0, none⟩) m c) m L' :=
  ⟨_, owns_set (owns_set (owns_set (owns_set (owns_set (owns_set h _ _) _ _) _ _) _ _) _ _) _ _⟩
theorem kept_set6 {F : Nat → Prop} {a w : World} (h : Kept F a w) {g : Nat} (hg : F g ∨ a.heap.size ≤ g) (o : Nat) : Kept F a (w.setCells g o Q9.toList) :=
  (((((h.setCell (p := ⟨g, _, none⟩) hg _).setCell (p := ⟨g, _, none⟩) hg _).setCell (p := ⟨g, _, none⟩) hg _).setCell (p := ⟨g, _, none⟩) hg _).setCell (p := ⟨g, _, none⟩) hg _).setCell (p := ⟨g, _, none⟩) hg _
set_option maxHeartbeats 8000000 in
theorem loaded_any {F : Nat → Prop} {gp c3 B0 : Nat} {la sa : Option Addr} {n lc sn sc : Nat} {z1 z2 : Nat → Nat} {ps : Nat → Pr} {ss : Nat → Ps} (w : World) (part : Int) (hp : Pts w B0 (.slice (some ⟨gp, 0, none⟩) 3 c3) 3 z1 z2) (hl : w.ownsRow B0 30 6 (.slice la n lc) n (cat (fun i => pc (ps i)) n)) (hn : n ≤ 64) (hk : ∀ i, i < n → (ps i).kd = 0 ∨ (ps i).kd = 1 ∧ 0 ≤ (ps i).dp) (hs : Sr w F sa sn sc ss) (hF : ∀ k, F k → k < w.heap.size) :
    Calls Try.prog 19 #[.agg #[.slice (some ⟨gp, 0, none⟩) 3 c3, .slice la n lc, .slice none 0 0], .int .i64 part, .slice sa sn sc] w (PLd w n sn ps part ss) := by
  have hs1 := hs.cap
  have hs2 := hs.max
  have hs3 := hs.sm
  have CL : Hid (∀ W, Kept No w W → Calls Try.prog 37 #[.agg #[.slice (some ⟨gp, 0, none⟩) 3 c3, .slice la n lc, .slice none 0 0]] W fun r w' => ∃ ga ca gl cl y1 d1 y2 d2, r = .returned (.agg #[.slice (some ⟨ga, 0, none⟩) 3 ca, .slice (some ⟨gl, 0, none⟩) n cl, .slice none 0 0]) ∧ Le w' W.heap.size ga ca gl cl n ps y1 d1 y2 d2 ∧ Kept No W w') := fun W k => lent_any (gl0 := 0) W (hp.keep k) (k.owns hl (fun _ _ e => e)) hn
  have HH := hid (And.intro hp (And.intro hl (And.intro hk (And.intro hs hF))))
  clear hp hl hk hs hF
  obtain ⟨w1, e1⟩ : ∃ w1, w1 = w.alloc (.cells #[.slice (some ⟨gp, 0, none⟩) 3 c3, .slice la n lc, .slice none 0 0] 27) := ⟨_, rfl⟩
  have K1 : Kept No w w1 := by rw [e1]; exact (Kept.refl No w).alloc _
  have B1 : w1.heap[w.heap.size]? = some (.cells #[.slice (some ⟨gp, 0, none⟩) 3 c3, .slice la n lc, .slice none 0 0] 27) := by rw [e1]; exact alloc_new w _
  have b0 : w1.cell? ⟨w.heap.size, 0, none⟩ = some (.slice (some ⟨gp, 0, none⟩) 3 c3) := (cell_blk B1 0).trans rfl
  have b1 : w1.cell? ⟨w.heap.size, 1, none⟩ = some (.slice la n lc) := (cell_blk B1 1).trans rfl
  have b2 : w1.cell? ⟨w.heap.size, 2, none⟩ = some (.slice none 0 0) := (cell_blk B1 2).trans rfl
  have HK1 := hid (And.intro K1 B1)
  clear K1 B1
  go_enter Try.func19, Try.ntmps19
  go_upto_region 1 with fail
  rw [← e1]
  clear e1
  go_upto_region 2 with (go_at_call 37; refine (CL.out w1 HK1.out.1).mono ?_; rintro r w5 ⟨ga, ca, gl, cl, y1, d1, y2, d2, rfl, le, k5⟩; have HL := hid (And.intro le k5); clear le k5)
  obtain ⟨w6, e6⟩ : ∃ w6, w6 = w5.alloc (.cells #[.slice (some ⟨ga, 0, none⟩) 3 ca, .slice (some ⟨gl, 0, none⟩) n cl, .slice none 0 0] 27) := ⟨_, rfl⟩
  rw [← e6]
  have K56 : Kept No w5 w6 := by rw [e6]; exact (Kept.refl No w5).alloc _
  have B6 : w6.heap[w5.heap.size]? = some (.cells #[.slice (some ⟨ga, 0, none⟩) 3 ca, .slice (some ⟨gl, 0, none⟩) n cl, .slice none 0 0] 27) := by rw [e6]; exact alloc_new w5 _
  clear e6
  have K6 : Kept No w w6 := (HK1.out.1.trans HL.out.2 (fun _ e => e.elim)).trans K56 (fun _ e => e.elim)
  have c0 : w6.cell? ⟨w5.heap.size, 0, none⟩ = some (.slice (some ⟨ga, 0, none⟩) 3 ca) := (cell_blk B6 0).trans rfl
  have c1 : w6.cell? ⟨w5.heap.size, 1, none⟩ = some (.slice (some ⟨gl, 0, none⟩) n cl) := (cell_blk B6 1).trans rfl
  have c2 : w6.cell? ⟨w5.heap.size, 2, none⟩ = some (.slice none 0 0) := (cell_blk B6 2).trans rfl
  have le6 := HL.out.1.keep K56
  have CP := hid (pload_any (pa := some ⟨ga, 0, none⟩) (ca := none) (pn := 3) (pc := ca) (cn := 0) (cc := 0) w6 part le6.pl (by omega) HH.out.2.2.1 (HH.out.2.2.2.1.kept K6 (fun _ _ e => e)) (fun k hk => Nat.lt_of_lt_of_le (HH.out.2.2.2.2 k hk) K6.size))
  have LX : Hid (w6.heap[w.heap.size]? = some (.cells #[.slice (some ⟨gp, 0, none⟩) 3 c3, .slice la n lc, .slice none 0 0] 27)) := K56.at' (HL.out.2.at' HK1.out.2 (fun e => e)) (fun e => e)
  have GL : Hid (w.heap.size ≤ gl ∧ gl < w6.heap.size) := by
    have h1 := owns_at le6.ports (k := gl) rfl
    have h2 := HK1.out.1.size
    exact ⟨by omega, h1.2⟩
  have H6 := hid (And.intro K6 (And.intro B6 le6))
  clear K56 K6 B6 le6 b0 b1 b2 CL
  go_upto_region 3 with (go_at_call 38; refine CP.out.mono ?_; intro r w7 hr; obtain ⟨pv, ev, rfl, res⟩ := hr.res; clear hr; have RS := hid res; clear res)
  have k7 := RS.out.kept
  have K7 : Kept No w w7 := H6.out.1.trans k7 (fun _ e => e.elim)
  have B7 := k7.at' H6.out.2.1 (fun e => e)
  have X7 := k7.at' LX.out (fun e => e)
  have d0 : w7.cell? ⟨w5.heap.size, 0, none⟩ = some (.slice (some ⟨ga, 0, none⟩) 3 ca) := (cell_blk B7 0).trans rfl
  have d1' : w7.cell? ⟨w5.heap.size, 1, none⟩ = some (.slice (some ⟨gl, 0, none⟩) n cl) := (cell_blk B7 1).trans rfl
  have d2' : w7.cell? ⟨w5.heap.size, 2, none⟩ = some (.slice none 0 0) := (cell_blk B7 2).trans rfl
  have x0 : w7.cell? ⟨w.heap.size, 0, none⟩ = some (.slice (some ⟨gp, 0, none⟩) 3 c3) := (cell_blk X7 0).trans rfl
  have x1 : w7.cell? ⟨w.heap.size, 1, none⟩ = some (.slice la n lc) := (cell_blk X7 1).trans rfl
  have x2 : w7.cell? ⟨w.heap.size, 2, none⟩ = some (.slice none 0 0) := (cell_blk X7 2).trans rfl
  have CU := hid (unchanged_yes w7 (HH.out.1.keep K7) (K7.owns HH.out.2.1 (fun _ _ e => e)) hn (H6.out.2.2.keep k7))
  have H7 := hid (And.intro K7 (And.intro B7 k7))
  clear k7 K7 B7 X7 c0 c1 c2 CP LX
  go_upto_region 5 with (go_at_call 39; refine CU.out.mono ?_; rintro r w8 ⟨rfl, k8⟩; have K8 := hid k8; clear k8)
  clear d0 d1' d2' x0 x1 x2 CU
  go_wp2
  go_loopw [11] (fun u11 wr => ∃ (k : Nat) (L : List Value), k ≤ n ∧ u11 = .int .i64 k ∧ wr.ownsRow w1.heap.size 30 6 (.slice (some ⟨gl, 0, none⟩) (n + 1) cl) (n + 1) L ∧ Kept (fun x => x = gl) w8 wr) (fun u11 _ => n - (intOf u11).toNat)
  case atStart => exact ⟨0, _, by omega, rfl, K8.out.owns ((H7.out.2.2.owns H6.out.2.2.ports (fun _ _ e => e))) (fun _ _ e => e), Kept.refl _ _⟩
  case round =>
    obtain ⟨k, L, hk, rfl, ow, kr⟩ := hrel
    have gn : ¬ w5.heap.size = gl := fun e => by
      have h1 := owns_blk H6.out.2.2.ports (g := gl) rfl
      obtain ⟨_, cs, h2⟩ := h1
      rw [← e] at h2
      exact absurd (two_tags h2 H6.out.2.1) (by decide)
    have dr : wr.cell? ⟨w5.heap.size, 1, none⟩ = some (.slice (some ⟨gl, 0, none⟩) n cl) := kr.cell (K8.out.cell ((cell_blk H7.out.2.1 1).trans rfl) (fun e => e)) (fun e => gn e)
    have hcl := own_cap ow
    have TH : Hid (k < n → wr.there gl (k * 6) 6) := fun hlt j hj => by
      have h1 : k * 6 + j < L.length := by rw [ow.1]; omega
      exact ⟨by rw [own_cell ow (List.getElem?_eq_getElem h1)]; rfl, own_fz ow _⟩
    have HR := hid (And.intro ow kr)
    clear ow kr
    by_cases hlt : k < n
    · have hltz : (k : Int) < (n : Int) := by omega
      go_upto_region 8 with fail
      refine wp_region_lit ?_
      refine l_take 32 rfl rfl (er_fI1 _ rfl w5.heap.size 0 rfl) ?_
      simp only [Act.put, List.setIfInBounds_toArray, List.set_cons_zero, List.set_cons_succ]
      refine l_take 33 rfl rfl (er_ldQ _ rfl w5.heap.size (0 + 1) _ rfl dr) ?_
      simp only [Act.put, List.setIfInBounds_toArray, List.set_cons_zero, List.set_cons_succ]
      refine l_take 34 rfl rfl (er_mv _ rfl (.int .i64 k) rfl) ?_
      simp only [Act.put, List.setIfInBounds_toArray, List.set_cons_zero, List.set_cons_succ]
      refine l_take 35 rfl rfl (er_build 30 _ rfl _ (by kernel_rfl) _ built_q9) ?_
      simp only [Act.put, List.setIfInBounds_toArray, List.set_cons_zero, List.set_cons_succ]
      refine l_take 36 rfl rfl (er_ixQ _ _ rfl gl k n cl rfl rfl hlt (by omega)) ?_
      simp only [Act.put, List.setIfInBounds_toArray, List.set_cons_zero, List.set_cons_succ]
      refine wpList_store_mid rfl 30 (.tmp 36) (.tmp 35) rfl gl (k * 6) Q9 rfl rfl (TH.out hlt) Try.infoQ6 Q9_all ?_
      simp only [Act.put]
      obtain ⟨L', ow'⟩ := own_set6 (o := k * 6) HR.out.1
      have kw' := kept_set6 HR.out.2 (g := gl) (.inl rfl) (k * 6)
      generalize wr.setCells gl (k * 6) Q9.toList = wq at *
      have HQ := hid (And.intro ow' kw')
      clear ow' kw' TH HR dr
      go_wp2
      refine ⟨⟨k + 1, L', by omega, by go_num, HQ.out.1, HQ.out.2⟩, ?_⟩
      simp [intOf]; omega
    · have hltz : ¬ (k : Int) < (n : Int) := by omega
      clear TH gn
      go_wp2
      refine bodyPost_ret (results_tmp2 rfl _ _ _) rfl ?_
      exact RS.out.on H6.out.1 (K8.out.mono (fun _ e => e.elim) |>.trans HR.out.2 (fun x e => .inl e)) GL.out.1 GL.out.2
end Go.Proofs.Ythebokkogeigoaa
