/-
  The walk of CodecBack.
-/
import Derived.Test.YtakdfpenpodplaaBackState
import Derived.Test.YtakdfpenpodplaaWorks
import Derived.Maps.AppendAt
namespace Go.Proofs.Ytakdfpenpodplaa
open Go.RowKit
set_option linter.unusedVariables false

theorem Try.info43 : (Try.prog.info? 43).map (fun i => (i.zero, i.size, i.bytes)) = some (some (.agg #[.int .i64 0, .int .i64 0, .int .i64 0, .bool false, .slice none 0 0, .slice none 0 0, .int .i64 0]), 7, 88) := by kernel_rfl

/-- what is known of a script -/
def ScD (w : World) (a : Option Addr) (os : List OpD) : Prop := ∀ i d, os[i]? = some d → ∃ b o, a = some ⟨b, o, none⟩ ∧ OpOk w b (o + i * 7) d

theorem Zs.below {w w' : World} {F : Nat → Prop} {a : Option Addr} {n c : Nat} {xs : List Int} (h : Zs w F a n c xs) (hb : Below w.heap.size w w') : Zs w' F a n c xs :=
  h.kept (G := No) (Kept.of_below hb) (fun _ _ h => h)
theorem fitN_le (K N : Int) (h : N ≤ 9223372036854775807) : fitN K N ≤ 9223372036854775807 := by
  unfold fitN; split
  · omega
  · split
    · omega
    · split <;> omega
theorem fitD_zle (d : OpD) (h : ∀ z ∈ d.zs, -9223372036854775808 ≤ z ∧ z ≤ 9223372036854775807) : ∀ z ∈ (fitD d).zs, z ≤ 9223372036854775807 := by
  intro z hz
  have hz' : z ∈ (if d.K = 7 then fitZ d.zs else d.zs) := hz
  split at hz'
  · unfold fitZ at hz'; rw [List.mem_map] at hz'; obtain ⟨y, _, rfl⟩ := hz'; omega
  · exact (h z hz').2
theorem OpBlk.grown {w w' : World} {q : Nat} {K N Wd : Int} {Fl : Bool} {ba : Option Addr} {bn bc : Nat} {la : Option Addr} {ln lc : Nat} {M : Int} {row : Option Nat} (h : OpBlk w q K N Wd Fl ba bn bc la ln lc M) (hg : w.grownBy w' row) (hr : row ≠ some q) : OpBlk w' q K N Wd Fl ba bn bc la ln lc M :=
  (hg.block q (heap_lt h) (fun e => hr e.symm)).trans h

/-- the list of operations, kept -/
structure KL (w : World) (l : Value) (m : Nat) (vs : List OpW) (FL : Nat → Prop) (x : World) : Prop where
  own : x.ownsRow w.heap.size 43 7 l m ((vs.map cells7).flatten)
  zs : ∀ v ∈ vs, v.d.K = 7 → Zs x FL v.la v.ln v.lc v.d.zs
  bel : Below w.heap.size w x
theorem KL.kept {w : World} {l : Value} {m : Nat} {vs : List OpW} {FL G : Nat → Prop} {x y : World} (h : KL w l m vs FL x) (k : Kept G x y) (hl : ∀ g, l.ownBlock = some g → ¬ G g) (hF : ∀ g, FL g → ¬ G g) (hG : ∀ g, G g → w.heap.size ≤ g) : KL w l m vs FL y :=
  ⟨k.owns h.own hl, fun v hv hK => (h.zs v hv hK).kept k hF, h.bel.trans (k.below hG h.bel.size)⟩
theorem Bs.lo {w : World} {F : Nat → Prop} {a : Option Addr} {n c : Nat} {xs : List Nat} (h : Bs w F a n c xs) : Bs w (fun b => b < w.heap.size) a n c xs :=
  ⟨h.len, h.cap, h.max, h.nil, fun i hi => by obtain ⟨b, o, e, _, hc⟩ := h.at' i hi; exact ⟨b, o, e, cell_lt hc, hc⟩, h.lt⟩
theorem rbRest_len (xs : List Nat) (e : Int) : (rbRest xs e).length ≤ xs.length := by
  unfold rbRest; split
  · omega
  · cases xs with
    | nil => simp
    | cons b t => simp only; split <;> simp
theorem bkR_len (xs : List Nat) (e K : Int) (bs : List Nat) (M : Int) : (bkR xs e K bs M).length ≤ xs.length := by
  unfold bkR
  split; · exact tkRest_len _ _ _
  split; · exact tkRest_len _ _ _
  split; · exact tkRest_len _ _ _
  split; · exact tkRest_len _ _ _
  split; · exact rbRest_len _ _
  split; · exact tkRest_len _ _ _
  split; · exact glRest_len _ _ _
  · omega
theorem rst_len (os : List OpD) (j : Nat) : (rst os j).length ≤ (rst os 0).length := by
  have e : rst os 0 = tot os j ++ rst os j := by
    unfold rst tot; rw [← List.flatten_append, ← List.map_append, List.take_append_drop, List.drop_zero]
  rw [e, List.length_append]; omega

/-- reading a beginning that stops short -/
def Pf (T : List Nat) (xs : List Nat) (e : Int) : Prop := e = 20 ∨ (e = 0 ∧ ∃ y, y ≠ [] ∧ xs ++ y = T)
theorem Pf.step {d : OpD} {R xs : List Nat} {e : Int} (h : Pf (encD d ++ R) xs e) (hf : FitD d) : Pf R (bkR xs e d.K d.xs d.M) (bkE xs e d.K d.xs d.M) := by
  rcases h with rfl | ⟨rfl, y, hy, he⟩
  · exact .inl (back_stuck _ _ _ _)
  · by_cases hl : (encD d).length ≤ xs.length
    · have e1 : xs = encD d ++ xs.drop (encD d).length := by
        have h1 : (xs ++ y).take (encD d).length = encD d := by rw [he, List.take_left' rfl]
        rw [List.take_append_of_le_length hl] at h1
        have h0 := (List.take_append_drop (encD d).length xs).symm
        rw [h1] at h0
        exact h0
      have h2 : xs.drop (encD d).length ++ y = R := by
        have h3 : (xs ++ y).drop (encD d).length = R := by rw [he, List.drop_left' rfl]
        rwa [List.drop_append_of_le_length hl] at h3
      obtain ⟨_, b2, b3⟩ := back_fit (Fl := d.Fl) hf (xs.drop (encD d).length)
      have b2' : bkR (encD d ++ xs.drop (encD d).length) 0 d.K d.xs d.M = xs.drop (encD d).length := b2
      have b3' : bkE (encD d ++ xs.drop (encD d).length) 0 d.K d.xs d.M = 0 := b3
      rw [← e1] at b2' b3'
      exact .inr ⟨b3', y, hy, by rw [b2']; exact h2⟩
    · left
      have e1 : xs ++ (encD d).drop xs.length = encD d := by
        have h1 : (encD d ++ R).take xs.length = xs := by rw [← he, List.take_left' rfl]
        rw [List.take_append_of_le_length (by omega)] at h1
        conv => lhs; arg 1; rw [← h1]
        exact List.take_append_drop _ _
      refine back_short (Fl := d.Fl) hf xs ((encD d).drop xs.length) ?_ e1
      intro h0
      have := congrArg List.length h0
      rw [List.length_drop] at this
      simp at this
      omega

set_option maxRecDepth 100000 in
set_option maxHeartbeats 8000000 in
theorem codecBack_walk (a' : Option Addr) (m c' : Nat) (os : List OpD) (cut : Int) (w : World) (hs : ScD w a' os) (hol : os.length = m) (hmc : m ≤ c') (hsum : (os.map (fun d => d.xs.length + d.zs.length + 1)).sum ≤ 1048576) (hm : m ≤ 1048576) :
    Calls Try.prog 6 #[.slice a' m c', .int .i64 cut] w fun e w' => e = .returned (.bool true) ∧ Below w.heap.size w w' := by
  have q1 : ∀ (w : World) (a : Addr), (binOp .eql 39 (.pointer (some a)) (.pointer none)).run Try.prog w = .ok (.bool false) w := fun w a => by first | rfl | simp
  have q2 : ∀ (w : World) (a : Addr), (binOp .eql 37 (.pointer (some a)) (.pointer none)).run Try.prog w = .ok (.bool false) w := fun w a => by first | rfl | simp
  obtain ⟨i0, hi, hz0, hz1, hz2⟩ := info_parts Try.info43
  have c23 := newWriter_any w
  have HS : Hid (ScD w a' os) := hs
  have HOL : Hid (os.length = m) := hol
  have HSUM : Hid ((os.map (fun d => d.xs.length + d.zs.length + 1)).sum ≤ 1048576) := hsum
  obtain ⟨p, hp⟩ : ∃ p, p = w.heap.size := ⟨_, rfl⟩
  have hs1 : S1 w os w.heap.size 0 (.slice none 0 0) (w.alloc (.cells #[.slice none 0 0, .int .i64 0] 69)) [] (fun k => k = w.heap.size) No := by
    refine ⟨by simp, ⟨.slice none 0 0, heap_alloc_new _ _, World.ownsRow_nil _ _ _ _, rfl, fun g h => by simp [Value.ownBlock] at h, fun k hk => by rw [hk]; simp, (fun x hx => by cases hx)⟩, World.ownsRow_nil _ _ _ _, (fun g hg => by simp [Value.ownBlock] at hg), (fun v hv => by cases hv), (fun v hv => by cases hv), fun k hk => hk.elim, (fun k hk => by omega), fun k hk => hk.elim, fun k hk => hk.elim, (Below.refl _ _).alloc (Nat.le_refl _) _⟩
  rw [← hp] at c23
  have HS1 : Hid (∃ vs Fw FL, S1 w os p 0 (.slice none 0 0) (w.alloc (.cells #[.slice none 0 0, .int .i64 0] 69)) vs Fw FL) := ⟨_, _, _, by rw [hp]; exact hs1⟩
  clear hs hol hsum hp hs1
  go_enter Try.func6, Try.ntmps6
  go_upto_region 5 with (go_at_call 23; refine c23.mono ?_; rintro ex w2 ⟨rfl, rfl⟩)
  clear c23
  go_wp2
  go_loopw [6, 7] (fun l i wr => ∃ k : Nat, k ≤ m ∧ i = .int .i64 k ∧ ∃ vs Fw FL, S1 w os p k l wr vs Fw FL) (fun _ i _ => m - (intOf i).toNat)
  case atStart => exact ⟨0, by omega, rfl, HS1.out⟩
  case round =>
    clear HS1
    obtain ⟨k, hk, rfl, vs, Fw, FL, hS⟩ := hrel
    by_cases hlt : k < m
    · have hko : k < os.length := by rw [HOL.out]; exact hlt
      obtain ⟨d, hd⟩ : ∃ d, os[k]? = some d := ⟨_, List.getElem?_eq_getElem hko⟩
      have HD : Hid (os[k]? = some d) := hd
      have hwt := one_weight hd
      have hsum := HSUM.out
      have hzl : d.zs.length ≤ 1048576 := by omega
      have hxl : d.xs.length ≤ 1048576 := by omega
      obtain ⟨sb, so, rfl, ba, bn, bc, la, ln, lc, hop0, hBx, hZz, hN, hWd, hM, hzr⟩ := HS.out k d hd
      have hop := hop0.below hS.bel
      have hZr : Zs wr (fun _ => True) la ln lc d.zs := hZz.below hS.bel
      have c35 := fitted_any _ d.K d.N d.Wd d.Fl ba bn bc la ln lc d.M d.zs wr hZr (by rw [← hZr.len]; exact hzl)
      unfold opV at c35
      have hfit : FitD (fitD d) := fitD_Fit d hWd hBx.lt hzl
      have HFIT : Hid (FitD (fitD d)) := hfit
      have HSS : Hid (S1 w os p k u6 wr vs Fw FL) := hS
      have HBX : Hid (Bs w (fun _ => True) ba bn bc d.xs) := hBx
      have HZR : Hid (∀ z ∈ (fitD d).zs, z ≤ 9223372036854775807) := fitD_zle d hzr
      have hN' : fitN d.K d.N ≤ 9223372036854775807 := fitN_le _ _ hN.2
      have htl : (tot os k).length ≤ 8388608 := by have := tot_len os k; omega
      have hbnl : bn ≤ 1048576 := by rw [← hBx.len]; exact hxl
      obtain ⟨o0, o1, o2, o3, o4, o5, o6⟩ := hop
      obtain ⟨K, hK⟩ : ∃ K, K = d.K := ⟨_, rfl⟩
      obtain ⟨N', hN2⟩ : ∃ N', N' = fitN d.K d.N := ⟨_, rfl⟩
      obtain ⟨M', hM2⟩ : ∃ M', M' = fitM d.K d.M d.zs := ⟨_, rfl⟩
      obtain ⟨N0, hN0⟩ : ∃ N0, N0 = d.N := ⟨_, rfl⟩
      obtain ⟨M0, hM0⟩ : ∃ M0, M0 = d.M := ⟨_, rfl⟩
      obtain ⟨Wd, hWd0⟩ : ∃ Wd, Wd = d.Wd := ⟨_, rfl⟩
      obtain ⟨Fl, hFl⟩ : ∃ Fl, Fl = d.Fl := ⟨_, rfl⟩
      rw [← hN2, ← hM2, ← hK, ← hN0, ← hM0, ← hWd0, ← hFl] at c35
      rw [← hK] at o0
      rw [← hN0] at o1
      rw [← hWd0] at o2
      rw [← hFl] at o3
      rw [← hM0] at o6
      rw [← hN2] at hN'
      have HEQ : Hid (K = d.K ∧ N' = fitN d.K d.N ∧ M' = fitM d.K d.M d.zs ∧ Wd = d.Wd ∧ Fl = d.Fl) := ⟨hK, hN2, hM2, hWd0, hFl⟩
      clear hop0 hS hBx hZz hzr hZr hfit hK hN2 hM2 hN0 hM0 hWd0 hFl hN hWd hM hd
      go_upto_region 9 with (go_at_call 35; refine c35.mono ?_; rintro ex w1 ⟨la2, ln2, lc2, rfl, hb1, hz7⟩)
      obtain ⟨G', hG, hZ1, hln⟩ : ∃ G' : Nat → Prop, (∀ j, G' j → wr.heap.size ≤ j ∧ j < w1.heap.size) ∧ (K = 7 → Zs w1 G' la2 ln2 lc2 (fitD d).zs) ∧ (K = 7 → ln2 ≤ 1048576) := by
        by_cases h7 : K = 7
        · obtain ⟨G', h1, h2, h3⟩ := hz7 h7
          have e : (fitD d).zs = fitZ d.zs := if_pos (HEQ.out.1.symm.trans h7)
          refine ⟨G', h2, fun _ => by rw [e]; exact h1, fun _ => ?_⟩
          rw [← h1.len]; simp [fitZ]; exact hzl
        · exact ⟨No, fun j hj => hj.elim, fun h => absurd h h7, fun h => absurd h h7⟩
      have HG : Hid ((∀ j, G' j → wr.heap.size ≤ j ∧ j < w1.heap.size) ∧ (K = 7 → Zs w1 G' la2 ln2 lc2 (fitD d).zs) ∧ (K = 7 → ln2 ≤ 1048576)) := ⟨hG, hZ1, hln⟩
      have HB1 : Hid (Below wr.heap.size wr w1) := hb1
      have hs1 := hb1.size
      have hsw := HSS.out.bel.size
      obtain ⟨v, hv⟩ : ∃ v : OpW, v = ⟨fitD d, ba, bn, bc, la2, ln2, lc2⟩ := ⟨_, rfl⟩
      have hc7 : cells7 v = [.int .i64 K, .int .i64 N', .int .i64 Wd, .bool Fl, .slice ba bn bc, .slice la2 ln2 lc2, .int .i64 M'] := by
        obtain ⟨h1, h2, h3, h4, h5⟩ := HEQ.out
        rw [hv, h1, h2, h3, h4, h5]; rfl
      have HV : Hid (v = ⟨fitD d, ba, bn, bc, la2, ln2, lc2⟩) := hv
      have OWN1 : ∀ o1 o2, ((w1.alloc o1).alloc o2).ownsRow w.heap.size 43 7 u6 k ((vs.map cells7).flatten) := fun o1 o2 => (((Kept.of_below (F := No) hb1).owns HSS.out.own (fun _ _ h => h)).alloc o1).alloc o2
      have hcs : ∀ j u, [Value.int .i64 K, .int .i64 N', .int .i64 Wd, .bool Fl, .slice ba bn bc, .slice la2 ln2 lc2, .int .i64 M'][j]? = some u → ((w1.alloc (.cells #[.int .i64 K, .int .i64 N', .int .i64 Wd, .bool Fl, .slice ba bn bc, .slice la2 ln2 lc2, .int .i64 M'] 43)).alloc (.cells #[.int .i64 K, .int .i64 N', .int .i64 Wd, .bool Fl, .slice ba bn bc, .slice la2 ln2 lc2, .int .i64 M'] 43)).cell? ((⟨w1.heap.size + 1, 0, none⟩ : Addr).add j) = some u := by
        have := cell_seven w1 v (.cells #[.int .i64 K, .int .i64 N', .int .i64 Wd, .bool Fl, .slice ba bn bc, .slice la2 ln2 lc2, .int .i64 M'] 43) 43
        rw [hc7] at this; exact this
      have ho7 : ∀ u ∈ [Value.int .i64 K, .int .i64 N', .int .i64 Wd, .bool Fl, .slice ba bn bc, .slice la2 ln2 lc2, .int .i64 M'], u.oneCell' = true := by rw [← hc7]; exact cells7_one v
      have HC7 : Hid (cells7 v = [.int .i64 K, .int .i64 N', .int .i64 Wd, .bool Fl, .slice ba bn bc, .slice la2 ln2 lc2, .int .i64 M']) := hc7
      have HO7 : Hid (∀ u ∈ [Value.int .i64 K, .int .i64 N', .int .i64 Wd, .bool Fl, .slice ba bn bc, .slice la2 ln2 lc2, .int .i64 M'], u.oneCell' = true) := ho7
      have HCS : Hid (∀ j u, [Value.int .i64 K, .int .i64 N', .int .i64 Wd, .bool Fl, .slice ba bn bc, .slice la2 ln2 lc2, .int .i64 M'][j]? = some u → ((w1.alloc (.cells #[.int .i64 K, .int .i64 N', .int .i64 Wd, .bool Fl, .slice ba bn bc, .slice la2 ln2 lc2, .int .i64 M'] 43)).alloc (.cells #[.int .i64 K, .int .i64 N', .int .i64 Wd, .bool Fl, .slice ba bn bc, .slice la2 ln2 lc2, .int .i64 M'] 43)).cell? ((⟨w1.heap.size + 1, 0, none⟩ : Addr).add j) = some u) := hcs
      have HOWN1 : Hid (∀ o1 o2, ((w1.alloc o1).alloc o2).ownsRow w.heap.size 43 7 u6 k ((vs.map cells7).flatten)) := OWN1
      have HQ1 : Hid (OpBlk ((w1.alloc (.cells #[.int .i64 K, .int .i64 N', .int .i64 Wd, .bool Fl, .slice ba bn bc, .slice la2 ln2 lc2, .int .i64 M'] 43)).alloc (.cells #[.int .i64 K, .int .i64 N', .int .i64 Wd, .bool Fl, .slice ba bn bc, .slice la2 ln2 lc2, .int .i64 M'] 43)) w1.heap.size K N' Wd Fl ba bn bc la2 ln2 lc2 M') := heap_alloc2_old _ _ _
      clear c35 hz7 hb1 hG hZ1 hln hv hc7 OWN1 hcs ho7 o0 o1 o2 o3 o4 o5 o6
      go_upto_region 10 with (at_builtin; refine wpList_append_own_at _ rfl _ _ 36 rfl w.heap.size 43 i0 _ 7 88 Try.underlying36 hi hz0 hz1 hz2 rfl (by decide) _ _ _ rfl (HOWN1.out _ _) ⟨w1.heap.size + 1, 0, none⟩ 1 1 _ rfl rfl HCS.out HO7.out (by unfold maxLen; omega) (by omega) (by simp; omega) ?_; intro l2 w2 own2 grow2 _ at2)
      have own3 : w2.ownsRow w.heap.size 43 7 l2 (k + 1) ((vs.map cells7).flatten ++ cells7 v) := by rw [HC7.out]; exact own2
      have hvK : v.d.K = K := by rw [HV.out, HEQ.out.1]; rfl
      obtain ⟨hw2, hzv, hgf, hzs, hl2, hbel2, hsz2⟩ := HSS.out.mid HB1.out HG.out.1 (v := v) (fun h => by rw [HV.out]; exact HG.out.2.1 (hvK.symm.trans h)) own3 grow2 at2
      have hblk : OpBlk w2 w1.heap.size K N' Wd Fl ba bn bc la2 ln2 lc2 M' := HQ1.out.grown grow2 (fun e => by have := (HSS.out.own.lt _ e).2; omega)
      obtain ⟨p0, p1, p2, p3, p4, p5, p6⟩ := hblk.at'
      have c32 := write_any Fw (fun _ => True) G' p (tot os k) 0 K N' Wd Fl ba bn bc la2 ln2 lc2 M' d.xs (fitD d).zs w2 hw2 hN' (by omega) (fun _ => ⟨HBX.out.below hbel2, by omega⟩)
        (fun h7 => ⟨by have := hzv (hvK.trans h7); rw [HV.out] at this; exact this, hgf, HZR.out, by have := HG.out.2.2 h7; omega⟩)
      have hwf : wOp (tot os k) 0 K N' Wd Fl d.xs (fitD d).zs M' = (tot os (k + 1), 0) := by
        obtain ⟨h1, h2, h3, h4, h5⟩ := HEQ.out
        rw [tot_succ os k d HD.out, h1, h2, h3, h4, h5]
        exact write_fit HFIT.out (tot os k)
      rw [hwf] at c32
      unfold opV at c32
      have REL : Hid (∀ w3, WrDid Fw p (tot os (k + 1)) 0 w2 w3 → ∃ vs' Fw' FL', S1 w os p (k + 1) l2 w3 vs' Fw' FL') := by
        intro w3 hd3
        refine HSS.out.step HD.out (v := v) (by rw [HV.out]) (Nat.le_trans hs1 hsz2) own3 hzv (fun j hj => ⟨(HG.out.1 j hj).1, Nat.lt_of_lt_of_le (HG.out.1 j hj).2 hsz2⟩) hgf hzs hl2 hbel2 (fun _ => by rw [HV.out]; exact HBX.out) hd3
      obtain ⟨al, cl, rfl⟩ := row_shape own3
      clear own2 own3 grow2 at2 hw2 hzv hgf hzs hl2 hbel2 hblk hwf hvK
      go_wp2_with (go_at_call 32; refine c32.mono ?_; rintro ex w3 ⟨rfl, hd3⟩)
      go_roundw
      case rel => exact ⟨k + 1, by omega, by go_num, REL.out w3 hd3⟩
      case measure => simp [intOf]; omega
    · have hkm : k = m := by omega
      subst hkm
      have htk : tot os k = rst os 0 := by rw [rst_zero, HOL.out]
      have hlen : (rst os 0).length ≤ 8388608 := by rw [← htk]; have := tot_len os k; have := HSUM.out; omega
      have hwrt := hS.wrt
      rw [htk] at hwrt
      obtain ⟨al, cl, rfl⟩ := row_shape hS.own
      have c34 := done_any Fw p (rst os 0) 0 wr hwrt (by omega)
      rw [if_pos rfl] at c34
      have HSS : Hid (S1 w os p k (.slice al k cl) wr vs Fw FL) := hS
      have HWRT : Hid (Wr wr Fw p (rst os 0) 0) := hwrt
      have hrl : Hid (∀ x ∈ rst os 0, x < 256) := by obtain ⟨vv, hvv⟩ := hwrt; exact hvv.lt
      have HLEN : Hid ((rst os 0).length ≤ 8388608) := hlen
      clear hS hwrt htk
      go_upto_region 12 with (go_at_call 34; refine c34.mono ?_; rintro ex w4 ⟨a4, n4, k4, rfl, hw4, hk4, own4⟩)
      obtain ⟨g4, c4, hv4, hB4⟩ := Bs.of_owns own4 hrl.out
      obtain ⟨rfl, rfl, rfl⟩ : a4 = g4 ∧ n4 = (rst os 0).length ∧ k4 = c4 := by injection hv4 with h1 h2 h3; exact ⟨h1, h2, h3⟩
      have kl4 : KL w (.slice al k cl) k vs FL w4 := KL.kept ⟨HSS.out.own, HSS.out.zs, HSS.out.bel⟩ hk4 (fun g hg => (HSS.out.lw g hg).1) (fun g hg => HSS.out.dis g hg) HSS.out.hiW
      have hs4 := hk4.size
      obtain ⟨T, hT⟩ : ∃ T, T = rst os 0 := ⟨_, rfl⟩
      rw [← hT] at hB4 hw4 HLEN ⊢
      have HT : Hid (T = rst os 0) := hT
      obtain ⟨n, hn⟩ : ∃ n, n = T.length := ⟨_, rfl⟩
      rw [← hn] at hB4 HLEN ⊢
      have HNT : Hid (n = T.length) := hn
      have hnl : n ≤ 8388608 := HLEN.out
      have HBK4 : Hid (∀ g, (Value.slice a4 n k4).ownBlock = some g → g < w4.heap.size) := by
        intro g hg
        rw [HNT.out, HT.out] at hg
        exact (own4.lt g hg).2
      have c22 := newReader_any _ a4 n k4 T w4 hB4 (by omega)
      have KL4 : Hid (KL w (.slice al k cl) k vs FL w4) := kl4
      have HB4 : Hid (Bs w4 (fun g => (Value.slice a4 n k4).ownBlock = some g) a4 n k4 T) := hB4
      have HW4 : Hid (Wr w4 Fw p T 0) := hw4
      have HBLK : Hid ((∀ g, (Value.slice al k cl).ownBlock = some g → g < w4.heap.size) ∧ (∀ g, FL g → g < w4.heap.size)) := ⟨fun g hg => Nat.lt_of_lt_of_le (HSS.out.own.lt g hg).2 hs4, fun g hg => Nat.lt_of_lt_of_le (HSS.out.ltL g hg) hs4⟩
      clear c34 own4 hv4 hB4 hw4 hk4 kl4 hT hn hlen
      go_upto_region 13 with (go_at_call 22; refine c22.mono ?_; rintro ex w5 ⟨r, rfl, hr5, hb5⟩)
      have hs5 := hb5.size
      have c36 : Calls Try.prog 36 #[.pointer (some ⟨p, 0, none⟩)] w5 fun ex w' => ex = .returned (.int .i64 n) ∧ w' = w5 := by
        rw [HNT.out]; exact len_any Fw p T 0 w5 (HW4.out.kept (Kept.of_below (F := No) hb5) (fun _ _ h => h))
      have KL5 : Hid (KL w (.slice al k cl) k vs FL w5) := KL4.out.kept (Kept.of_below (F := No) hb5) (fun _ _ h => h) (fun _ _ h => h) (fun _ h => h.elim)
      have HB5 : Hid (Bs w5 (fun g => (Value.slice a4 n k4).ownBlock = some g) a4 n k4 T) := HB4.out.below hb5
      have hw4s : w.heap.size ≤ w4.heap.size := KL4.out.bel.size
      obtain ⟨Fr, hFr⟩ : ∃ Fr : Nat → Prop, Fr = (fun j => w4.heap.size ≤ j ∧ j < w5.heap.size) := ⟨_, rfl⟩
      rw [← hFr] at hr5
      have HR5 : Hid (Rd w5 Fr r T 0) := hr5
      have HFR : Hid (∀ j, Fr j → w4.heap.size ≤ j) := fun j hj => by rw [hFr] at hj; exact hj.1
      have hrr : w4.heap.size ≤ r := HFR.out r hr5.fp
      have HVS : Hid (∀ (i : Nat) (v : OpW), vs[i]? = some v → ∃ d, os[i]? = some d ∧ v.d = fitD d) := by
        intro i v hv
        have h1 : (vs.map (·.d))[i]? = some v.d := by simp [hv]
        rw [HSS.out.ds, List.take_of_length_le (by rw [HOL.out]; omega)] at h1
        rw [List.getElem?_map] at h1
        cases ho : os[i]? with
        | none => rw [ho] at h1; simp at h1
        | some d => rw [ho] at h1; simp at h1; exact ⟨d, rfl, h1.symm⟩
      have HVL : Hid (vs.length = k) := by
        have := congrArg List.length HSS.out.ds
        simp [HOL.out] at this; exact this
      have HFITS : Hid (∀ (i : Nat) (d : OpD), os[i]? = some d → FitD (fitD d)) := by
        intro i d hd
        obtain ⟨b, o, _, ba, bn, bc, la, ln, lc, _, hBx, _, _, hWd, _, _⟩ := HS.out i d hd
        have := one_weight hd
        have := HSUM.out
        exact fitD_Fit d hWd hBx.lt (by omega)
      have HBS : Hid (∀ v ∈ vs, v.d.K = 6 → Bs w (fun _ => True) v.ba v.bn v.bc v.d.xs) := HSS.out.bs
      -- the call of back at operation i, whatever the Reader
      have HBACK : Hid (∀ (Fx : Nat → Prop) (x i : Nat) (ys : List Nat) (e : Int) (wx W : World) (v : OpW), KL w (.slice al k cl) k vs FL W → Rd wx Fx x ys e → Kept (fun j => j = x) W wx → w4.heap.size ≤ x → ys.length ≤ 8388608 → vs[i]? = some v →
          (∃ g cap, (Value.slice al k cl) = .slice (some ⟨g, 0, none⟩) k cap ∧ OpAt wx g (0 + i * 7) v.d.K v.d.N v.d.Wd v.d.Fl v.ba v.bn v.bc v.la v.ln v.lc v.d.M) ∧
          Calls Try.prog 37 #[.pointer (some ⟨x, 0, none⟩), opV v.d.K v.d.N v.d.Wd v.d.Fl v.ba v.bn v.bc v.la v.ln v.lc v.d.M] wx fun ex w' => ex = .returned (.bool (bkV ys e v.d.K v.d.N v.d.Wd v.d.Fl v.d.xs v.d.zs v.d.M)) ∧ RdDid Fx x (bkR ys e v.d.K v.d.xs v.d.M) (bkE ys e v.d.K v.d.xs v.d.M) wx w') := by
        intro Fx x i ys e wx W v hkl hrd hk hx hys hv
        have hkx : KL w (.slice al k cl) k vs FL wx := hkl.kept hk (fun g hg e => by have := HBLK.out.1 g hg; omega) (fun g hg e => by have := HBLK.out.2 g hg; omega) (fun g hg => by omega)
        have hmem : v ∈ vs := List.mem_of_getElem? hv
        refine ⟨row_at hkx.own hv, back_any Fx (fun b => b < w.heap.size) FL x ys e v.d.K v.d.N v.d.Wd v.d.Fl v.ba v.bn v.bc v.la v.ln v.lc v.d.M v.d.xs v.d.zs wx hrd (by omega) (fun h6 => ⟨(HBS.out v hmem h6).lo.below hkx.bel, by omega⟩) (fun h7 => ⟨hkx.zs v hmem h7, fun hf => by have := HBLK.out.2 x hf; omega⟩)⟩
      clear c22 hr5 hb5 hFr HW4 HWRT
      go_upto_region 15 with (go_at_call 36; refine c36.mono ?_; rintro ex w6 ⟨rfl, hw⟩; obtain rfl := hw.symm)
      clear c36
      go_wp2
      go_loopw [12] (fun i wx => ∃ j : Nat, j ≤ k ∧ i = .int .i64 j ∧ RdDid Fr r (rst os j) 0 w5 wx) (fun i _ => k - (intOf i).toNat)
      case atStart => exact ⟨0, by omega, rfl, by rw [← HT.out]; exact HR5.out, Kept.refl _ _⟩
      case round =>
        obtain ⟨j, hj, rfl, hdr⟩ := hrel
        by_cases hjk : j < k
        · obtain ⟨v, hv⟩ : ∃ v, vs[j]? = some v := ⟨_, List.getElem?_eq_getElem (by rw [HVL.out]; exact hjk)⟩
          obtain ⟨d, hd, hvd⟩ := HVS.out j v hv
          have hrc := rst_cons os j d hd
          have hjl : (rst os j).length ≤ 8388608 := by have h1 := rst_len os j; rw [← HT.out, ← HNT.out] at h1; omega
          obtain ⟨⟨g, cap, hlv, hat⟩, c37⟩ := HBACK.out Fr r j (rst os j) 0 wr w5 v KL5.out hdr.1 hdr.2 hrr hjl hv
          have hfd := HFITS.out j d hd
          have hbk := back_fit (K := (fitD d).K) (N := (fitD d).N) (Wd := (fitD d).Wd) (Fl := (fitD d).Fl) (xs := (fitD d).xs) (zs := (fitD d).zs) (M := (fitD d).M) hfd (rst os (j + 1))
          have hrc' : rst os j = enc (fitD d).K (fitD d).N (fitD d).Wd (fitD d).Fl (fitD d).xs (fitD d).zs ++ rst os (j + 1) := hrc
          rw [← hrc', ← hvd] at hbk
          rw [hbk.1, hbk.2.1, hbk.2.2] at c37
          have HDR : Hid (RdDid Fr r (rst os j) 0 w5 wr) := hdr
          clear hbk hrc hrc' hfd hvd hd hdr hjl
          obtain ⟨⟨K, N, Wd, Fl, xs, zs, M⟩, ba, bn, bc, la, ln, lc⟩ := v
          simp only at hat c37
          unfold opV at c37
          injection hlv with hl1 hl2 hl3
          subst hl1 hl3
          obtain ⟨o0, o1, o2, o3, o4, o5, o6⟩ := hat
          rw [Nat.zero_add] at o0 o1 o2 o3 o4 o5 o6
          clear hv
          go_wp2_with (go_at_call 37; refine c37.mono ?_; rintro ex w6 ⟨rfl, hd6⟩)
          go_roundw
          case rel => exact ⟨j + 1, by omega, by go_num, hd6.1, HDR.out.2.trans hd6.2 (fun _ h => .inl h)⟩
          case measure => simp [intOf]; omega
        · have hjk2 : j = k := by omega
          subst hjk2
          have he : rst os j = [] := by rw [← HOL.out]; exact rst_end os
          rw [he] at hdr
          have c38 : Calls Try.prog 38 #[.pointer (some ⟨r, 0, none⟩)] wr fun ex w' => ex = .returned (.int .i64 0) ∧ w' = wr := left_any Fr r [] 0 wr hdr.1
          have c33 : Calls Try.prog 33 #[.pointer (some ⟨r, 0, none⟩)] wr fun ex w' => ex = .returned (.int .i64 0) ∧ ∃ n, w' = wr.drewN n := rdone_any Fr r [] 0 wr hdr.1
          have HDR : Hid (RdDid Fr r [] 0 w5 wr) := hdr
          clear hdr he
          go_upto_region 23 with (first | (go_at_call 38; refine c38.mono ?_; rintro ex w6 ⟨rfl, hw⟩; obtain rfl := hw.symm) | (go_at_call 33; refine c33.mono ?_; rintro ex w6 ⟨rfl, nd, rfl⟩))
          obtain ⟨W6, hW6⟩ : ∃ W6, W6 = wr.drewN nd := ⟨_, rfl⟩
          have hk6 : Kept (fun i => i = r) w5 W6 := by rw [hW6]; exact HDR.out.2.drewN nd
          have KL6 : Hid (KL w (.slice al j cl) j vs FL W6) := KL5.out.kept hk6 (fun g hg e => by have := HBLK.out.1 g hg; omega) (fun g hg e => by have := HBLK.out.2 g hg; omega) (fun g hg => by omega)
          have HB6 : Hid (Bs W6 (fun g => (Value.slice a4 n k4).ownBlock = some g) a4 n k4 T) := by
            exact HB5.out.kept hk6 (fun b hb e => by have := HBK4.out b hb; omega)
          rw [← hW6]
          clear c38 c33 HDR hW6
          by_cases hneg : cut < 0
          · go_wp2_with (go_at_call 10; refine (works_any _).mono ?_; rintro ex w8 ⟨rfl, bel8⟩)
            go_ret
            exact ⟨rfl, KL6.out.bel.trans (bel8.mono KL6.out.bel.size)⟩
          · by_cases hbig : (n : Int) ≤ cut
            · go_wp2_with (go_at_call 10; refine (works_any _).mono ?_; rintro ex w8 ⟨rfl, bel8⟩)
              go_ret
              exact ⟨rfl, KL6.out.bel.trans (bel8.mono KL6.out.bel.size)⟩
            · obtain ⟨C, rfl⟩ : ∃ C : Nat, cut = C := ⟨cut.toNat, by omega⟩
              have hCn : C < n := by omega
              obtain ⟨bb, bo, rfl, _, _⟩ := HB6.out.at' 0 (by omega)
              have hk4 : C ≤ k4 := by have := HB6.out.cap; omega
              have c22 := newReader_any _ _ C k4 (T.take C) W6 (HB6.out.take C (by omega)) (by omega)
              clear hneg hbig
              go_upto_region 28 with (go_at_call 22; refine c22.mono ?_; rintro ex w7 ⟨sx, rfl, hr7, hb7⟩)
              have KL7 : Hid (KL w (.slice al j cl) j vs FL w7) := KL6.out.kept (Kept.of_below (F := No) hb7) (fun _ _ h => h) (fun _ _ h => h) (fun _ h => h.elim)
              obtain ⟨Fs, hFs⟩ : ∃ Fs : Nat → Prop, Fs = (fun i => W6.heap.size ≤ i ∧ i < w7.heap.size) := ⟨_, rfl⟩
              rw [← hFs] at hr7
              have hss : W6.heap.size ≤ sx := by have := hr7.fp; rw [hFs] at this; exact this.1
              have hss4 : w4.heap.size ≤ sx := Nat.le_trans (Nat.le_trans hs5 hk6.size) hss
              have HSX : Hid (∀ i, Fs i → w.heap.size ≤ i) := fun i hi => by rw [hFs] at hi; exact Nat.le_trans KL6.out.bel.size hi.1
              have HR7 : Hid (Rd w7 Fs sx (T.take C) 0) := hr7
              have HPF : Hid (Pf (rst os 0) (T.take C) 0) := by
                refine .inr ⟨rfl, T.drop C, ?_, ?_⟩
                · intro h0
                  have := congrArg List.length h0
                  rw [List.length_drop, ← HNT.out] at this
                  simp at this; omega
                · rw [List.take_append_drop]; exact HT.out
              have hTC : (T.take C).length ≤ 8388608 := by rw [List.length_take]; omega
              have HTC : Hid ((T.take C).length ≤ 8388608) := hTC
              clear c22 hr7 hFs hb7 hTC hk6
              go_wp2
              go_loopw [15] (fun i wx => ∃ q : Nat, q ≤ j ∧ i = .int .i64 q ∧ ∃ ys e, RdDid Fs sx ys e w7 wx ∧ Pf (rst os q) ys e ∧ ys.length ≤ 8388608) (fun i _ => j - (intOf i).toNat)
              case atStart => exact ⟨0, by omega, rfl, T.take C, 0, ⟨HR7.out, Kept.refl _ _⟩, HPF.out, HTC.out⟩
              case round =>
                obtain ⟨q, hq, rfl, ys, e, hdr, hpf, hyl⟩ := hrel
                by_cases hqj : q < j
                · obtain ⟨v, hv⟩ : ∃ v, vs[q]? = some v := ⟨_, List.getElem?_eq_getElem (by rw [HVL.out]; exact hqj)⟩
                  obtain ⟨d, hd, hvd⟩ := HVS.out q v hv
                  obtain ⟨⟨g, cap, hlv, hat⟩, c37⟩ := HBACK.out Fs sx q ys e wr w7 v KL7.out hdr.1 hdr.2 hss4 hyl hv
                  have hfd := HFITS.out q d hd
                  have hst : Pf (rst os (q + 1)) (bkR ys e v.d.K v.d.xs v.d.M) (bkE ys e v.d.K v.d.xs v.d.M) := by
                    rw [rst_cons os q d hd] at hpf
                    rw [hvd]; exact hpf.step hfd
                  have hbl := bkR_len ys e v.d.K v.d.xs v.d.M
                  obtain ⟨B, hB⟩ : ∃ B, B = bkV ys e v.d.K v.d.N v.d.Wd v.d.Fl v.d.xs v.d.zs v.d.M := ⟨_, rfl⟩
                  obtain ⟨ys2, hys2⟩ : ∃ ys2, ys2 = bkR ys e v.d.K v.d.xs v.d.M := ⟨_, rfl⟩
                  obtain ⟨e2, he2⟩ : ∃ e2, e2 = bkE ys e v.d.K v.d.xs v.d.M := ⟨_, rfl⟩
                  rw [← hB, ← hys2, ← he2] at c37
                  rw [← hys2, ← he2] at hst
                  rw [← hys2] at hbl
                  have HST : Hid (Pf (rst os (q + 1)) ys2 e2) := hst
                  have HDR : Hid (RdDid Fs sx ys e w7 wr) := hdr
                  clear hst hfd hvd hd hdr hpf hB hys2 he2
                  obtain ⟨⟨K, N, Wd, Fl, xs, zs, M⟩, ba, bn, bc, la, ln, lc⟩ := v
                  simp only at hat c37
                  unfold opV at c37
                  injection hlv with hl1 hl2 hl3
                  subst hl1 hl3
                  obtain ⟨o0, o1, o2, o3, o4, o5, o6⟩ := hat
                  rw [Nat.zero_add] at o0 o1 o2 o3 o4 o5 o6
                  clear hv
                  go_wp2_with (go_at_call 37; refine c37.mono ?_; rintro ex w8 ⟨rfl, hd8⟩)
                  go_roundw
                  case rel => exact ⟨q + 1, by omega, by go_num, ys2, e2, ⟨hd8.1, HDR.out.2.trans hd8.2 (fun _ h => .inl h)⟩, HST.out, by omega⟩
                  case measure => simp [intOf]; omega
                · have hqj2 : q = j := by omega
                  subst hqj2
                  have he : rst os q = [] := by rw [← HOL.out]; exact rst_end os
                  rw [he] at hpf
                  have he20 : e = 20 := by
                    rcases hpf with h | ⟨_, y, hy, h⟩
                    · exact h
                    · exact absurd (List.append_eq_nil_iff.1 h).2 hy
                  subst he20
                  have c33 : Calls Try.prog 33 #[.pointer (some ⟨sx, 0, none⟩)] wr fun ex w' => ex = .returned (.int .i64 20) ∧ ∃ n, w' = wr.drewN n := rdone_any Fs sx ys 20 wr hdr.1
                  have BELF : Hid (Below w.heap.size w wr) := KL7.out.bel.trans (hdr.below HSX.out KL7.out.bel.size)
                  clear hdr hpf he
                  go_wp2_with (first | (go_at_call 33; refine c33.mono ?_; rintro ex w8 ⟨rfl, n8, rfl⟩) | (go_at_call 10; refine (works_any _).mono ?_; rintro ex w9 ⟨rfl, bel9⟩))
                  go_ret
                  exact ⟨rfl, (below_drewN BELF.out n8).trans (bel9.mono BELF.out.size)⟩

end Go.Proofs.Ytakdfpenpodplaa
