/-
  ObjectsFlow: the walk.
-/
import Derived.Test.YtggkajopfbokjaaOFlowC
import Derived.Deep.CutBlock
namespace Go.Proofs.Ytggkajopfbokjaa
open Go.RowKit
set_option linter.unusedVariables false
set_option maxRecDepth 100000
set_option maxHeartbeats 16000000 in
theorem flow_law {F : Nat → Prop} {sa : Option Addr} {sn sc : Nat} {os : Nat → Od} (size depth start most : Int) (w : World) (hs : Sk w F sa sn sc os) (h1 : 0 ≤ size) (h2 : size ≤ 64) (h3 : 0 ≤ depth) (h4 : depth ≤ 64) (h5 : 1 ≤ most) (h6 : 0 ≤ start) (h7 : start ≤ most) (h8 : most ≤ 9223372036854775807) (h9 : sn ≤ 300) :
    Calls Try.prog 3 #[.int .i64 size, .int .i64 depth, .int .i64 start, .int .i64 most, .slice sa sn sc] w fun e w' => e = .returned (.bool true) ∧ Below w.heap.size w w' := by
  have hsc := hs.cap
  have hsm := hs.max
  have HS := hid hs
  clear hs
  have bb1 : decide (size < 0) = false := by simp; omega
  have bb2 : decide (64 < size) = false := by simp; omega
  have bb3 : decide (depth < 0) = false := by simp; omega
  have bb4 : decide (64 < depth) = false := by simp; omega
  have bb5 : decide (most < 1) = false := by simp; omega
  have bb6 : decide (start < 0) = false := by simp; omega
  have bb7 : decide (most < start) = false := by simp; omega
  have bb8 : decide ((300 : Int) < (sn : Int)) = false := by simp; omega
  go_enter Try.func3, Try.ntmps3
  go_upto_region 3 with fail
  clear bb1 bb2 bb3 bb4 bb5 bb6 bb7 bb8
  refine wp_region_lit ?_
  refine l_take 65 rfl rfl (er_mv _ rfl (.int .i64 start) rfl) ?_
  simp only [Act.put, List.setIfInBounds_toArray, List.set_cons_zero, List.set_cons_succ]
  refine l_take 66 rfl rfl (er_mv _ rfl (.int .i64 most) rfl) ?_
  simp only [Act.put, List.setIfInBounds_toArray, List.set_cons_zero, List.set_cons_succ]
  refine l_take 67 rfl rfl (er_build 24 _ rfl _ (by kernel_rfl) _ (built_as start most)) ?_
  simp only [Act.put, List.setIfInBounds_toArray, List.set_cons_zero, List.set_cons_succ]
  refine l_make 68 rfl rfl (er_bsas _ rfl _ rfl (fill_s start most)) ?_
  simp only [Act.put, List.setIfInBounds_toArray, List.set_cons_zero, List.set_cons_succ]
  refine l_take 69 rfl rfl (er_mv _ rfl (.int .i64 size) rfl) ?_
  simp only [Act.put, List.setIfInBounds_toArray, List.set_cons_zero, List.set_cons_succ]
  refine l_take 70 rfl rfl (er_mv _ rfl (.int .i64 depth) rfl) ?_
  simp only [Act.put, List.setIfInBounds_toArray, List.set_cons_zero, List.set_cons_succ]
  refine l_take 71 rfl rfl (er_build 27 _ rfl _ (by kernel_rfl) _ (built_ab size depth)) ?_
  simp only [Act.put, List.setIfInBounds_toArray, List.set_cons_zero, List.set_cons_succ]
  refine l_make 72 rfl rfl (er_bsab _ rfl _ rfl (fill_s size depth)) ?_
  simp only [Act.put, List.setIfInBounds_toArray, List.set_cons_zero, List.set_cons_succ]
  have F1 := alloc_new w (.cells #[.int .i64 start, .int .i64 most] 24)
  have K1 : Kept No w (w.alloc (.cells #[.int .i64 start, .int .i64 most] 24)) := (Kept.refl No w).alloc _
  generalize (w.alloc (.cells #[.int .i64 start, .int .i64 most] 24)) = w1 at *
  have F2 := alloc_new w1 (.cells #[.int .i64 size, .int .i64 depth] 27)
  have K2 : Kept No w1 (w1.alloc (.cells #[.int .i64 size, .int .i64 depth] 27)) := (Kept.refl No w1).alloc _
  generalize (w1.alloc (.cells #[.int .i64 size, .int .i64 depth] 27)) = w2 at *
  refine l_take 73 rfl rfl (er_build 37 _ rfl _ (by kernel_rfl) _ (built_part w.heap.size w1.heap.size)) ?_
  simp only [Act.put, List.setIfInBounds_toArray, List.set_cons_zero, List.set_cons_succ]
  refine l_make 11 rfl rfl (er_alloc rfl) ?_
  simp only [Act.put, List.setIfInBounds_toArray, List.set_cons_zero, List.set_cons_succ]
  refine wpList_store_row rfl 37 (.tmp 11) (.tmp 73) rfl w2.heap.size (PA w.heap.size w1.heap.size) rfl rfl _ Z21 (alloc_new w2 _) Try.infoPart rfl (PA_one _ _) ?_
  simp only [Act.put]
  have F3 := setRow_heap _ w2.heap.size Z21 (PA w.heap.size w1.heap.size) 37 (0, 0) (alloc_new w2 (.cells Z21 37))
  have K3 : Kept No w2 ((w2.alloc (.cells Z21 37)).setRow w2.heap.size (PA w.heap.size w1.heap.size)) := ((Kept.refl No w2).alloc _).trans (setRow_kept _ _ _) (fun k e => .inr (by rw [e]; exact Nat.le_refl _))
  have HF : Hid (Kept No w ((w2.alloc (.cells Z21 37)).setRow w2.heap.size (PA w.heap.size w1.heap.size)) ∧ ((w2.alloc (.cells Z21 37)).setRow w2.heap.size (PA w.heap.size w1.heap.size)).heap[w2.heap.size]? = some (.cells (PA w.heap.size w1.heap.size) 37) ∧ ((w2.alloc (.cells Z21 37)).setRow w2.heap.size (PA w.heap.size w1.heap.size)).heap[w.heap.size]? = some (.cells #[.int .i64 start, .int .i64 most] 24) ∧ ((w2.alloc (.cells Z21 37)).setRow w2.heap.size (PA w.heap.size w1.heap.size)).heap[w1.heap.size]? = some (.cells #[.int .i64 size, .int .i64 depth] 27)) := ⟨(K1.trans K2 (fun _ e => e.elim)).trans K3 (fun _ e => e.elim), F3, K3.at' (K2.at' F1 (fun e => e)) (fun e => e), K3.at' F2 (fun e => e)⟩
  clear F1 F2 F3 K1 K2 K3
  generalize ((w2.alloc (.cells Z21 37)).setRow w2.heap.size (PA w.heap.size w1.heap.size)) = w3 at *
  generalize hq : w2.heap.size = q at *
  generalize hz1 : w.heap.size = z1 at *
  generalize w1.heap.size = z2 at *
  clear hq
  have HW : Hid (w.heap.size = z1) := hz1
  clear hz1
  have NW : Hid (Calls Try.prog 6 #[.agg (PA z1 z2)] w3 fun e w' => ∃ b, e = .returned (.pointer (some ⟨b, 0, none⟩)) ∧ NewA w3 w' b (soNew 1 (fun _ => start) (fun _ => most) 0 (fun _ => false) 1 (fun _ => size) (fun _ => depth))) := new_any (F := fun _ => True) (us := []) w3 rfl rfl rfl rfl (pp_one HF.out.2.2.1) (vs_none _ _) (pp_one HF.out.2.2.2) (fun i hi => by omega) (by omega) (by omega) (by omega)
  go_upto_region 4 with fail
  refine wp_region_lit ?_
  refine wpList_load_row rfl 37 (.tmp 11) rfl q rfl _ (PA z1 z2) (0, 0) _ HF.out.2.1 Try.underlying37 rfl Try.infoPart ?_
  simp only [Act.put, List.setIfInBounds_toArray, List.set_cons_zero, List.set_cons_succ]
  generalize hPA : PA z1 z2 = A at *
  go_upto_region 5 with (go_at_call 6; refine NW.out.mono ?_; rintro e w4 ⟨b, rfl, hnw⟩; have HN := hid hnw; clear hnw NW)
  have HPA := hid hPA
  clear hPA
  obtain ⟨sv, ev, bv, hst, hk4⟩ := HN.out
  have F0 : Fy w w4 F q z1 z2 size depth start most b sv ev bv (soNew 1 (fun _ => start) (fun _ => most) 0 (fun _ => false) 1 (fun _ => size) (fun _ => depth)) start (.slice none 0 0) [] [] 0 := by
    have hk3 := HF.out.1
    rw [← HPA.out] at HF
    exact { st := hst.base hk3.size, kept := hk3.trans hk4 (fun _ e => e.elim), part := hk4.at' HF.out.2.1 (fun e => e), sem := hk4.at' HF.out.2.2.1 (fun e => e), buf := hk4.at' HF.out.2.2.2 (fun e => e), own := World.ownsRow_nil _ _ _ _, len := rfl, dat := fun i v x h => (by cases h), far := fun k hk => (by cases hk), ns := rfl, cnt := rfl, mx := rfl, ne := rfl, nb := rfl, dp := rfl, sz := rfl, xs := rfl, ole := Nat.le_refl _, szs := fun x hx => (by cases hx), room := by simpa using h3, lo := h6, hi := h7 }
  have HF0 := hid F0
  clear hst hk4 HN F0 HF
  go_upto_region 11 with fail
  go_loopw [12, 13, 14, 15, 16] (fun u12 u13 u14 u15 u16 wr => ∃ (b : Nat) (sv ev bv : Value) (S : So) (nn : Int) (vs : List Value) (ins : List (List Int)) (out i : Nat), u12 = .pointer (some ⟨b, 0, none⟩) ∧ u13 = .int .i64 nn ∧ u15 = .int .i64 out ∧ u16 = .int .i64 i ∧ i ≤ sn ∧ ins.length ≤ i ∧ Fy w wr F q z1 z2 size depth start most b sv ev bv S nn u14 vs ins out) (fun u12 u13 u14 u15 u16 _ => sn - (intOf u16).toNat)
  case atStart => exact ⟨b, sv, ev, bv, _, start, [], [], 0, 0, rfl, rfl, rfl, rfl, Nat.zero_le _, Nat.zero_le _, HF0.out⟩
  case round =>
    clear HF0
    obtain ⟨b, sv, ev, bv, S, nn, vs, ins, out, i, rfl, rfl, rfl, rfl, hi, hil, hfy⟩ := hrel
    obtain ⟨na, nl, nc, rfl⟩ := own_slice hfy.own
    have hnl : nl = ins.length := by
      obtain ⟨_, ⟨h0, h01⟩ | ⟨g0, cap0, cur0, h0, _⟩⟩ := hfy.own
      · injection h0 with _ h0 _; omega
      · injection h0
    subst hnl
    have HY := hid hfy
    clear hfy
    by_cases hlt : i < sn
    · have hltz : (i : Int) < (sn : Int) := by omega
      obtain ⟨gb, go, da, dc, rfl, _, e0, e1, e2, e3, e4, hz⟩ := HS.out.at' i hlt
      have f0 := HY.out.kept.cell e0 (fun e => e)
      have f1 := HY.out.kept.cell e1 (fun e => e)
      have f2 := HY.out.kept.cell e2 (fun e => e)
      have f3 := HY.out.kept.cell e3 (fun e => e)
      have f4 := HY.out.kept.cell e4 (fun e => e)
      have HZ := hid hz
      clear e0 e1 e2 e3 e4 hz
      generalize (os i).kd = kd at *
      generalize (os i).sec = o1 at *
      generalize (os i).num = o2 at *
      generalize (os i).up = o3 at *
      generalize (os i).dt = x at *
      go_upto_region 14 with fail
      have HW : Hid (Fy w (wr.alloc (.cells #[.int .i64 kd, .bool o1, .int .i64 o2, .bool o3, .slice da x.length dc] 42)) F q z1 z2 size depth start most b sv ev bv S nn (.slice na ins.length nc) vs ins out ∧ (wr.alloc (.cells #[.int .i64 kd, .bool o1, .int .i64 o2, .bool o3, .slice da x.length dc] 42)).heap[wr.heap.size]? = some (.cells #[.int .i64 kd, .bool o1, .int .i64 o2, .bool o3, .slice da x.length dc] 42) ∧ Zs w F da x.length dc x) := ⟨HY.out.keep ((Kept.refl No wr).alloc _), alloc_new wr _, HZ.out⟩
      have c0 : (wr.alloc (.cells #[.int .i64 kd, .bool o1, .int .i64 o2, .bool o3, .slice da x.length dc] 42)).cell? ⟨wr.heap.size, 0, none⟩ = some (.int .i64 kd) := (cell_blk HW.out.2.1 0).trans rfl
      have c4 : (wr.alloc (.cells #[.int .i64 kd, .bool o1, .int .i64 o2, .bool o3, .slice da x.length dc] 42)).cell? ⟨wr.heap.size, 4, none⟩ = some (.slice da x.length dc) := (cell_blk HW.out.2.1 4).trans rfl
      clear f0 f1 f2 f3 f4 HY HZ
      generalize (wr.alloc (.cells #[.int .i64 kd, .bool o1, .int .i64 o2, .bool o3, .slice da x.length dc] 42)) = wz at *
      generalize wr.heap.size = z at *
      have hole := HW.out.1.ole
      have hil3 : ins.length ≤ 300 := by omega
      have hlo := HW.out.1.lo
      have hhi := HW.out.1.hi
      go_upto_block 2 with fail
      clear c0
      go_cut [12, 13, 14, 15] (fun u12 u13 u14 u15 wx => ∃ (b : Nat) (sv ev bv : Value) (S : So) (nn : Int) (vs : List Value) (ins : List (List Int)) (out : Nat), u12 = .pointer (some ⟨b, 0, none⟩) ∧ u13 = .int .i64 nn ∧ u15 = .int .i64 out ∧ ins.length ≤ i + 1 ∧ Fy w wx F q z1 z2 size depth start most b sv ev bv S nn u14 vs ins out)
      case first =>
        by_cases k1 : kd = 1
        · subst k1
          as_aux_lemma =>
            have DN := hid (HW.out.1.down h8)
            go_upto_region 17 with (go_at_call 7; refine DN.out.mono ?_; rintro e w5 ⟨rfl, f5⟩; have H5 := hid f5; clear f5 DN)
            by_cases hp : 0 < nn
            · rw [show downI nn = nn - 1 from if_pos hp] at H5
              rw [show decide (0 < nn) = true by simp [hp]]
              go_wp2
              go_meet
              case rel => exact ⟨_, _, _, _, _, _, _, _, _, rfl, rfl, rfl, by omega, H5.out⟩
            · rw [show downI nn = nn from if_neg hp] at H5
              rw [show decide (0 < nn) = false by simp [hp]]
              go_wp2
              go_meet
              case rel => exact ⟨_, _, _, _, _, _, _, _, _, rfl, rfl, rfl, by omega, H5.out⟩
        · have n1 : (kd == 1) = false := by simp [k1]
          by_cases k2 : kd = 2
          · subst k2
            as_aux_lemma =>
              have DN := hid (HW.out.1.up h8)
              go_upto_region 23 with (go_at_call 8; refine DN.out.mono ?_; rintro e w5 ⟨rfl, f5⟩; have H5 := hid f5; clear f5 DN)
              by_cases hp : nn < most
              · rw [show upI nn most = nn + 1 from if_pos hp] at H5
                rw [show decide (nn < most) = true by simp [hp]]
                go_wp2
                go_meet
                case rel => exact ⟨_, _, _, _, _, _, _, _, _, rfl, rfl, rfl, by omega, H5.out⟩
              · rw [show upI nn most = nn from if_neg hp] at H5
                rw [show decide (nn < most) = false by simp [hp]]
                go_wp2
                go_meet
                case rel => exact ⟨_, _, _, _, _, _, _, _, _, rfl, rfl, rfl, by omega, H5.out⟩
          · have n2 : (kd == 2) = false := by simp [k2]
            by_cases k4 : kd = 4
            · subst k4
              as_aux_lemma =>
                go_upto_region 28 with fail
                by_cases hx : (x.length : Int) = size
                · have hxb : ((x.length : Int) == size) = true := by simp [hx]
                  by_cases hd : (ins.length : Int) - out < depth
                  · have PT := hid (HW.out.1.put_in (HW.out.2.2.kept HW.out.1.kept (fun _ _ e => e)) hx hd h2 h4)
                    go_upto_region 32 with (go_at_call 9; refine PT.out.mono ?_; rintro e w5 ⟨rfl, p5⟩; obtain ⟨it, mv, d5⟩ := p5; have P5 : Hid (Puts wz w5 w.heap.size b sv ev bv S 0 x ∧ w5.ownsRow w.heap.size 31 1 (.slice na ins.length nc) ins.length vs) := ⟨⟨it, mv, d5⟩, (HW.out.1.did d5).2.2.2.2.1⟩; have c5 : w5.cell? ⟨z, 4, none⟩ = some (.slice da x.length dc) := (cell_blk (HW.out.1.stay (K := True) d5 HW.out.2.1 (by decide)) 4).trans rfl; have hs5 := hid d5.2.1.size; clear d5 PT c4)
                    have AP : Hid ((w5.alloc (.cells #[.slice da x.length dc] 31)).ownsRow w.heap.size 31 1 (.slice na ins.length nc) ins.length vs ∧ w.heap.size ≤ (w5.alloc (.cells #[.slice da x.length dc] 31)).heap.size ∧ (w5.alloc (.cells #[.slice da x.length dc] 31)).cell? ⟨w5.heap.size, 0, none⟩ = some (.slice da x.length dc)) := ⟨P5.out.2.alloc _, by have := HW.out.1.kept.size; have := hs5.out; rw [World.size_alloc]; omega, (cell_blk (alloc_new w5 _) 0).trans rfl⟩
                    go_wp2_with (first
                      | (at_builtin; refine wpList_app1 rfl _ _ 40 31 rfl _ 24 Try.underlying40 Try.infoL rfl w.heap.size (.slice na ins.length nc) ins.length vs rfl AP.out.1 AP.out.2.1 ⟨w5.heap.size, 0, none⟩ 1 (.slice da x.length dc) rfl AP.out.2.2 rfl (by omega) (by unfold maxLen; omega) ?_; intro va vc wa own1 gr1 lo1; obtain ⟨S', f5⟩ := HW.out.1.put hx hd HW.out.2.2 P5.out.1 own1.out gr1.out lo1.out; have H5 := hid f5; clear f5)
                      | fail)
                    go_meet
                    case rel => exact ⟨_, _, _, _, _, _, _, _, _, rfl, rfl, rfl, by rw [List.length_append, List.length_singleton]; omega, H5.out⟩
                  · have PT := hid (HW.out.1.put_out (HW.out.2.2.kept HW.out.1.kept (fun _ _ e => e)) hx (by omega) h2)
                    go_wp2_with (first
                      | (go_at_call 9; refine PT.out.mono ?_; rintro e w5 ⟨rfl, k5⟩; have H5 := hid (HW.out.1.keep k5); have c5 := k5.cell c4 (fun e => e); clear k5 PT c4)
                      | fail)
                    go_meet
                    case rel => exact ⟨_, _, _, _, _, _, _, _, _, rfl, rfl, rfl, by omega, H5.out⟩
                · have hxb : ((x.length : Int) == size) = false := by simp [hx]
                  have PT := hid (HW.out.1.put_no da x.length dc hx)
                  go_wp2_with (first
                    | (go_at_call 9; refine PT.out.mono ?_; rintro e w5 ⟨rfl, k5⟩; have H5 := hid (HW.out.1.keep k5); have c5 := k5.cell c4 (fun e => e); clear k5 PT c4)
                    | fail)
                  go_meet
                  case rel => exact ⟨_, _, _, _, _, _, _, _, _, rfl, rfl, rfl, by omega, H5.out⟩
            · have n4 : (kd == 4) = false := by simp [k4]
              by_cases k5 : kd = 5
              · subst k5
                as_aux_lemma =>
                  go_upto_region 34 with fail
                  by_cases ho : out < ins.length
                  · have hoz : (out : Int) < (ins.length : Int) := by omega
                    have GT := hid (HW.out.1.get_one ho (by omega))
                    go_wp2_with (first
                      | (go_at_call 10; refine GT.out.mono ?_; rintro e w5 ⟨m, y, rfl, ⟨S', f5⟩, om, hy⟩; obtain ⟨ma, mc, hmv, zm⟩ := Zs.of_owns om; subst hmv; obtain ⟨g7, cap7, a', c', hg7, hn7, hm7, cg7, zd⟩ := f5.in_at hy; injection hg7 with hg7 _ hc7; subst hg7 hc7; have hyl : y.length ≤ 17592186044416 := (by have := f5.szs y (List.mem_of_getElem? hy); omega); have SW := hid (same_yes w5 zm zd hyl); have H4 := hid f5; clear om hy zm zd f5 hyl GT)
                      | (go_at_call 11; refine SW.out.mono ?_; rintro e w7 ⟨rfl, k7⟩; have H5 := hid (H4.out.keep k7); clear k7 SW H4)
                      | fail)
                    go_meet
                    case rel => exact ⟨_, _, _, _, _, _, _, _, out + 1, rfl, rfl, by go_num, by omega, H5.out⟩
                  · have hoz : ¬ (out : Int) < (ins.length : Int) := by omega
                    have GT := hid (HW.out.1.get_no (by omega))
                    go_wp2_with (first
                      | (go_at_call 10; refine GT.out.mono ?_; rintro e w5 ⟨rfl, k5⟩; have H5 := hid (HW.out.1.keep k5); clear k5 GT)
                      | fail)
                    go_meet
                    case rel => exact ⟨_, _, _, _, _, _, _, _, _, rfl, rfl, rfl, by omega, H5.out⟩
              · have n5 : (kd == 5) = false := by simp [k5]
                by_cases k7 : kd = 7
                · subst k7
                  as_aux_lemma =>
                    have RR : Hid ((∀ W, Kept No wz W → Calls Try.prog 13 #[.pointer (some ⟨b, 0, none⟩)] W fun e w' => ∃ u, e = .returned u ∧ w'.heap[q]? = some (.cells A 37) ∧ ∃ ts te tb, u = .agg #[ts, te, tb] ∧ Calls Try.prog 12 #[.agg A, .agg #[ts, te, tb]] w' fun e w'' => ∃ v, e = .returned v ∧ w''.heap[q]? = some (.cells A 37) ∧ ∃ b', v = .tuple #[.pointer (some ⟨b', 0, none⟩), .int .i64 0] ∧ ∃ sv' ev' bv' S', Fy w w'' F q z1 z2 size depth start most b' sv' ev' bv' S' nn (.slice na ins.length nc) vs ins out) ∧ wz.heap[q]? = some (.cells A 37)) := by
                      have hp := HPA.out
                      subst hp
                      refine ⟨fun W k => ?_, HW.out.1.part⟩
                      have hY := HW.out.1.keep k
                      refine (hY.state (by omega) h2).mono ?_
                      rintro e w' ⟨ts, te, tb, he, T⟩
                      have T2 := T
                      obtain ⟨_, _, _, _, _, _, K⟩ := T2
                      refine ⟨_, he, (hY.keep K).part, ts, te, tb, rfl, ?_⟩
                      refine (hY.reload (by omega) h2 T).mono ?_
                      rintro e2 w'' ⟨b', he2, sv', ev', bv', S', hF⟩
                      exact ⟨_, he2, hF.part, b', rfl, sv', ev', bv', S', hF⟩
                    have hAs : A.size = 21 := by have := HPA.out; subst this; rfl
                    go_upto_region 40 with fail
                    refine wp_region_held_drew (S := fun w' => w'.heap[q]? = some (.cells A 37)) (by kernel_rfl) RR.out.2 (fun hS => ?_)
                    refine d_take 0 201 rfl rfl (by kernel_rfl) (by kernel_rfl) (by kernel_rfl) (fun _ _ _ h => h) rfl (fun w' hw' => er_ldP _ rfl q A rfl hw' hAs) hS ?_
                    simp only [Act.put, List.setIfInBounds_toArray, List.set_cons_zero, List.set_cons_succ]
                    refine d_take 1 202 rfl rfl (by kernel_rfl) (by kernel_rfl) (by kernel_rfl) (fun _ _ _ h => h) rfl (fun w' hw' => er_mv _ rfl (.pointer (some ⟨b, 0, none⟩)) rfl) hS ?_
                    simp only [Act.put, List.setIfInBounds_toArray, List.set_cons_zero, List.set_cons_succ]
                    refine d_callN _ 2 203 (by kernel_rfl) rfl rfl rfl (er_c_st _ _ rfl (.pointer (some ⟨b, 0, none⟩)) rfl) (RR.out.1 _ ((Kept.refl No wz).drew)) ?_
                    rintro u w7 hS ⟨ts, te, tb, rfl, ld⟩
                    simp only [Act.put, List.setIfInBounds_toArray, List.set_cons_zero, List.set_cons_succ]
                    refine d_callN _ 3 204 (by kernel_rfl) rfl rfl rfl (er_c_ld _ _ _ _ rfl (.agg A) (.agg #[ts, te, tb]) rfl rfl) ld ?_
                    rintro u w8 hS ⟨b', rfl, f8⟩
                    simp only [Act.put, List.setIfInBounds_toArray, List.set_cons_zero, List.set_cons_succ]
                    refine d_take 4 200 rfl rfl (by kernel_rfl) (by kernel_rfl) (by kernel_rfl) (fun _ _ _ h => h) rfl (fun w' hw' => er_mv _ rfl (.tuple #[.pointer (some ⟨b', 0, none⟩), .int .i64 0]) rfl) hS ?_
                    simp only [Act.put, List.setIfInBounds_toArray, List.set_cons_zero, List.set_cons_succ]
                    refine d_take 5 205 rfl rfl (by kernel_rfl) (by kernel_rfl) (by kernel_rfl) (fun _ _ _ h => h) rfl (fun w' hw' => er_ex0 _ rfl _ _ rfl) hS ?_
                    simp only [Act.put, List.setIfInBounds_toArray, List.set_cons_zero, List.set_cons_succ]
                    refine d_take 6 206 rfl rfl (by kernel_rfl) (by kernel_rfl) (by kernel_rfl) (fun _ _ _ h => h) rfl (fun w' hw' => er_ex1 _ rfl _ _ rfl) hS ?_
                    simp only [Act.put, List.setIfInBounds_toArray, List.set_cons_zero, List.set_cons_succ]
                    refine d_take 7 27 rfl rfl (by kernel_rfl) (by kernel_rfl) (by kernel_rfl) (fun _ _ _ h => h) rfl (fun w' hw' => er_as _ rfl (.pointer (some ⟨b', 0, none⟩)) rfl) hS ?_
                    simp only [Act.put, List.setIfInBounds_toArray, List.set_cons_zero, List.set_cons_succ]
                    refine d_take 8 28 rfl rfl (by kernel_rfl) (by kernel_rfl) (by kernel_rfl) (fun _ _ _ h => h) rfl (fun w' hw' => er_as _ rfl (.int .i64 0) rfl) hS ?_
                    simp only [Act.put, List.setIfInBounds_toArray, List.set_cons_zero, List.set_cons_succ]
                    refine wpAnyH_done (by kernel_rfl) ?_ _
                    obtain ⟨sv', ev', bv', S', f9⟩ := f8
                    have H5 := hid f9
                    clear f9 hS RR hAs ld
                    go_wp2
                    go_meet
                    case rel => exact ⟨_, _, _, _, _, _, _, _, _, rfl, rfl, rfl, by omega, H5.out⟩
                · have n7 : (kd == 7) = false := by simp [k7]
                  as_aux_lemma =>
                    have H5 := hid HW.out.1
                    go_wp2
                    go_meet
                    case rel => exact ⟨_, _, _, _, _, _, _, _, _, rfl, rfl, rfl, by omega, H5.out⟩
      case rest =>
        as_aux_lemma =>
          obtain ⟨b, sv, ev, bv, S, nn, vs, ins, out, rfl, rfl, rfl, hil2, hfy⟩ := hcut
          obtain ⟨na, nl, nc, rfl⟩ := own_slice hfy.own
          have H5 := hid hfy
          have CN := hid hfy.count
          clear hfy
          go_wp2_with (go_at_call 14; refine CN.out.mono ?_; rintro e w6 ⟨rfl, k6⟩; have H6 := hid (H5.out.keep k6); clear k6 CN)
          go_roundw
          case rel => exact ⟨_, _, _, _, _, _, _, _, _, i + 1, rfl, rfl, rfl, by go_num, by omega, by omega, H6.out⟩
          case measure => simp [intOf]; omega
    · as_aux_lemma =>
        have hltz : ¬ (i : Int) < (sn : Int) := by omega
        have hil3 : ins.length ≤ 300 := by omega
        have hole := HY.out.ole
        have ST := hid (HY.out.state (by omega) h2)
        go_upto_region 48 with (go_at_call 13; refine ST.out.mono ?_; rintro e w5 ⟨ts, te, tb, rfl, T⟩; obtain ⟨g1, c1, g2, c2, lv, ms, rfl, hc1, hc1m, ⟨ea, ec, rfl⟩, rfl, hc2, hc2m, e1, e2, L, K5⟩ := HY.out.left T; obtain ⟨la, ln, lc, rfl⟩ := own_slice L.own; have HT : Hid (w5.cell? ⟨g1, 0, none⟩ = some (.int .i64 nn) ∧ w5.cell? ⟨g2, 0, none⟩ = some (.slice la ln lc) ∧ Ll w5 wr.heap.size (.slice la ln lc) ms (ins.drop out) ∧ Kept No wr w5) := ⟨e1, e2, L, K5⟩; clear e1 e2 L K5 T ST)
        have hln : ln = ins.length - out := by
          have h0 := HT.out.2.2.1.len
          rw [List.length_drop] at h0
          obtain ⟨_, ⟨h01, h02⟩ | ⟨g0, cap0, cur0, h01, _⟩⟩ := HT.out.2.2.1.own
          · injection h01 with _ h01 _; omega
          · injection h01 with _ h01 _; omega
        have H6 : Hid (Fy w (w5.alloc (.cells #[.slice (some ⟨g1, 0, none⟩) 1 c1, .slice ea 0 ec, .slice (some ⟨g2, 0, none⟩) 1 c2] 55)) F q z1 z2 size depth start most b sv ev bv S nn (.slice na ins.length nc) vs ins out ∧ Ll (w5.alloc (.cells #[.slice (some ⟨g1, 0, none⟩) 1 c1, .slice ea 0 ec, .slice (some ⟨g2, 0, none⟩) 1 c2] 55)) wr.heap.size (.slice la ln lc) ms (ins.drop out)) := ⟨HY.out.keep (HT.out.2.2.2.alloc _), HT.out.2.2.1.keep ((Kept.refl No w5).alloc _)⟩
        have BL := hid (alloc_new w5 (.cells #[.slice (some ⟨g1, 0, none⟩) 1 c1, .slice ea 0 ec, .slice (some ⟨g2, 0, none⟩) 1 c2] 55))
        have e1 : (w5.alloc (.cells #[.slice (some ⟨g1, 0, none⟩) 1 c1, .slice ea 0 ec, .slice (some ⟨g2, 0, none⟩) 1 c2] 55)).cell? ⟨g1, 0, none⟩ = some (.int .i64 nn) := ((Kept.refl No w5).alloc _).cell HT.out.1 (fun e => e)
        have e2 : (w5.alloc (.cells #[.slice (some ⟨g1, 0, none⟩) 1 c1, .slice ea 0 ec, .slice (some ⟨g2, 0, none⟩) 1 c2] 55)).cell? ⟨g2, 0, none⟩ = some (.slice la ln lc) := ((Kept.refl No w5).alloc _).cell HT.out.2.1 (fun e => e)
        have d0 : (w5.alloc (.cells #[.slice (some ⟨g1, 0, none⟩) 1 c1, .slice ea 0 ec, .slice (some ⟨g2, 0, none⟩) 1 c2] 55)).cell? ⟨w5.heap.size, 0, none⟩ = some (.slice (some ⟨g1, 0, none⟩) 1 c1) := (cell_blk BL.out 0).trans rfl
        have d2 : (w5.alloc (.cells #[.slice (some ⟨g1, 0, none⟩) 1 c1, .slice ea 0 ec, .slice (some ⟨g2, 0, none⟩) 1 c2] 55)).cell? ⟨w5.heap.size, 2, none⟩ = some (.slice (some ⟨g2, 0, none⟩) 1 c2) := (cell_blk BL.out 2).trans rfl
        clear HT HY
        have HE := hid (⟨e2, d2⟩ : _ ∧ _)
        generalize (w5.alloc (.cells #[.slice (some ⟨g1, 0, none⟩) 1 c1, .slice ea 0 ec, .slice (some ⟨g2, 0, none⟩) 1 c2] 55)) = w6 at *
        generalize w5.heap.size = lb at *
        have hq : ((ln : Int) != (ins.length : Int) - (out : Int)) = false := by simp; omega
        have hn2 : (nn != nn) = false := by simp
        go_upto_region 51 with fail
        clear e1 e2 d0 d2 hq hn2
        go_loopw [32] (fun u wr => ∃ d : Nat, out + d ≤ ins.length ∧ u = .int .i64 ((out : Int) + d) ∧ Kept No w6 wr) (fun u _ => ins.length - (intOf u).toNat)
        case atStart => exact ⟨0, by omega, by simp, Kept.refl No _⟩
        case round =>
          obtain ⟨d, hd, rfl, kd⟩ := hrel
          have KD := hid kd
          clear kd
          by_cases hlt2 : out + d < ins.length
          · have hltz2 : (out : Int) + (d : Int) < (ins.length : Int) := by omega
            have h6 := H6.out.1.keep KD.out
            have l6 := H6.out.2.keep KD.out
            have gy : ins[out + d]? = some ins[out + d] := List.getElem?_eq_getElem hlt2
            obtain ⟨g7, cap7, a7, c7, hg7, hn7, hm7, cg7, zd⟩ := h6.in_at gy
            injection hg7 with hg7 _ hc7
            subst hg7 hc7
            have gx : (ins.drop out)[d]? = some ins[out + d] := by rw [List.getElem?_drop]; exact gy
            have hdm : d < ms.length := by have := l6.len; rw [List.length_drop] at this; omega
            obtain ⟨x8, hx8, ox8⟩ := l6.at_msg (List.getElem?_eq_getElem hdm)
            rw [gx] at hx8
            injection hx8 with hx8
            subst hx8
            obtain ⟨a8, c8, hv8, z8⟩ := Zs.of_owns ox8
            have hyl : (ins[out + d]).length ≤ 17592186044416 := by have := h6.szs _ (List.getElem_mem hlt2); omega
            generalize ins[out + d] = y at *
            obtain ⟨g9, cap9, hg9, hn9, hm9, cg9⟩ : ∃ g9 cap9, Value.slice la ln lc = .slice (some ⟨g9, 0, none⟩) ms.length cap9 ∧ ms.length ≤ cap9 ∧ cap9 ≤ 9223372036854775807 ∧ wr.cell? ⟨g9, d, none⟩ = some (.slice a8 y.length c8) := by
              rcases owns_cells l6.own with ⟨_, h0⟩ | ⟨g, cap, h0, _, _, h01, h02, h03, _⟩
              · omega
              · exact ⟨g, cap, h0, h01, by unfold maxLen at h02; exact h02, by rw [← hv8]; exact h03 d _ (List.getElem?_eq_getElem hdm)⟩
            injection hg9 with hg9 hl9 hc9
            subst hg9 hc9
            have SW : Hid (∀ W, Kept No wr W → Calls Try.prog 11 #[.slice a8 y.length c8, .slice a7 y.length c7] W fun e w' => e = .returned (.bool true) ∧ Kept No W w') := fun W k => same_yes W (z8.kept k (fun _ _ e => e)) (zd.kept k (fun _ _ e => e)) hyl
            have e2 : wr.cell? ⟨g2, 0, none⟩ = some _ := KD.out.cell HE.out.1 (fun e => e)
            have d2 : wr.cell? ⟨lb, 2, none⟩ = some _ := KD.out.cell HE.out.2 (fun e => e)
            have hsub : (out : Int) + (d : Int) - (out : Int) = (d : Int) := by omega
            have hdl : d < ln := by omega
            have hll : ln ≤ 300 := by omega
            have hwd : IntKind.i64.wrap (d : Int) = (d : Int) := by
              rw [IntWalk.i64_left]
              unfold wrap64
              omega
            have HLN := hid hln
            clear h6 l6 gy gx z8 zd hv8 hyl ox8 hl9 hln
            go_upto_region 53 with fail
            have s1 : wr.drew.cell? ⟨lb, 2, none⟩ = some (.slice (some ⟨g2, 0, none⟩) 1 c2) ∧ wr.drew.cell? ⟨g2, 0, none⟩ = some (.slice (some ⟨g9, 0, none⟩) ln lc) ∧ wr.drew.cell? ⟨g9, d, none⟩ = some (.slice a8 y.length c8) ∧ wr.drew.cell? ⟨g7, out + d, none⟩ = some (.slice a7 y.length c7) := ⟨d2, e2, cg9, cg7⟩
            have SC : Hid (Calls Try.prog 11 #[.slice a8 y.length c8, .slice a7 y.length c7] wr.drew fun e w' => e = .returned (.bool true) ∧ (w'.cell? ⟨lb, 2, none⟩ = some (.slice (some ⟨g2, 0, none⟩) 1 c2) ∧ w'.cell? ⟨g2, 0, none⟩ = some (.slice (some ⟨g9, 0, none⟩) ln lc) ∧ w'.cell? ⟨g9, d, none⟩ = some (.slice a8 y.length c8) ∧ w'.cell? ⟨g7, out + d, none⟩ = some (.slice a7 y.length c7)) ∧ Kept No wr.drew w') := (SW.out _ ((Kept.refl No _).drew)).mono (fun e w' ⟨he, k⟩ => ⟨he, ⟨k.cell s1.1 (fun e => e), k.cell s1.2.1 (fun e => e), k.cell s1.2.2.1 (fun e => e), k.cell s1.2.2.2 (fun e => e)⟩, k⟩)
            have hix : ((out : Int) + (d : Int)) = ((out + d : Nat) : Int) := by omega
            clear d2 e2 cg9 cg7 SW
            refine wp_region_held_drew (S := fun w' => w'.cell? ⟨lb, 2, none⟩ = some (.slice (some ⟨g2, 0, none⟩) 1 c2) ∧ w'.cell? ⟨g2, 0, none⟩ = some (.slice (some ⟨g9, 0, none⟩) ln lc) ∧ w'.cell? ⟨g9, d, none⟩ = some (.slice a8 y.length c8) ∧ w'.cell? ⟨g7, out + d, none⟩ = some (.slice a7 y.length c7)) (by kernel_rfl) s1 (fun hS => ?_)
            clear s1
            refine d_take 0 265 rfl rfl (by kernel_rfl) (by kernel_rfl) (by kernel_rfl) (fun _ _ _ h => h) rfl (fun w' hw' => er_fO2 _ rfl lb rfl) hS ?_
            simp only [Act.put, List.setIfInBounds_toArray, List.set_cons_zero, List.set_cons_succ]
            refine d_take 1 266 rfl rfl (by kernel_rfl) (by kernel_rfl) (by kernel_rfl) (fun _ _ _ h => h) rfl (fun w' hw' => er_ldBB _ rfl lb 2 _ rfl hw'.1) hS ?_
            simp only [Act.put, List.setIfInBounds_toArray, List.set_cons_zero, List.set_cons_succ]
            refine d_take 2 267 rfl rfl (by kernel_rfl) (by kernel_rfl) (by kernel_rfl) (fun _ _ _ h => h) rfl (fun w' hw' => er_ixBB _ _ rfl g2 0 0 1 c2 rfl rfl (by omega)) hS ?_
            simp only [Act.put, List.setIfInBounds_toArray, List.set_cons_zero, List.set_cons_succ]
            refine d_take 3 268 rfl rfl (by kernel_rfl) (by kernel_rfl) (by kernel_rfl) (fun _ _ _ h => h) rfl (fun w' hw' => er_ldLL _ rfl g2 0 _ rfl hw'.2.1) hS ?_
            simp only [Act.put, List.setIfInBounds_toArray, List.set_cons_zero, List.set_cons_succ]
            refine d_take 4 269 rfl rfl (by kernel_rfl) (by kernel_rfl) (by kernel_rfl) (fun _ _ _ h => h) rfl (fun w' hw' => er_mv _ rfl (.int .i64 ((out : Int) + d)) rfl) hS ?_
            simp only [Act.put, List.setIfInBounds_toArray, List.set_cons_zero, List.set_cons_succ]
            refine d_take 5 270 rfl rfl (by kernel_rfl) (by kernel_rfl) (by kernel_rfl) (fun _ _ _ h => h) rfl (fun w' hw' => er_mv _ rfl (.int .i64 (out : Int)) rfl) hS ?_
            simp only [Act.put, List.setIfInBounds_toArray, List.set_cons_zero, List.set_cons_succ]
            refine d_take 6 271 rfl rfl (by kernel_rfl) (by kernel_rfl) (by kernel_rfl) (fun _ _ _ h => h) rfl (fun w' hw' => er_sub _ _ rfl _ _ d rfl rfl (by omega) (by omega)) hS ?_
            simp only [Act.put, List.setIfInBounds_toArray, List.set_cons_zero, List.set_cons_succ]
            refine d_take 7 272 rfl rfl (by kernel_rfl) (by kernel_rfl) (by kernel_rfl) (fun _ _ _ h => h) rfl (fun w' hw' => er_ixLL _ _ rfl g9 0 d ln lc rfl rfl (by omega)) hS ?_
            simp only [Act.put, List.setIfInBounds_toArray, List.set_cons_zero, List.set_cons_succ]
            refine d_take 8 273 rfl rfl (by kernel_rfl) (by kernel_rfl) (by kernel_rfl) (fun _ _ _ h => h) rfl (fun w' hw' => er_ldL _ rfl g9 (0 + d) _ rfl (by rw [Nat.zero_add]; exact hw'.2.2.1)) hS ?_
            simp only [Act.put, List.setIfInBounds_toArray, List.set_cons_zero, List.set_cons_succ]
            refine d_take 9 274 rfl rfl (by kernel_rfl) (by kernel_rfl) (by kernel_rfl) (fun _ _ _ h => h) rfl (fun w' hw' => er_mv _ rfl (.slice (some ⟨g7, 0, none⟩) ins.length nc) rfl) hS ?_
            simp only [Act.put, List.setIfInBounds_toArray, List.set_cons_zero, List.set_cons_succ]
            refine d_take 10 275 rfl rfl (by kernel_rfl) (by kernel_rfl) (by kernel_rfl) (fun _ _ _ h => h) rfl (fun w' hw' => er_mv _ rfl (.int .i64 ((out + d : Nat) : Int)) (by rw [← hix]; rfl)) hS ?_
            simp only [Act.put, List.setIfInBounds_toArray, List.set_cons_zero, List.set_cons_succ]
            refine d_take 11 276 rfl rfl (by kernel_rfl) (by kernel_rfl) (by kernel_rfl) (fun _ _ _ h => h) rfl (fun w' hw' => er_ixLL _ _ rfl g7 0 (out + d) ins.length nc rfl rfl (by omega)) hS ?_
            simp only [Act.put, List.setIfInBounds_toArray, List.set_cons_zero, List.set_cons_succ]
            refine d_take 12 277 rfl rfl (by kernel_rfl) (by kernel_rfl) (by kernel_rfl) (fun _ _ _ h => h) rfl (fun w' hw' => er_ldL _ rfl g7 (0 + (out + d)) _ rfl (by rw [Nat.zero_add]; exact hw'.2.2.2)) hS ?_
            simp only [Act.put, List.setIfInBounds_toArray, List.set_cons_zero, List.set_cons_succ]
            refine d_callT (fun w' => Kept No wr.drew w') 13 278 (by kernel_rfl) rfl rfl rfl (er_c_sw _ _ _ _ rfl (.slice a8 y.length c8) (.slice a7 y.length c7) rfl rfl) SC.out ?_
            intro w7 hS k7
            simp only [Act.put, List.setIfInBounds_toArray, List.set_cons_zero, List.set_cons_succ]
            refine d_take 14 279 rfl rfl (by kernel_rfl) (by kernel_rfl) (by kernel_rfl) (fun _ _ _ h => h) rfl (fun w' hw' => er_not _ rfl true rfl) hS ?_
            simp only [Act.put, List.setIfInBounds_toArray, List.set_cons_zero, List.set_cons_succ]
            refine wpAnyH_done (by kernel_rfl) ?_ _
            have K7 := hid k7
            clear k7 hS SC hix hsub hwd
            go_wp2
            go_roundw
            case rel => exact ⟨d + 1, by omega, by congr 1, (KD.out.drew).trans K7.out (fun _ e => e.elim)⟩
            case measure => simp [intOf]; omega
          · have hltz2 : ¬ (out : Int) + (d : Int) < (ins.length : Int) := by omega
            go_wp2
            go_ret
            exact ⟨rfl, (H6.out.1.kept.trans KD.out (fun _ e => e.elim)).below0⟩
end Go.Proofs.Ytggkajopfbokjaa
