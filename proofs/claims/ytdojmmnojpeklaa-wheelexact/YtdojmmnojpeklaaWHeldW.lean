/-
  'held'.
-/
import Derived.Test.YtdojmmnojpeklaaWHell
namespace Go.Proofs.Ytdojmmnojpeklaa
open Go.RowKit
set_option linter.unusedVariables false

theorem owns_shape22 {w : World} {B N : Nat} {v : Value} {ys : List Value} (h : w.ownsRow B 22 1 v N ys) : ∃ a c, v = .slice a N c ∧ N ≤ c ∧ c ≤ 9223372036854775807 := by
  obtain ⟨_, ⟨rfl, rfl⟩ | ⟨g', cap, cur, rfl, _, hgg, h1, h2, _⟩⟩ := h
  · exact ⟨none, 0, rfl, Nat.le_refl _, by omega⟩
  · exact ⟨_, _, rfl, h1, by unfold maxLen at h2; omega⟩
theorem info22 : (Try.prog.info? 22).map (fun i => (i.zero, i.size, i.bytes)) = some (some (.slice none 0 0), 1, 24) := by kernel_rfl
theorem cell1_new (w : World) (m : Value) : ∀ j u, [m][j]? = some u → (w.alloc (.cells #[m] 22)).cell? ((⟨w.heap.size, 0, none⟩ : Addr).add j) = some u := by
  intro j u h
  match j, h with
  | 0, h =>
    simp at h
    subst h
    exact cell_of_row (heap_last w _) rfl
  | j + 1, h => simp at h
theorem own_slice {w : World} {B N : Nat} {v : Value} {ys : List Value} (h : w.ownsRow B 22 1 v N ys) {j : Nat} (hj : j < N) : ∃ g cap, v = .slice (some ⟨g, 0, none⟩) N cap := by
  obtain ⟨_, ⟨_, h0⟩ | ⟨g, cap, cur, hv, _⟩⟩ := h
  · omega
  · exact ⟨g, cap, hv⟩
/-- what is read of the lists and of the long ones -/
theorem Hl.read {w wr : World} {av bv : Value} {ls Ls : List Value} {yss : List (List Fi)} {B : Nat} (h : Hl w av ls yss B bv Ls wr) {j : Nat} (hj : j < Ls.length) (hle : Ls.length = ls.length) :
    ∃ g cap G Cap pa pc ma mc ys, av = .slice (some ⟨g, 0, none⟩) ls.length cap ∧ bv = .slice (some ⟨G, 0, none⟩) Ls.length Cap ∧ yss[j]? = some ys ∧ (ys.length ≤ pc ∧ pc ≤ 9223372036854775807) ∧ (ys.length + 70 ≤ mc ∧ mc ≤ 9223372036854775807) ∧
      ∀ w2, Hl w av ls yss B bv Ls w2 → w2.cell? ⟨g, j, none⟩ = some (.slice pa ys.length pc) ∧ w2.cell? ⟨G, j, none⟩ = some (.slice ma (ys.length + 70) mc) ∧ (∀ k y, ys[k]? = some y → ∃ pg, pa = some ⟨pg, 0, none⟩ ∧ w2.cell? ⟨pg, k * 2, none⟩ = some (.int .i64 y.t) ∧ w2.cell? ⟨pg, k * 2 + 1, none⟩ = some (.int .i64 y.i)) ∧ (∀ k y, (ys ++ zs70)[k]? = some y → ∃ pg, ma = some ⟨pg, 0, none⟩ ∧ w2.cell? ⟨pg, k * 2, none⟩ = some (.int .i64 y.t) ∧ w2.cell? ⟨pg, k * 2 + 1, none⟩ = some (.int .i64 y.i)) := by
  have hjl : j < ls.length := by omega
  obtain ⟨g, cap, l, ys, e1, _, _, e4, e5, cl, o1⟩ := h.hs.look hjl
  obtain ⟨G, Cap, f1⟩ := own_slice h.own hj
  have f4 : Ls[j]? = some Ls[j] := List.getElem?_eq_getElem hj
  have o2 := h.ent j _ ys f4 e5
  obtain ⟨_, pa, pc, hp, p1, p2, _⟩ := owns_fis o1
  obtain ⟨_, ma, mc, hm, m1, m2, _⟩ := owns_fis o2
  refine ⟨g, cap, G, Cap, pa, pc, ma, mc, ys, e1, f1, e5, ⟨p1, p2⟩, ⟨m1, m2⟩, fun w2 h2 => ?_⟩
  have b1 := h2.hs.ent j l ys e4 e5
  have b2 := h2.ent j _ ys f4 e5
  have c1 := h2.hs.own.cells (g := g) (by rw [e1]; rfl) j _ e4
  have c2 := h2.own.cells (g := G) (by rw [f1]; rfl) j _ f4
  rw [add_none, Nat.zero_add] at c1 c2
  rw [hp] at c1 b1
  rw [hm] at c2 b2
  obtain ⟨_, _, _, q1, _, _, r1⟩ := owns_fis b1
  obtain ⟨_, _, _, q2, _, _, r2⟩ := owns_fis b2
  injection q1 with q1 _ _
  injection q2 with q2 _ _
  subst q1 q2
  exact ⟨c1, c2, r1, r2⟩
theorem drewN_below (w : World) (q : Nat) : Below w.heap.size w (w.drewN q) := ⟨rfl, rfl, rfl, Nat.le_refl _, fun _ _ => rfl⟩
set_option maxHeartbeats 8000000 in
set_option maxRecDepth 100000 in
theorem held_any {w : World} {av wv : Value} {ls ks : List Value} {xss : List (List Fi)} (hA : Hs w av ls xss) (hB : Hs w wv ks xss) (hx : ∀ xs, xs ∈ xss → xs.length ≤ 65536 ∧ ∀ x, x ∈ xs → I6 x.t ∧ I6 x.i) (hn : ls.length ≤ 3000) : Calls Try.prog 21 #[av, wv] w fun ex w' => ex = .returned (.bool true) ∧ Kept (Fl ls) w w' := by
  obtain ⟨aa, ac, rfl, hac1, hac2⟩ := owns_shape22 hA.own
  obtain ⟨ba, bc, rfl, hbc1, hbc2⟩ := owns_shape22 hB.own
  have hkl : ks.length = ls.length := by rw [← hA.len, hB.len]
  rw [hkl] at hB hbc1 ⊢
  obtain ⟨N, hN⟩ : ∃ N, N = ls.length := ⟨_, rfl⟩
  rw [← hN] at hA hB hn hac1 hbc1 ⊢
  have HA : Hid (Hs w (.slice aa N ac) ls xss) := hA
  have HB : Hid (Hs w (.slice ba N bc) ks xss) := hB
  have HN : Hid (N = ls.length ∧ ks.length = ls.length) := ⟨hN, hkl⟩
  have HX : Hid (∀ xs, xs ∈ xss → xs.length ≤ 65536 ∧ ∀ x, x ∈ xs → I6 x.t ∧ I6 x.i) := hx
  clear hA hB hN hkl hx
  go_enter Try.func21, Try.ntmps21
  go_wp2
  go_loopw [5] (fun i wr => ∃ j : Nat, j ≤ N ∧ i = .int .i64 j ∧ Below w.heap.size w wr) (fun i _ => N - (intOf i).toNat)
  case atStart => exact ⟨0, by omega, rfl, Below.refl _ _⟩
  case round =>
    obtain ⟨j, hj, rfl, hq⟩ := hrel
    have HQ : Hid (Below w.heap.size w wr) := hq
    have sA : Hid (Hs wr (.slice aa N ac) ls xss) := HA.out.below hq
    have sB : Hid (Hs wr (.slice ba N bc) ks xss) := HB.out.below hq
    clear hq
    by_cases hlt : j < N
    · obtain ⟨g, gc, l, xs, e1, _, _, e4, e5, cl, o1⟩ := sA.out.look (j := j) (by rw [← HN.out.1]; exact hlt)
      obtain ⟨h, hc, k, xs', f1, _, _, f4, f5, ck, o2⟩ := sB.out.look (j := j) (by rw [HN.out.2, ← HN.out.1]; exact hlt)
      obtain rfl : xs = xs' := by rw [e5] at f5; injection f5
      obtain ⟨rfl, rfl⟩ : aa = some ⟨g, 0, none⟩ ∧ ac = gc := by injection e1 with h1 _ h3; exact ⟨h1, h3⟩
      obtain ⟨rfl, rfl⟩ : ba = some ⟨h, 0, none⟩ ∧ bc = hc := by injection f1 with h1 _ h3; exact ⟨h1, h3⟩
      obtain ⟨_, pa, pc, rfl, -⟩ := owns_fis o1
      obtain ⟨_, pa', pc', rfl, -⟩ := owns_fis o2
      have c17 : ∀ q, Calls Try.prog 17 #[.slice pa xs.length pc, .slice pa' xs.length pc'] (wr.drewN q) fun ex w' => ex = .returned (.bool true) ∧ ∃ k, w' = (wr.drewN q).drewN k := fun q => by
        have i6 := (HX.out xs (List.mem_of_getElem? e5)).2
        exact same_eq _ _ _ _ _ _ _ xs _ ((Fs.of_own o1 i6).below (drewN_below wr q)) ((Fs.of_own o2 i6).below (drewN_below wr q))
      clear e1 e4 e5 f1 f4 f5 o1 o2
      go_wp2
      go_quiet ((go_at_call 17; refine Calls.quiet_of (c17 _)))
      go_wp2
      go_roundw
      case rel => exact ⟨j + 1, by omega, by go_num, HQ.out.trans ((drewN_below wr _).mono HQ.out.size)⟩
      case measure => simp [intOf]; omega
    · have hw0 : Hw w (.slice aa N ac) ls xss 0 0 wr := hw_new HA.out HQ.out
      clear HB sA sB HQ
      go_wp2
      go_loopw [6] (fun i wr => ∃ j : Nat, j ≤ N ∧ i = .int .i64 j ∧ Hw w (.slice aa N ac) ls xss j 0 wr) (fun i _ => N - (intOf i).toNat)
      case atStart => exact ⟨0, by omega, rfl, hw0⟩
      case round =>
        obtain ⟨j2, hj2, rfl, hw2⟩ := hrel
        clear hw0
        by_cases hlt2 : j2 < N
        · obtain ⟨xs, hxs⟩ : ∃ xs, xss[j2]? = some xs := ⟨_, List.getElem?_eq_getElem (by rw [HA.out.len, ← HN.out.1]; exact hlt2)⟩
          obtain ⟨n2, hn2⟩ : ∃ n2, n2 = xs.length := ⟨_, rfl⟩
          have HXS : Hid (xss[j2]? = some xs ∧ n2 = xs.length) := ⟨hxs, hn2⟩
          have hn2b : n2 ≤ 65536 := by rw [hn2]; exact (HX.out xs (List.mem_of_getElem? hxs)).1
          clear hxs hn2
          go_wp2
          go_loopw [7] (fun i wr => ∃ k : Nat, k ≤ n2 ∧ i = .int .i64 k ∧ Hw w (.slice aa N ac) ls xss j2 k wr) (fun i _ => n2 - (intOf i).toNat)
          case atStart => exact ⟨0, by omega, rfl, hw2⟩
          case round =>
            obtain ⟨k, hk, rfl, hw3⟩ := hrel
            have HW3 : Hid (Hw w (.slice aa N ac) ls xss j2 k wr) := hw3
            obtain ⟨g, gc, l, ys, e1, _, _, e4, cl, o1, ⟨xs', e5, e6⟩, -⟩ := hw3.look (i := j2) (by rw [← HN.out.1]; exact hlt2) (fun xs hxs => (HX.out xs hxs).1)
            obtain ⟨rfl, rfl⟩ : aa = some ⟨g, 0, none⟩ ∧ ac = gc := by injection e1 with h1 _ h3; exact ⟨h1, h3⟩
            have hyn : ys.length = n2 := by rw [HXS.out.1] at e5; injection e5 with e5; rw [e6, HXS.out.2, e5]
            rw [hyn] at o1
            obtain ⟨hyl, pa, pc, rfl, hpc1, hpc2, hcell⟩ := owns_fis o1
            clear hw2 hw3 e1 e5 e6
            by_cases hlt3 : k < n2
            · obtain ⟨y, hy⟩ : ∃ y, ys[k]? = some y := ⟨_, List.getElem?_eq_getElem (by omega)⟩
              obtain ⟨pg, rfl, cy0, cy1⟩ := hcell k y hy
              have hfz : ∀ i, wr.frozen? ⟨pg, i, none⟩ = false := by
                obtain ⟨cs, hcs⟩ := owns_blk o1 (g := pg) rfl
                exact fz_row hcs
              have HE4 : Hid (ls[j2]? = some (.slice (some ⟨pg, 0, none⟩) n2 pc)) := e4
              clear hcell hy o1 e4
              go_wp2
              go_roundw
              case rel => exact ⟨k + 1, by omega, by go_num, HW3.out.step HE4.out HXS.out.1 (by rw [← HXS.out.2]; exact hlt3)⟩
              case measure => simp [intOf]; omega
            · clear hcell o1 e4
              have hwn : Hw w (.slice (some ⟨g, 0, none⟩) N ac) ls xss (j2 + 1) 0 wr := HW3.out.next HXS.out.1 (by rw [← HXS.out.2]; omega)
              go_wp2
              go_roundw
              case rel => exact ⟨j2 + 1, by omega, by go_num, hwn⟩
              case measure => simp [intOf]; omega
        · obtain ⟨yss, hs3, hy3⟩ := hw2.hs
          have hl0 := hl_new hw2.kp hs3
          obtain ⟨B, hBe⟩ : ∃ B, wr.heap.size = B := ⟨_, rfl⟩
          rw [hBe] at hl0
          have HY : Hid (yss.length = ls.length ∧ ∀ ys, ys ∈ yss → ys.length ≤ 65536) := ⟨hs3.len, fun ys hys => by
            obtain ⟨i, hi, e⟩ := List.mem_iff_getElem.1 hys
            obtain ⟨⟨xs, a1, a2⟩, _⟩ := hy3 i ys (by rw [List.getElem?_eq_getElem hi, e])
            rw [a2]
            exact (HX.out xs (List.mem_of_getElem? a1)).1⟩
          have HY3 : Hid (∀ (i : Nat) ys, yss[i]? = some ys → ∀ (m : Nat) y, ys[m]? = some y → i < N → y = ⟨-7, i⟩) := (fun i ys h1 m y h2 h3 => (hy3 i ys h1).2 m y h2 (.inl (by omega)))
          clear hw2 hs3 hy3 hBe
          go_wp2
          go_loopw [8, 9] (fun lv i wr => ∃ Ls : List Value, Ls.length ≤ N ∧ i = .int .i64 Ls.length ∧ Hl w (.slice aa N ac) ls yss B lv Ls wr) (fun _ i _ => N - (intOf i).toNat)
          case atStart => exact ⟨[], by simp, rfl, hl0⟩
          case round =>
            obtain ⟨Ls, hLs, rfl, hl1⟩ := hrel
            clear hl0
            by_cases hlt3 : Ls.length < N
            · obtain ⟨g, gc, l, ys, e1, _, _, e4, e5, cl, o1⟩ := hl1.hs.look (j := Ls.length) (by rw [← HN.out.1]; exact hlt3)
              obtain ⟨rfl, rfl⟩ : aa = some ⟨g, 0, none⟩ ∧ ac = gc := by injection e1 with h1 _ h3; exact ⟨h1, h3⟩
              have hyb := HY.out.2 ys (List.mem_of_getElem? e5)
              obtain ⟨_, pa, pc, rfl, -⟩ := owns_fis o1
              obtain ⟨m, w1, hz, own1, own0, k1, at1⟩ := zeros_own 22 o1 (by omega)
              obtain ⟨_, ma, mc, rfl, -⟩ := owns_fis own1
              obtain ⟨i0, hi0, hz0, hz1, hz2⟩ := info_parts info22
              have hbv1 : w1.ownsRow B 22 1 u8 Ls.length Ls := k1.owns hl1.own (fun k e2 e3 => by have := (hl1.own.lt k e2).1; have := hl1.old k (.inr ⟨_, List.mem_of_getElem? e4, e3⟩); omega)
              obtain ⟨v2, w2, ha, own2, gr2, _, _⟩ := run_append_own_at (P := Try.prog) (w := w1.alloc (.cells #[.slice ma (ys.length + 70) mc] 22)) B 52 52 22 i0 (.slice none 0 0) 1 24 Try.underlying52 hi0 hz0 hz1 hz2 rfl (by decide) u8 Ls.length Ls (hbv1.alloc _) ⟨w1.heap.size, 0, none⟩ 1 1 [.slice ma (ys.length + 70) mc] rfl (cell1_new w1 _) (by intro u hu; simp at hu; subst hu; rfl) (by unfold maxLen; omega) (by omega) (by rw [World.size_alloc]; have := hl1.siz.1; have := k1.size; omega)
              have HL2 : Hid (Hl w (.slice (some ⟨g, 0, none⟩) N ac) ls yss B v2 (Ls ++ [.slice ma (ys.length + 70) mc]) w2) := hl1.more e4 e5 own1 own0 k1 at1 own2 gr2
              clear hl1 own1 own0 k1 at1 own2 gr2 o1 e1 e4 e5 hbv1 hi0 hz0 hz1 hz2
              go_wp2_with (first
                | (at_builtin; refine Go.Lib.wpList_append_run _ rfl _ _ _ _ rfl _ _ rfl rfl _ _ hz ?_)
                | (at_builtin; refine Go.Lib.wpList_append_run _ rfl _ _ _ _ rfl _ _ rfl rfl _ _ ha ?_))
              go_roundw
              case rel => exact ⟨_, by rw [List.length_append]; exact hlt3, by rw [List.length_append]; go_num, HL2.out⟩
              case measure => simp [intOf]; omega
            · have hLN : Ls.length = N := by omega
              obtain ⟨La, Lc, hu8, hLc1, hLc2⟩ := owns_shape22 hl1.own
              rw [hLN] at hu8 hLc1 ⊢
              subst hu8
              go_wp2
              go_loopw [10] (fun i wr => ∃ j : Nat, j ≤ N ∧ i = .int .i64 j ∧ Hl w (.slice aa N ac) ls yss B (.slice La N Lc) Ls wr) (fun i _ => N - (intOf i).toNat)
              case atStart => exact ⟨0, by omega, rfl, hl1⟩
              case round =>
                obtain ⟨j, hj5, rfl, hl2⟩ := hrel
                clear hl1
                by_cases hlt5 : j < N
                · obtain ⟨g, cap, G, Cap, pa, pc, ma, mc, ys, e1, e2, e5, ⟨p1, p2⟩, ⟨m1, m2⟩, hrd⟩ := hl2.read (j := j) (by omega) (by rw [hLN]; exact HN.out.1)
                  obtain ⟨rfl, rfl⟩ : aa = some ⟨g, 0, none⟩ ∧ ac = cap := by injection e1 with h1 _ h3; exact ⟨h1, h3⟩
                  obtain ⟨rfl, rfl⟩ : La = some ⟨G, 0, none⟩ ∧ Lc = Cap := by injection e2 with h1 _ h3; exact ⟨h1, h3⟩
                  have hyb := HY.out.2 ys (List.mem_of_getElem? e5)
                  have HY4 : Hid (∀ (m : Nat) y, ys[m]? = some y → y = ⟨-7, j⟩) := (fun m y hm => HY3.out j ys e5 m y hm hlt5)
                  obtain ⟨n2, hn2⟩ : ∃ n2, ys.length = n2 := ⟨_, rfl⟩
                  have HN2 : Hid (ys.length = n2) := hn2
                  rw [hn2] at p1 m1 hrd hyb
                  have HRD : Hid (∀ w2, Hl w (.slice (some ⟨g, 0, none⟩) N ac) ls yss B (.slice (some ⟨G, 0, none⟩) N Lc) Ls w2 → _) := hrd
                  clear e1 e2 e5 hn2 hrd
                  go_wp2
                  go_loopw [11] (fun i wr => ∃ k : Nat, k ≤ n2 + 70 ∧ i = .int .i64 k ∧ Hl w (.slice (some ⟨g, 0, none⟩) N ac) ls yss B (.slice (some ⟨G, 0, none⟩) N Lc) Ls wr) (fun i _ => n2 + 70 - (intOf i).toNat)
                  case atStart => exact ⟨0, by omega, rfl, hl2⟩
                  case round =>
                    obtain ⟨k, hk6, rfl, hl3⟩ := hrel
                    clear hl2
                    obtain ⟨c1, c2, r1, r2⟩ := HRD.out wr hl3
                    by_cases hlt6 : k < n2 + 70
                    · have hle : Ls.length ≤ ls.length := by rw [hLN]; exact Nat.le_of_eq HN.out.1
                      have HL3 : Hid (Hl w (.slice (some ⟨g, 0, none⟩) N ac) ls yss B (.slice (some ⟨G, 0, none⟩) N Lc) Ls wr) := hl3
                      have HQ5 : Hid ((wr.alloc (.cells #[.int .i64 0, .int .i64 0] 32)).heap[wr.heap.size]? = some (.cells #[.int .i64 0, .int .i64 0] 32)) := heap_last _ _
                      have K5 : Hid (Kept No wr (wr.alloc (.cells #[.int .i64 0, .int .i64 0] 32))) := (Kept.refl No wr).alloc _
                      clear hl3 r1 r2
                      go_upto_region 25 with fail
                      generalize wr.alloc (.cells #[.int .i64 0, .int .i64 0] 32) = w5 at *
                      obtain ⟨d1, d2, s1, s2⟩ := HRD.out w5 (HL3.out.below hle K5.out.below0)
                      have b0 := cell_of_row (k := 0) (v := .int .i64 0) HQ5.out rfl
                      have b1 := cell_of_row (k := 1) (v := .int .i64 0) HQ5.out rfl
                      have bf := fz_row HQ5.out
                      clear c1 c2
                      by_cases hk7 : k < n2
                      · obtain ⟨y, hy⟩ : ∃ y, ys[k]? = some y := ⟨_, List.getElem?_eq_getElem (by rw [HN2.out]; exact hk7)⟩
                        have hyy := HY4.out k y hy
                        subst hyy
                        have hz : (ys ++ zs70)[k]? = some ⟨-7, j⟩ := by rw [List.getElem?_append_left (by rw [HN2.out]; exact hk7)]; exact hy
                        obtain ⟨pg, rfl, y0, y1⟩ := s1 k _ hy
                        obtain ⟨gm, rfl, z0, z1⟩ := s2 k _ hz
                        have HYZ : Hid (ys[k]? = some ⟨-7, j⟩ ∧ (ys ++ zs70)[k]? = some ⟨-7, j⟩) := ⟨hy, hz⟩
                        clear s1 s2 hy hz y0 y1 z0 z1
                        go_upto_region 27 with fail
                        have K6 : Hid (Kept No wr ((w5.setCell ⟨wr.heap.size, 0, none⟩ (.int .i64 (-7))).setCell ⟨wr.heap.size, 1, none⟩ (.int .i64 j))) := set2_kept K5.out (Nat.le_refl _) _ _
                        have HQ6 : Hid (((w5.setCell ⟨wr.heap.size, 0, none⟩ (.int .i64 (-7))).setCell ⟨wr.heap.size, 1, none⟩ (.int .i64 j)).heap[wr.heap.size]? = some (.cells #[.int .i64 (-7), .int .i64 j] 32)) := set2' HQ5.out _ _
                        clear d1 d2 b0 b1 bf
                        generalize (w5.setCell ⟨wr.heap.size, 0, none⟩ (.int .i64 (-7))).setCell ⟨wr.heap.size, 1, none⟩ (.int .i64 j) = w6 at *
                        have HL6 : Hid (Hl w (.slice (some ⟨g, 0, none⟩) N ac) ls yss B (.slice (some ⟨G, 0, none⟩) N Lc) Ls w6) := HL3.out.below hle K6.out.below0
                        obtain ⟨d1, d2, s1, s2⟩ := HRD.out w6 HL6.out
                        obtain ⟨pg', epg, y0, y1⟩ := s1 k _ HYZ.out.1
                        obtain ⟨gm', egm, z0, z1⟩ := s2 k _ HYZ.out.2
                        obtain rfl : pg = pg' := by injection epg with epg; injection epg
                        obtain rfl : gm = gm' := by injection egm with egm; injection egm
                        have b0 := cell_of_row (k := 0) (v := .int .i64 (-7)) HQ6.out rfl
                        have b1 := cell_of_row (k := 1) (v := .int .i64 j) HQ6.out rfl
                        clear s1 s2 epg egm
                        go_quiet (fail)
                        go_wp2
                        go_roundw
                        case rel => exact ⟨k + 1, by omega, by go_num, HL6.out.below hle (drewN_below _ _)⟩
                        case measure => simp [intOf]; omega
                      · have hz : (ys ++ zs70)[k]? = some ⟨0, 0⟩ := by
                          rw [List.getElem?_append_right (by rw [HN2.out]; omega), HN2.out]
                          unfold zs70
                          rw [List.getElem?_replicate, if_pos (by omega)]
                        obtain ⟨gm, rfl, z0, z1⟩ := s2 k _ hz
                        have HL6 : Hid (Hl w (.slice (some ⟨g, 0, none⟩) N ac) ls yss B (.slice (some ⟨G, 0, none⟩) N Lc) Ls w5) := HL3.out.below hle K5.out.below0
                        clear s1 s2 hz
                        go_upto_region 27 with fail
                        go_quiet (fail)
                        go_wp2
                        go_roundw
                        case rel => exact ⟨k + 1, by omega, by go_num, HL6.out.below hle (drewN_below _ _)⟩
                        case measure => simp [intOf]; omega
                    · go_wp2
                      go_roundw
                      case rel => exact ⟨j + 1, by omega, by go_num, hl3⟩
                      case measure => simp [intOf]; omega
                · go_wp2
                  go_ret
                  exact ⟨rfl, hl2.kp⟩
end Go.Proofs.Ytdojmmnojpeklaa
