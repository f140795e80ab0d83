/-
  Shelf.stands.
-/
import Derived.Test.YtgapljgnedbkiaaShelfSet
namespace Go.Proofs.Ytgapljgnedbkiaa
open Go.RowKit
set_option linter.unusedVariables false

/-- one mark, in a list of the shelf and in its copy -/
theorem Sh.mark {w : World} {F : Nat → Prop} {s : Nat} {bvv hvv : Value} {es : List En} (h : Sh w F s bvv hvv es) {j : Nat} {e : En} (hi : es[j]? = some e) {lb lc hb hc n : Nat}
    (el : e.l = .slice (some ⟨lb, 0, none⟩) n lc) (eh : e.h = .slice (some ⟨hb, 0, none⟩) n hc) (hn : e.xs.length = n) {q : Nat} (hq : q < n) {x : Int} :
    ∃ y z : Int, w.cell? ⟨lb, q, none⟩ = some (.int .i64 y) ∧ w.frozen? ⟨lb, q, none⟩ = false ∧ (w.setCell ⟨lb, q, none⟩ (.int .i64 x)).cell? ⟨hb, q, none⟩ = some (.int .i64 z) ∧ (w.setCell ⟨lb, q, none⟩ (.int .i64 x)).frozen? ⟨hb, q, none⟩ = false ∧
      (w.setCell ⟨lb, q, none⟩ (.int .i64 x)).cell? ⟨s, 1, none⟩ = some hvv ∧ (∀ k i v, hvv.ownBlock = some k → w.cell? ⟨k, i, none⟩ = some v → (w.setCell ⟨lb, q, none⟩ (.int .i64 x)).cell? ⟨k, i, none⟩ = some v) ∧
      Sh ((w.setCell ⟨lb, q, none⟩ (.int .i64 x)).setCell ⟨hb, q, none⟩ (.int .i64 x)) F s bvv hvv (es.set j ⟨e.l, e.h, e.xs.set q x⟩) ∧ F lb ∧ F hb := by
  have hmem := List.mem_of_getElem? hi
  obtain ⟨o1, o2, o3⟩ := h.ent e hmem
  have hlb : e.l.ownBlock = some lb := by rw [el]; rfl
  have hhb : e.h.ownBlock = some hb := by rw [eh]; rfl
  have hself := apart_self es h.apart j e hi
  have hne : hb ≠ lb := fun e1 => hself lb hlb (by rw [hhb, e1])
  have k1 : Kept (fun b => b = lb) w (w.setCell ⟨lb, q, none⟩ (iv x)) := (Kept.refl (fun b => b = lb) w).setCell (p := ⟨lb, q, none⟩) (.inl rfl) _
  have hqx : q < e.xs.length := by omega
  obtain ⟨c1, f1⟩ := owns_ati o1 hlb hqx
  have o2' := k1.owns o2 (fun k e1 e2 => hne (by rw [hhb] at e1; injection e1 with e1; omega))
  obtain ⟨c2, f2⟩ := owns_ati o2' hhb hqx
  have hs1 : ¬ s = lb := fun e1 => absurd (owns_tag o1 (e1 ▸ hlb) h.obj) (by decide)
  have w1 := owns_seti o1 hlb hqx x
  have w2 := owns_seti o2' hhb hqx x
  have k2 : Kept (fun b => b = hb) (w.setCell ⟨lb, q, none⟩ (iv x)) ((w.setCell ⟨lb, q, none⟩ (iv x)).setCell ⟨hb, q, none⟩ (iv x)) := (Kept.refl (fun b => b = hb) _).setCell (p := ⟨hb, q, none⟩) (.inl rfl) _
  have w1' := k2.owns w1 (fun k e1 e2 => hne (by rw [hlb] at e1; injection e1 with e1; omega))
  have kk : Kept (fun k => e.l.ownBlock = some k ∨ e.h.ownBlock = some k) w ((w.setCell ⟨lb, q, none⟩ (iv x)).setCell ⟨hb, q, none⟩ (iv x)) :=
    (k1.mono (fun k hk => .inl (by rw [hk]; exact hlb))).trans k2 (fun k hk => .inl (.inr (by rw [hk]; exact hhb)))
  refine ⟨_, _, c1, f1, c2, f2, k1.cell h.c1 hs1, ?_, ?_, h.fe _ (mem_enVals hmem).1 lb hlb, h.fe _ (mem_enVals hmem).2 hb hhb⟩
  · intro k i v e1 e2
    exact k1.cell e2 (fun e3 => owns_far h.hown o1 (by decide) k e1 (by rw [hlb]; exact congrArg some e3.symm))
  · refine h.chg hi (by rw [List.length_set]) kk (by rw [List.length_set]; exact w1') (by rw [List.length_set]; exact w2) ?_
    intro y hy
    rfl

/-- what the walk of 'stands' carries -/
structure Sd (w0 : World) (F : Nat → Prop) (s m : Nat) (bvv hvv : Value) (es : List En) (w : World) : Prop where
  len : es.length = m
  sh : Sh w F s bvv hvv es
  fit : ∀ e ∈ es, e.xs.length ≤ 5000
  kept : Kept F w0 w

set_option maxHeartbeats 4000000 in
set_option maxRecDepth 100000 in
theorem stands_any (F : Nat → Prop) (s : Nat) (es : List En) (w : World) (h : Shf w F s es) (hes : es.length ≤ 400) (hfit : ∀ e ∈ es, e.xs.length ≤ 5000) :
    Calls Try.prog 29 #[.pointer (some ⟨s, 0, none⟩)] w fun ex w' => ex = .returned (.bool true) ∧ Kept F w w' := by
  obtain ⟨i0, hi, hz0, hz1, hz2⟩ := info_parts Try.info2
  have c31 := holds_any F s es w h hes
  obtain ⟨bvv, hvv, h⟩ := h
  obtain ⟨ba, bc, rfl⟩ := owns_shape h.bown
  obtain ⟨ha, hc, rfl⟩ := owns_shape h.hown
  obtain ⟨m, hm⟩ : ∃ m, m = es.length := ⟨_, rfl⟩
  rw [← hm] at h hes
  have HSD : Hid (Sd w F s m (.slice ba m bc) (.slice ha m hc) es w) := ⟨hm.symm, h, hfit, Kept.refl _ _⟩
  clear h hm hfit
  go_enter Try.func29, Try.ntmps29
  go_wp2_with (go_at_call 31; refine c31.mono ?_; rintro ex w1 ⟨rfl, nd, rfl⟩)
  clear c31
  go_loopw [3] (fun i wr => ∃ j : Nat, j ≤ m ∧ i = .int .i64 j ∧ ∃ es', Sd w F s m (.slice ba m bc) (.slice ha m hc) es' wr) (fun i _ => m - (intOf i).toNat)
  case atStart => exact ⟨0, by omega, rfl, es, HSD.out.len, HSD.out.sh.drewN nd, HSD.out.fit, HSD.out.kept.drewN nd⟩
  case round =>
    obtain ⟨j, hj, rfl, es1, hsd⟩ := hrel
    have HS1 : Hid (Sd w F s m (.slice ba m bc) (.slice ha m hc) es1 wr) := hsd
    have hc0 := hsd.sh.c0
    by_cases hlt : j < m
    · obtain ⟨g, gc, k, kc, e, hb, hh, he, cl, ch, hmem⟩ := hsd.sh.look (j := j) (by rw [hsd.len]; exact hlt)
      obtain ⟨rfl, rfl⟩ : ba = some ⟨g, 0, none⟩ ∧ bc = gc := by injection hb with h1 _ h3; exact ⟨h1, h3⟩
      obtain ⟨rfl, rfl⟩ : ha = some ⟨k, 0, none⟩ ∧ hc = kc := by injection hh with h1 _ h3; exact ⟨h1, h3⟩
      have hfit := hsd.fit e hmem
      obtain ⟨o1, o2, o3⟩ := hsd.sh.ent e hmem
      obtain ⟨n, hn⟩ : ∃ n, n = e.xs.length := ⟨_, rfl⟩
      rw [← hn] at o1 o2 hfit
      obtain ⟨la, lc, hl⟩ := owns_shape o1
      obtain ⟨va, vc, hv⟩ := owns_shape o2
      have HP : Hid (0 < n → (∃ lb, la = some ⟨lb, 0, none⟩) ∧ ∃ vb, va = some ⟨vb, 0, none⟩) := by
        intro hp
        rw [hl] at o1
        rw [hv] at o2
        constructor
        · rcases owns_cells o1 with ⟨_, h0⟩ | ⟨b, cap, hv, _⟩
          · omega
          · injection hv with h1 _ _; exact ⟨b, h1⟩
        · rcases owns_cells o2 with ⟨_, h0⟩ | ⟨b, cap, hv, _⟩
          · omega
          · injection hv with h1 _ _; exact ⟨b, h1⟩
      have HI : Hid (∃ ys : List Int, ys.length = n ∧ es1[j]? = some ⟨.slice la n lc, .slice va n vc, ys⟩) := ⟨e.xs, hn.symm, by rw [he, ← hl, ← hv]⟩
      clear hb hh he hmem o1 o2 o3 hn hl hv cl ch hsd HSD
      go_wp2
      go_loopw [4] (fun i wx => ∃ q : Nat, q ≤ n ∧ i = .int .i64 q ∧ ∃ es', Sd w F s m (.slice (some ⟨g, 0, none⟩) m bc) (.slice (some ⟨k, 0, none⟩) m hc) es' wx ∧ ∃ ys : List Int, ys.length = n ∧ es'[j]? = some ⟨.slice la n lc, .slice va n vc, ys⟩) (fun i _ => n - (intOf i).toNat)
      case atStart => exact ⟨0, by omega, rfl, es1, HS1.out, HI.out⟩
      case round =>
        clear HS1 HI hc0
        obtain ⟨q, hq, rfl, es2, hsd, ys, hyl, he⟩ := hrel
        have hc0 := hsd.sh.c0
        obtain ⟨g', gc', k', kc', e, hb, hh, he', cl, ch, hmem⟩ := hsd.sh.look (j := j) (by rw [hsd.len]; exact hlt)
        rw [he] at he'
        injection he' with he'
        subst he'
        obtain rfl : g = g' := by injection hb with h1 _ _; injection h1 with h1; injection h1
        obtain rfl : k = k' := by injection hh with h1 _ _; injection h1 with h1; injection h1
        clear hb hh
        by_cases hlq : q < n
        · obtain ⟨⟨lb, rfl⟩, ⟨vb, rfl⟩⟩ := HP.out (by omega)
          obtain ⟨x, hx⟩ : ∃ x : Int, x = -1 - (j : Int) := ⟨_, rfl⟩
          obtain ⟨y, z, d1, f1, d2, f2, d3, d4, hsh, hF1, hF2⟩ := hsd.sh.mark he (lb := lb) (lc := lc) (hb := vb) (hc := vc) (n := n) rfl rfl hyl hlq (x := x)
          have d5 := d4 k j _ rfl ch
          have HN : Hid (∃ es', Sd w F s m (.slice (some ⟨g, 0, none⟩) m bc) (.slice (some ⟨k, 0, none⟩) m hc) es' ((wr.setCell ⟨lb, q, none⟩ (.int .i64 x)).setCell ⟨vb, q, none⟩ (.int .i64 x)) ∧ ∃ ys : List Int, ys.length = n ∧ es'[j]? = some ⟨.slice (some ⟨lb, 0, none⟩) n lc, .slice (some ⟨vb, 0, none⟩) n vc, ys⟩) := by
            refine ⟨_, ⟨by rw [List.length_set]; exact hsd.len, hsh, ?_, (hsd.kept.setCell (p := ⟨lb, q, none⟩) (.inl hF1) _).setCell (p := ⟨vb, q, none⟩) (.inl hF2) _⟩, ys.set q x, by rw [List.length_set]; exact hyl, ?_⟩
            · intro f hf
              rcases List.mem_or_eq_of_mem_set hf with h1 | h1
              · exact hsd.fit f h1
              · rw [h1]; simp only [List.length_set]; rw [hyl]; exact hfit
            · rw [List.getElem?_set, if_pos rfl, if_pos (by rw [hsd.len]; exact hlt)]
          have e1 : wrap64 (-1 - (j : Int)) = x := by rw [hx]; unfold wrap64; omega
          have e2 : -1 - (j : Int) = x := hx.symm
          clear hsd hsh d4 hx hmem he hyl
          go_upto_region 10 with fail
          generalize hW2 : wr.setCell ⟨lb, q, none⟩ (.int .i64 x) = W2
          rw [hW2] at d2 f2 d3 d5 HN
          clear hW2 d1 f1
          go_wp2
          go_roundw
          case rel => exact ⟨q + 1, by omega, by go_num, HN.out⟩
          case measure => simp [intOf]; omega
        · have HS2 : Hid (Sd w F s m (.slice (some ⟨g, 0, none⟩) m bc) (.slice (some ⟨k, 0, none⟩) m hc) es2 wr) := hsd
          clear hsd hmem he hyl
          go_wp2
          go_roundw
          case rel => exact ⟨j + 1, by omega, by go_num, es2, HS2.out⟩
          case measure => simp [intOf]; omega
    · clear hsd HSD
      go_wp2
      go_loopw [5, 6] (fun t i wx => ∃ j T : Nat, j ≤ m ∧ i = .int .i64 j ∧ t = .int .i64 T ∧ 64 * j ≤ T ∧ T ≤ j * 5064 ∧ Sd w F s m (.slice ba m bc) (.slice ha m hc) es1 wx) (fun _ i _ => m - (intOf i).toNat)
      case atStart => exact ⟨0, 0, by omega, rfl, rfl, by omega, by omega, HS1.out⟩
      case round =>
        clear HS1
        obtain ⟨j2, T, hj2, rfl, rfl, hT1, hT2, hsd⟩ := hrel
        have hc0 := hsd.sh.c0
        have HS2 : Hid (Sd w F s m (.slice ba m bc) (.slice ha m hc) es1 wr) := hsd
        by_cases hlt2 : j2 < m
        · obtain ⟨g, gc, k, kc, e, hb, hh, he, cl, ch, hmem⟩ := hsd.sh.look (j := j2) (by rw [hsd.len]; exact hlt2)
          obtain ⟨rfl, rfl⟩ : ba = some ⟨g, 0, none⟩ ∧ bc = gc := by injection hb with h1 _ h3; exact ⟨h1, h3⟩
          have hfit := hsd.fit e hmem
          obtain ⟨o1, o2, o3⟩ := hsd.sh.ent e hmem
          obtain ⟨n, hn⟩ : ∃ n, n = e.xs.length := ⟨_, rfl⟩
          rw [← hn] at o1 hfit
          obtain ⟨la, lc, hl⟩ := owns_shape o1
          rw [hl] at cl
          have HL0 : Hid (Long w.heap.size F e (.slice la n lc) 0) := by
            rw [hl] at o1
            rcases owns_cells o1 with ⟨h0, _⟩ | ⟨b, cap, hv, _⟩
            · rw [h0]; exact .inr (fun g hg => by simp [Value.ownBlock] at hg)
            · rw [hv]; exact .inl ⟨b, cap, by rw [hl, hv, hn], by rw [hn]; rfl⟩
          have HO0 : Hid (wr.ownsRow 0 2 1 (.slice la n lc) (n + 0) (e.xs.map iv ++ [])) := by rw [List.append_nil, ← hl]; exact o1
          have HE : Hid (es1[j2]? = some e) := he
          have HN : Hid (n = e.xs.length) := hn
          clear hb hh he hmem o1 o2 o3 hn hl ch hsd
          go_wp2
          go_loopw [7, 8] (fun l i wx => ∃ q : Nat, q ≤ 64 ∧ i = .int .i64 q ∧ Sd w F s m (.slice (some ⟨g, 0, none⟩) m bc) (.slice ha m hc) es1 wx ∧ Long w.heap.size F e l q ∧ ∃ zs, wx.ownsRow 0 2 1 l (n + q) (e.xs.map iv ++ zs)) (fun _ i _ => 64 - (intOf i).toNat)
          case atStart => exact ⟨0, by omega, rfl, HS2.out, HL0.out, [], HO0.out⟩
          case round =>
            clear HS2 HL0 HO0 hc0 cl
            obtain ⟨q, hq, rfl, hsd, hlong, zs, hown⟩ := hrel
            have HS3 : Hid (Sd w F s m (.slice (some ⟨g, 0, none⟩) m bc) (.slice ha m hc) es1 wr) := hsd
            have HLO : Hid (Long w.heap.size F e u7 q) := hlong
            have HOW : Hid (wr.ownsRow 0 2 1 u7 (n + q) (e.xs.map iv ++ zs)) := hown
            by_cases hl64 : q < 64
            · obtain ⟨x, hx⟩ : ∃ x : Int, x = 5000 + (j2 : Int) := ⟨_, rfl⟩
              have e1 : wrap64 (5000 + (j2 : Int)) = x := by rw [hx]; unfold wrap64; omega
              have e2 : 5000 + (j2 : Int) = x := hx.symm
              clear hsd hlong hown hx
              go_wp2_with (at_builtin; refine wpList_append_own_two rfl _ _ 22 rfl 2 i0 (.int .i64 0) 8 Try.underlying22 hi hz0 hz1 hz2 rfl _ _ _ rfl (HOW.out.alloc _) ⟨wr.heap.size, 0, none⟩ 1 (.int .i64 x) rfl (cell_one_new _ _ _) (one_one _ _) (by unfold maxLen; omega) (by omega) ?_; intro v1 w1 own1 two1)
              have hg : Sh w1 F s (.slice (some ⟨g, 0, none⟩) m bc) (.slice ha m hc) es1 ∧ Long w.heap.size F e v1 (q + 1) ∧ Kept F w w1 ∧ w1.ownsRow 0 2 1 v1 (e.xs.length + (q + 1)) (e.xs.map iv ++ (zs ++ [.int .i64 x])) := by
                have hn := HN.out
                rw [hn] at own1 two1
                exact HS3.out.sh.grew HE.out HS3.out.kept HLO.out own1 two1
              have HG : Hid (Sd w F s m (.slice (some ⟨g, 0, none⟩) m bc) (.slice ha m hc) es1 w1 ∧ Long w.heap.size F e v1 (q + 1) ∧ ∃ zs, w1.ownsRow 0 2 1 v1 (n + (q + 1)) (e.xs.map iv ++ zs)) := ⟨⟨HS3.out.len, hg.1, HS3.out.fit, hg.2.2.1⟩, hg.2.1, _, by rw [HN.out]; exact hg.2.2.2⟩
              clear hg own1 two1
              go_wp2
              go_roundw
              case rel => exact ⟨q + 1, by omega, by go_num, HG.out⟩
              case measure => simp [intOf]; omega
            · obtain ⟨a9, c9, rfl⟩ := owns_shape hown
              have hq64 : q = 64 := by omega
              subst hq64
              clear hsd hlong hown
              go_wp2
              go_roundw
              case rel => exact ⟨j2 + 1, T + (n + 64), by omega, by go_num, by go_num, by omega, by omega, HS3.out⟩
              case measure => simp [intOf]; omega
        · have c31 := holds_any F s es1 wr ⟨_, _, hsd.sh⟩ (by rw [hsd.len]; exact hes)
          clear hsd
          have hjm : j2 = m := by omega
          have hT3 : (64 * (m : Int) ≤ (T : Int)) := by omega
          clear hjm
          go_wp2_with (go_at_call 31; refine c31.mono ?_; rintro ex w3 ⟨rfl, nd3, hw3⟩; have HW3 : Hid (w3 = wr.drewN nd3) := hw3; have hc3 : w3.cell? ⟨s, 0, none⟩ = some (.slice ba m bc) := (by rw [hw3]; exact hc0); clear hw3)
          go_ret
          exact ⟨rfl, by rw [HW3.out]; exact HS2.out.kept.drewN _⟩

end Go.Proofs.Ytgapljgnedbkiaa
