/-
  The document's Own: a state in memory of its own.
-/
import Derived.Test.YtggkajopfbokjaaOSame
namespace Go.Proofs.Ytggkajopfbokjaa
open Go.RowKit
set_option linter.unusedVariables false
set_option maxRecDepth 100000

theorem wordsR_any {F : Nat → Prop} {a : Option Addr} {n c : Nat} {xs : List Int} (w : World) (hz : Zs w F a n c xs) (hn : n ≤ 17592186044416) :
    Calls Try.prog 36 #[.slice a n c] w fun e w' => ∃ ya yc, e = .returned (.slice ya n yc) ∧ w'.ownsRow w.heap.size 2 1 (.slice ya n yc) n (xs.map iv) ∧ Kept No w w' := by
  have hv := hz.vs
  clear hz
  go_enter Try.func36, Try.ntmps36
  go_wp2_with (at_builtin; refine wpList_cpv rfl _ _ 31 2 rfl _ 8 Try.underlying31 Try.infoW rfl w.heap.size _ rfl (World.ownsRow_nil _ _ _ _) (Nat.le_refl _) _ n c rfl _ _ hv (iv_one xs) (by omega) ?_; intro ya yc w1 o1 k1)
  go_ret
  exact ⟨ya, yc, rfl, o1.out, k1.out.mono (fun k e => by cases e)⟩
/-- a state, new since w -/
def Ow (w w' : World) (ts te tb : Value) (cs : List Int) (us : List Value) (xss : List (List (List Int))) : Prop := ∃ lvs mss, w'.ownsRow w.heap.size 3 1 ts cs.length (cs.map iv) ∧ w'.ownsRow w.heap.size 4 1 te us.length us ∧ Lb w' w.heap.size tb lvs mss xss ∧ Kept No w w'
/-- what Own keeps -/
structure To (w wr : World) (src : Array Value) (cs : List Int) (us : List Value) (xss : List (List (List Int))) (r s t : Nat) (ts te tb : Value) (m : Nat) (lvs : List Value) (mss : List (List Value)) : Prop where
  res : wr.heap[r]? = some (.cells #[.slice none 0 0, .slice none 0 0, .slice none 0 0] 55)
  box : wr.heap[s]? = some (.cells src 55)
  told : wr.heap[t]? = some (.cells #[ts, te, tb] 55)
  sems : wr.ownsRow w.heap.size 3 1 ts cs.length (cs.map iv)
  evs : wr.ownsRow w.heap.size 4 1 te us.length us
  bufs : Lb wr w.heap.size tb lvs mss (xss.take m)
  len : lvs.length = m
  kept : Kept No w wr
  ge : w.heap.size ≤ t
  ne : r ≠ t
  ne2 : s ≠ t
namespace To
variable {w wr wr' : World} {src : Array Value} {cs : List Int} {us : List Value} {xss : List (List (List Int))} {r s t : Nat} {ts te tb : Value} {m : Nat} {lvs : List Value} {mss : List (List Value)}
theorem keep (h : To w wr src cs us xss r s t ts te tb m lvs mss) (K : Kept No wr wr') : To w wr' src cs us xss r s t ts te tb m lvs mss :=
  ⟨K.at' h.res (fun e => e), K.at' h.box (fun e => e), K.at' h.told (fun e => e), K.owns h.sems (fun _ _ e => e), K.owns h.evs (fun _ _ e => e), h.bufs.keep K, h.len, h.kept.trans K (fun _ e => e.elim), h.ge, h.ne, h.ne2⟩
theorem buf {w1 wa : World} {v1 lv : Value} {ms : List Value} {xs : List (List Int)} {o : Obj} (h : To w wr src cs us xss r s t ts te tb m lvs mss) (hx : xss[m]? = some xs) (K1 : Kept No wr w1) (L : Ll w1 wr.heap.size lv ms xs) (own1 : wa.ownsRow w.heap.size 40 1 v1 (m + 1) (lvs ++ [lv])) (gr : (w1.alloc o).grownBy wa tb.ownBlock) :
    wa.cell? ⟨t, 2, none⟩ = some tb ∧ wa.frozen? ⟨t, 2, none⟩ = false ∧ To w (wa.setCell ⟨t, 2, none⟩ v1) src cs us xss r s t ts te v1 (m + 1) (lvs ++ [lv]) (mss ++ [ms]) := by
  have hw := h.kept.size
  obtain ⟨nb, ka⟩ := h.bufs.more hw K1 L (by rw [h.len]; exact own1) gr
  have tag : ∀ j cs t', wr.heap[j]? = some (.cells cs t') → t' ≠ 40 → ¬ tb.ownBlock = some j := fun j cs t' h1 h2 h3 => by
    obtain ⟨_, cs', h4⟩ := owns_blk h.bufs.own h3
    exact h2 (two_tags h1 h4)
  have kb : Kept (fun j => j = t) wa (wa.setCell ⟨t, 2, none⟩ v1) := (Kept.refl (fun j => j = t) wa).setCell (p := ⟨t, 2, none⟩) (.inl rfl) _
  have hb := ka.at' h.told (tag _ _ _ h.told (by decide))
  have tagb : ∀ j cs t', wa.heap[j]? = some (.cells cs t') → t' ≠ 55 → ¬ j = t := fun j cs t' h1 h2 h3 => by
    subst h3
    exact h2 (two_tags h1 hb)
  have hev := ka.owns h.evs (fun j hj => by obtain ⟨_, cs, h1⟩ := owns_blk h.evs hj; exact tag j _ _ h1 (by decide))
  have hse := ka.owns h.sems (fun j hj => by obtain ⟨_, cs, h1⟩ := owns_blk h.sems hj; exact tag j _ _ h1 (by decide))
  have rest : ∀ {t' s n : Nat} {u : Value} {ys : List Value}, wa.ownsRow w.heap.size t' s u n ys → t' ≠ 55 → (wa.setCell ⟨t, 2, none⟩ v1).ownsRow w.heap.size t' s u n ys := fun ho ht => kb.owns ho (fun j hj => by obtain ⟨_, cs, h1⟩ := owns_blk ho hj; exact tagb j _ _ h1 ht)
  refine ⟨(cell_blk hb 2).trans rfl, fz_blk hb _, ⟨kb.at' (ka.at' h.res (tag _ _ _ h.res (by decide))) h.ne, kb.at' (ka.at' h.box (tag _ _ _ h.box (by decide))) h.ne2, set_blk hb _ _, rest hse (by decide), rest hev (by decide), ?_, by rw [List.length_append, h.len]; rfl, (h.kept.trans ka (fun j e => .inr (owns_blk h.bufs.own e).1)).trans kb (fun j e => .inr (by rw [e]; exact h.ge)), h.ge, h.ne, h.ne2⟩⟩
  rw [List.take_add_one, hx]
  refine nb.kept kb (fun j hj e => ?_)
  subst e
  exact Tl.fb_ne nb hb (by decide) (by decide) (by decide) hj
end To
set_option maxHeartbeats 8000000 in
theorem own_any {F : Nat → Prop} {ts te tb : Value} {cs : List Int} {us lvs : List Value} {mss : List (List Value)} {xss : List (List (List Int))} (w : World) (ho : Or w F ts te tb cs us lvs mss xss) (hc : cs.length ≤ 4095) (hu : us.length ≤ 4095) (hl : lvs.length ≤ 4095) (h1 : ∀ u ∈ us, u.oneCell' = true) (hx : ∀ xs ∈ xss, xs.length ≤ 1099511627775 ∧ ∀ x ∈ xs, x.length ≤ 17592186044416) :
    Calls Try.prog 17 #[.agg #[ts, te, tb]] w fun e w' => ∃ ts' te' tb', e = .returned (.agg #[ts', te', tb']) ∧ Ow w w' ts' te' tb' cs us xss := by
  obtain ⟨ta, tc, rfl, hts⟩ := ho.sems
  obtain ⟨va, vc, rfl, hvs⟩ := ho.evs
  obtain ⟨la, lc, rfl, hls⟩ := ho.bufs
  have hlc := hls.cap
  have hlm := hls.max
  have HO : Hid (Or w F (.slice ta cs.length tc) (.slice va us.length vc) (.slice la lvs.length lc) cs us lvs mss xss ∧ (∀ xs ∈ xss, xs.length ≤ 1099511627775 ∧ ∀ x ∈ xs, x.length ≤ 17592186044416)) := ⟨ho, hx⟩
  have HV : Hid (Zs w F ta cs.length tc cs ∧ Vs w F va us.length vc us ∧ ∀ u ∈ us, u.oneCell' = true) := ⟨hts, hvs, h1⟩
  clear ho hx hts hvs hls h1
  go_enter Try.func17, Try.ntmps17
  go_upto_region 2 with fail
  have B3 : Hid (Kept No w (((w.alloc (.cells #[.slice ta cs.length tc, .slice va us.length vc, .slice la lvs.length lc] 55)).alloc (.cells #[.slice none 0 0, .slice none 0 0, .slice none 0 0] 55)).alloc (.cells #[.slice none 0 0, .slice none 0 0, .slice none 0 0] 55)) ∧ (((w.alloc (.cells #[.slice ta cs.length tc, .slice va us.length vc, .slice la lvs.length lc] 55)).alloc (.cells #[.slice none 0 0, .slice none 0 0, .slice none 0 0] 55)).alloc (.cells #[.slice none 0 0, .slice none 0 0, .slice none 0 0] 55)).heap[w.heap.size]? = some (.cells #[.slice ta cs.length tc, .slice va us.length vc, .slice la lvs.length lc] 55) ∧ (((w.alloc (.cells #[.slice ta cs.length tc, .slice va us.length vc, .slice la lvs.length lc] 55)).alloc (.cells #[.slice none 0 0, .slice none 0 0, .slice none 0 0] 55)).alloc (.cells #[.slice none 0 0, .slice none 0 0, .slice none 0 0] 55)).heap[w.heap.size + 1]? = some (.cells #[.slice none 0 0, .slice none 0 0, .slice none 0 0] 55) ∧ (((w.alloc (.cells #[.slice ta cs.length tc, .slice va us.length vc, .slice la lvs.length lc] 55)).alloc (.cells #[.slice none 0 0, .slice none 0 0, .slice none 0 0] 55)).alloc (.cells #[.slice none 0 0, .slice none 0 0, .slice none 0 0] 55)).heap[w.heap.size + 2]? = some (.cells #[.slice none 0 0, .slice none 0 0, .slice none 0 0] 55)) := by
    refine ⟨(((Kept.refl No w).alloc _).alloc _).alloc _, (((Kept.refl No _).alloc _).alloc _).at' (alloc_new w _) (fun e => e), ?_, ?_⟩
    · have h5 := alloc_new (w.alloc (.cells #[.slice ta cs.length tc, .slice va us.length vc, .slice la lvs.length lc] 55)) (.cells #[.slice none 0 0, .slice none 0 0, .slice none 0 0] 55)
      rw [World.size_alloc] at h5
      exact ((Kept.refl No _).alloc _).at' h5 (fun e => e)
    · have h5 := alloc_new ((w.alloc (.cells #[.slice ta cs.length tc, .slice va us.length vc, .slice la lvs.length lc] 55)).alloc (.cells #[.slice none 0 0, .slice none 0 0, .slice none 0 0] 55)) (.cells #[.slice none 0 0, .slice none 0 0, .slice none 0 0] 55)
      rw [World.size_alloc, World.size_alloc] at h5
      exact h5
  have a0 : (((w.alloc (.cells #[.slice ta cs.length tc, .slice va us.length vc, .slice la lvs.length lc] 55)).alloc (.cells #[.slice none 0 0, .slice none 0 0, .slice none 0 0] 55)).alloc (.cells #[.slice none 0 0, .slice none 0 0, .slice none 0 0] 55)).cell? ⟨w.heap.size + 2, 0, none⟩ = some (.slice none 0 0) := (cell_blk B3.out.2.2.2 0).trans rfl
  have a1 : (((w.alloc (.cells #[.slice ta cs.length tc, .slice va us.length vc, .slice la lvs.length lc] 55)).alloc (.cells #[.slice none 0 0, .slice none 0 0, .slice none 0 0] 55)).alloc (.cells #[.slice none 0 0, .slice none 0 0, .slice none 0 0] 55)).cell? ⟨w.heap.size, 0, none⟩ = some (.slice ta cs.length tc) := (cell_blk B3.out.2.1 0).trans rfl
  generalize (((w.alloc (.cells #[.slice ta cs.length tc, .slice va us.length vc, .slice la lvs.length lc] 55)).alloc (.cells #[.slice none 0 0, .slice none 0 0, .slice none 0 0] 55)).alloc (.cells #[.slice none 0 0, .slice none 0 0, .slice none 0 0] 55)) = w3 at *
  go_upto_region 3 with (at_builtin; refine wpList_cpv rfl _ _ 52 3 rfl _ 8 Try.underlying52 Try.infoI rfl w.heap.size (.slice none 0 0) rfl (World.ownsRow_nil _ _ _ _) B3.out.1.size _ cs.length tc rfl _ _ (HV.out.1.vs.kept B3.out.1 (fun _ _ e => e)) (iv_one cs) (by omega) ?_; intro ya yc w4 o4 k4; have k4' : Kept No w3 w4 := k4.out.mono (fun k e => by cases e); have b0 : w4.cell? ⟨w.heap.size + 2, 0, none⟩ = some (.slice none 0 0) := k4'.cell a0 (fun e => e); have f0 : w4.frozen? ⟨w.heap.size + 2, 0, none⟩ = false := fz_blk (k4'.at' B3.out.2.2.2 (fun e => e)) 0; have K4 := hid k4'; clear k4' k4)
  clear a0 a1 b0 f0
  have B4 : Hid (Kept No w (w4.setCell ⟨w.heap.size + 2, 0, none⟩ (.slice ya cs.length yc)) ∧ (w4.setCell ⟨w.heap.size + 2, 0, none⟩ (.slice ya cs.length yc)).heap[w.heap.size]? = some (.cells #[.slice ta cs.length tc, .slice va us.length vc, .slice la lvs.length lc] 55) ∧ (w4.setCell ⟨w.heap.size + 2, 0, none⟩ (.slice ya cs.length yc)).heap[w.heap.size + 1]? = some (.cells #[.slice none 0 0, .slice none 0 0, .slice none 0 0] 55) ∧ (w4.setCell ⟨w.heap.size + 2, 0, none⟩ (.slice ya cs.length yc)).heap[w.heap.size + 2]? = some (.cells #[.slice ya cs.length yc, .slice none 0 0, .slice none 0 0] 55) ∧ (w4.setCell ⟨w.heap.size + 2, 0, none⟩ (.slice ya cs.length yc)).ownsRow w.heap.size 3 1 (.slice ya cs.length yc) cs.length (cs.map iv)) := by
    have kb : Kept (fun j => j = w.heap.size + 2) w4 (w4.setCell ⟨w.heap.size + 2, 0, none⟩ (.slice ya cs.length yc)) := (Kept.refl (fun j => j = w.heap.size + 2) w4).setCell (p := ⟨w.heap.size + 2, 0, none⟩) (.inl rfl) _
    have ht := K4.out.at' B3.out.2.2.2 (fun e => e)
    refine ⟨(B3.out.1.trans K4.out (fun _ e => e.elim)).trans kb (fun j e => .inr (by omega)), kb.at' (K4.out.at' B3.out.2.1 (fun e => e)) (by omega), kb.at' (K4.out.at' B3.out.2.2.1 (fun e => e)) (by omega), set_blk ht _ _, kb.owns o4.out (fun j hj e => ?_)⟩
    obtain ⟨_, cs', h5⟩ := owns_blk o4.out hj
    subst e
    exact absurd (two_tags h5 ht) (by decide)
  clear K4 B3 o4
  have a0 : (w4.setCell ⟨w.heap.size + 2, 0, none⟩ (.slice ya cs.length yc)).cell? ⟨w.heap.size + 2, 1, none⟩ = some (.slice none 0 0) := (cell_blk B4.out.2.2.2.1 1).trans rfl
  have a1 : (w4.setCell ⟨w.heap.size + 2, 0, none⟩ (.slice ya cs.length yc)).cell? ⟨w.heap.size, 1, none⟩ = some (.slice va us.length vc) := (cell_blk B4.out.2.1 1).trans rfl
  generalize (w4.setCell ⟨w.heap.size + 2, 0, none⟩ (.slice ya cs.length yc)) = w5 at *
  go_upto_region 4 with (at_builtin; refine wpList_cpv rfl _ _ 35 4 rfl _ 1 Try.underlying35 Try.infoB rfl w.heap.size (.slice none 0 0) rfl (World.ownsRow_nil _ _ _ _) B4.out.1.size _ us.length vc rfl _ _ (HV.out.2.1.kept B4.out.1 (fun _ _ e => e)) HV.out.2.2 (by omega) ?_; intro za zc w6 o6 k6; have k6' : Kept No w5 w6 := k6.out.mono (fun k e => by cases e); have b0 : w6.cell? ⟨w.heap.size + 2, 1, none⟩ = some (.slice none 0 0) := k6'.cell a0 (fun e => e); have f0 : w6.frozen? ⟨w.heap.size + 2, 1, none⟩ = false := fz_blk (k6'.at' B4.out.2.2.2.1 (fun e => e)) 1; have K6 := hid k6'; clear k6' k6)
  clear a0 a1 b0 f0
  have HT : Hid (To w (w6.setCell ⟨w.heap.size + 2, 1, none⟩ (.slice za us.length zc)) #[.slice ta cs.length tc, .slice va us.length vc, .slice la lvs.length lc] cs us xss (w.heap.size + 1) w.heap.size (w.heap.size + 2) (.slice ya cs.length yc) (.slice za us.length zc) (.slice none 0 0) 0 [] []) := by
    have kb : Kept (fun j => j = w.heap.size + 2) w6 (w6.setCell ⟨w.heap.size + 2, 1, none⟩ (.slice za us.length zc)) := (Kept.refl (fun j => j = w.heap.size + 2) w6).setCell (p := ⟨w.heap.size + 2, 1, none⟩) (.inl rfl) _
    have ht := K6.out.at' B4.out.2.2.2.1 (fun e => e)
    have os := K6.out.owns B4.out.2.2.2.2 (fun _ _ e => e)
    refine ⟨kb.at' (K6.out.at' B4.out.2.2.1 (fun e => e)) (by omega), kb.at' (K6.out.at' B4.out.2.1 (fun e => e)) (by omega), set_blk ht _ _, kb.owns os (fun j hj e => ?_), kb.owns o6.out (fun j hj e => ?_), Lb.none _ _, rfl, (B4.out.1.trans K6.out (fun _ e => e.elim)).trans kb (fun j e => .inr (by omega)), by omega, by omega, by omega⟩
    · obtain ⟨_, cs', h5⟩ := owns_blk os hj
      subst e
      exact absurd (two_tags h5 ht) (by decide)
    · obtain ⟨_, cs', h5⟩ := owns_blk o6.out hj
      subst e
      exact absurd (two_tags h5 ht) (by decide)
  clear K6 B4 o6 HV
  generalize (w6.setCell ⟨w.heap.size + 2, 1, none⟩ (.slice za us.length zc)) = w7 at *
  obtain ⟨r, hs1⟩ : ∃ r, w.heap.size + 1 = r := ⟨_, rfl⟩
  obtain ⟨t, hs2⟩ : ∃ t, w.heap.size + 2 = t := ⟨_, rfl⟩
  rw [hs1, hs2] at HT
  rw [show w.heap.size + 1 + 1 = t from hs2, hs1]
  have HR : Hid (w.heap.size ≤ r) := (show w.heap.size ≤ r by omega)
  clear hs1 hs2
  go_upto_region 5 with fail
  go_loopw [4] (fun x wr => ∃ (m : Nat) (tb : Value) (lv' : List Value) (ms' : List (List Value)), m ≤ lvs.length ∧ x = .int .i64 m ∧ To w wr #[.slice ta cs.length tc, .slice va us.length vc, .slice la lvs.length lc] cs us xss r w.heap.size t (.slice ya cs.length yc) (.slice za us.length zc) tb m lv' ms') (fun x _ => lvs.length - (intOf x).toNat)
  case atStart => exact ⟨0, .slice none 0 0, [], [], Nat.zero_le _, rfl, HT.out⟩
  case round =>
    clear HT
    obtain ⟨m, tb, lv', ms', hm, rfl, hto⟩ := hrel
    have HT := hid hto
    have s2 : wr.cell? ⟨w.heap.size, 2, none⟩ = some (.slice la lvs.length lc) := (cell_blk hto.box 2).trans rfl
    clear hto
    by_cases hlt : m < lvs.length
    · have hltz : (m : Int) < (lvs.length : Int) := by omega
      obtain ⟨_, _, hzv, hzs⟩ := HO.out.1.bufs
      injection hzv with e1 _ e2
      subst e1 e2
      have g1 : lvs[m]? = some lvs[m] := List.getElem?_eq_getElem hlt
      have hl1 : m < mss.length := by rw [HO.out.1.len1]; exact hlt
      have hl2 : m < xss.length := by rw [HO.out.1.len2]; exact hlt
      have g2 : mss[m]? = some mss[m] := List.getElem?_eq_getElem hl1
      have g3 : xss[m]? = some xss[m] := List.getElem?_eq_getElem hl2
      obtain ⟨⟨na, nc, hlv, hns⟩, hxl, hmsg⟩ := HO.out.1.ent m _ _ _ g1 g2 g3
      obtain ⟨zb, zo, rfl, _, ez⟩ := hzs.at' m _ g1
      rw [hlv] at ez
      have hbx := HO.out.2 _ (List.mem_of_getElem? g3)
      generalize mss[m] = ns at *
      generalize xss[m] = xs at *
      have hnc := hns.cap
      have hnm := hns.max
      have HE : Hid (Vs w F na ns.length nc ns ∧ xs.length = ns.length ∧ (∀ (j : Nat) (v : Value) (x : List Int), ns[j]? = some v → xs[j]? = some x → ∃ a c, v = .slice a x.length c ∧ Zs w F a x.length c x) ∧ (∀ x ∈ xs, x.length ≤ 17592186044416) ∧ xss[m]? = some xs ∧ w.cell? ⟨zb, zo + m, none⟩ = some (.slice na ns.length nc)) := ⟨hns, hxl, hmsg, hbx.2, g3, ez⟩
      have hnl : ns.length ≤ 1099511627775 := by rw [← hxl]; exact hbx.1
      clear g1 g2 g3 hns hxl hmsg hbx hlv hzs hl1 hl2 ez
      go_upto_region 9 with fail
      clear s2
      obtain ⟨wz, hwz⟩ : ∃ wz, wz = wr := ⟨_, rfl⟩
      subst hwz
      go_loopw [5, 6] (fun u x wi => ∃ (j : Nat) (ps : List Value), j ≤ ns.length ∧ x = .int .i64 j ∧ Ll wi wz.heap.size u ps (xs.take j) ∧ ps.length = j ∧ Kept No wz wi) (fun u x _ => ns.length - (intOf x).toNat)
      case atStart => exact ⟨0, [], Nat.zero_le _, rfl, Ll.none _ _, rfl, Kept.refl No _⟩
      case round =>
        obtain ⟨j, ps, hj, rfl, hll, hpl, hki⟩ := hrel
        obtain ⟨pa, pn, pc, rfl⟩ := own_slice hll.own
        have HL : Hid (Ll wr wz.heap.size (.slice pa pn pc) ps (xs.take j) ∧ Kept No wz wr) := ⟨hll, hki⟩
        have hkw := HT.out.kept.trans hki (fun _ e => e.elim)
        have s2 : wr.cell? ⟨w.heap.size, 2, none⟩ = some _ := (cell_blk (hki.at' HT.out.box (fun e => e)) 2).trans rfl
        have ez : wr.cell? ⟨zb, zo + m, none⟩ = some _ := hkw.cell HE.out.2.2.2.2.2 (fun e => e)
        clear hll hki
        by_cases hlt3 : j < ns.length
        · have hltz3 : (j : Int) < (ns.length : Int) := by omega
          have hjx : j < xs.length := by rw [HE.out.2.1]; exact hlt3
          have g1 : ns[j]? = some ns[j] := List.getElem?_eq_getElem hlt3
          have g2 : xs[j]? = some xs[j] := List.getElem?_eq_getElem hjx
          obtain ⟨xa, xc, hv, hzx⟩ := HE.out.2.2.1 j _ _ g1 g2
          obtain ⟨nb', no, rfl, _, en⟩ := (HE.out.1.kept hkw (fun _ _ e => e)).at' j _ g1
          rw [hv] at en
          have hx17 := HE.out.2.2.2.1 _ (List.mem_of_getElem? g2)
          have HX : Hid (xs.take (j + 1) = xs.take j ++ [xs[j]]) := by
            show List.take (j + 1) xs = _
            rw [List.take_add_one, g2]
            rfl
          generalize xs[j] = x at *
          have CW := hid (wordsR_any wr (hzx.kept hkw (fun _ _ e => e)) hx17)
          have hnl2 := hid hpl
          clear g1 g2 hv hzx hx17 hkw
          go_wp2_with (first
            | (go_at_call 36; refine CW.out.mono ?_; rintro e w8 ⟨qa, qc, rfl, o8, k8⟩; have O8 := hid o8; have K8 := hid k8; clear o8 k8 CW; have AP : Hid ((w8.alloc (.cells #[.slice qa x.length qc] 31)).ownsRow wz.heap.size 31 1 (.slice pa pn pc) ps.length ps ∧ wz.heap.size ≤ (w8.alloc (.cells #[.slice qa x.length qc] 31)).heap.size ∧ (w8.alloc (.cells #[.slice qa x.length qc] 31)).cell? ⟨w8.heap.size, 0, none⟩ = some (.slice qa x.length qc)) := ⟨(K8.out.owns HL.out.1.own (fun _ _ e => e)).alloc _, (by have := HL.out.2.size; have := K8.out.size; rw [World.size_alloc]; omega), (cell_blk (alloc_new w8 _) 0).trans rfl⟩)
            | (at_builtin; refine wpList_app1 rfl _ _ 40 31 rfl _ 24 Try.underlying40 Try.infoL rfl wz.heap.size (.slice pa pn pc) ps.length ps rfl AP.out.1 AP.out.2.1 ⟨w8.heap.size, 0, none⟩ 1 (.slice qa x.length qc) rfl AP.out.2.2 rfl (by omega) (by unfold maxLen; omega) ?_; intro va' vc' wa own1 gr1 lo1; obtain ⟨q1, q2⟩ := HL.out.1.more HL.out.2.size rfl K8.out O8.out own1.out gr1.out; have HF : Hid (Ll wa wz.heap.size (.slice va' (ps.length + 1) vc') (ps ++ [.slice qa x.length qc]) (xs.take (j + 1)) ∧ Kept No wz wa) := (by rw [HX.out]; exact ⟨q1, HL.out.2.trans q2 (fun k e => .inr (owns_at HL.out.1.own e).1)⟩); clear q1 q2))
          go_roundw
          case rel =>
            refine ⟨j + 1, ps ++ [.slice qa x.length qc], by omega, by go_num, ?_, ?_, HF.out.2⟩
            · have h7 := HF.out.1
              rw [hnl2.out] at h7
              exact h7
            · have h7 := hnl2.out
              rw [List.length_append, List.length_singleton]
              omega
          case measure => simp [intOf]; omega
        · have hltz3 : ¬ (j : Int) < (ns.length : Int) := by omega
          have hjn : j = ns.length := by omega
          have HX : Hid (xs.take j = xs) := by
            show List.take j xs = xs
            rw [hjn, ← HE.out.2.1, List.take_length]
          have hz1 := HT.out.keep HL.out.2
          obtain ⟨ba', bn', bc', rfl⟩ := own_slice hz1.bufs.own
          have ct : wr.cell? ⟨t, 2, none⟩ = some (.slice ba' bn' bc') := (cell_blk hz1.told 2).trans rfl
          have AP : Hid ((wr.alloc (.cells #[.slice pa pn pc] 40)).ownsRow w.heap.size 40 1 (.slice ba' bn' bc') m lv' ∧ w.heap.size ≤ (wr.alloc (.cells #[.slice pa pn pc] 40)).heap.size ∧ (wr.alloc (.cells #[.slice pa pn pc] 40)).cell? ⟨wr.heap.size, 0, none⟩ = some (.slice pa pn pc)) := ⟨by have := hz1.bufs.own.alloc (.cells #[.slice pa pn pc] 40); rw [hz1.len] at this; exact this, by have := hz1.kept.size; rw [World.size_alloc]; omega, (cell_blk (alloc_new wr _) 0).trans rfl⟩
          have HM : Hid (∀ wa v1, wa.ownsRow w.heap.size 40 1 v1 (m + 1) (lv' ++ [.slice pa pn pc]) → (wr.alloc (.cells #[.slice pa pn pc] 40)).grownBy wa (Value.slice ba' bn' bc').ownBlock → wa.cell? ⟨t, 2, none⟩ = some (.slice ba' bn' bc') ∧ wa.frozen? ⟨t, 2, none⟩ = false ∧ To w (wa.setCell ⟨t, 2, none⟩ v1) #[.slice ta cs.length tc, .slice va us.length vc, .slice (some ⟨zb, zo, none⟩) lvs.length lc] cs us xss r w.heap.size t (.slice ya cs.length yc) (.slice za us.length zc) v1 (m + 1) (lv' ++ [.slice pa pn pc]) (ms' ++ [ps])) := fun wa v1 o1 g1 => by
            have L := HL.out.1
            rw [HX.out] at L
            exact HT.out.buf HE.out.2.2.2.2.1 HL.out.2 L o1 g1
          clear HX hz1 hjn HL hkw
          go_wp2_with (at_builtin; refine wpList_app1 rfl _ _ 53 40 rfl _ 24 Try.underlying53 Try.infoLL rfl w.heap.size (.slice ba' bn' bc') m lv' rfl AP.out.1 AP.out.2.1 ⟨wr.heap.size, 0, none⟩ 1 (.slice pa pn pc) rfl AP.out.2.2 rfl (by omega) (by unfold maxLen; omega) ?_; intro va' vc' wa own1 gr1 lo1; obtain ⟨q1, q2, q3⟩ := HM.out _ _ own1.out gr1.out; have HF := hid q3; clear q3)
          go_roundw
          case rel => exact ⟨m + 1, _, _, _, by omega, by go_num, HF.out⟩
          case measure => simp [intOf]; omega
    · have hltz2 : ¬ (m : Int) < (lvs.length : Int) := by omega
      have hmn : m = lvs.length := by omega
      have hT := HT.out
      obtain ⟨ba', bn', bc', rfl⟩ := own_slice hT.bufs.own
      have d0 : wr.cell? ⟨t, 0, none⟩ = some _ := (cell_blk hT.told 0).trans rfl
      have d1 : wr.cell? ⟨t, 1, none⟩ = some _ := (cell_blk hT.told 1).trans rfl
      have d2 : wr.cell? ⟨t, 2, none⟩ = some _ := (cell_blk hT.told 2).trans rfl
      have r0 : wr.cell? ⟨r, 0, none⟩ = some _ := (cell_blk hT.res 0).trans rfl
      have r1 : wr.cell? ⟨r, 1, none⟩ = some _ := (cell_blk hT.res 1).trans rfl
      have r2 : wr.cell? ⟨r, 2, none⟩ = some _ := (cell_blk hT.res 2).trans rfl
      have f0 := fz_blk hT.res 0
      have f1 := fz_blk hT.res 1
      have f2 := fz_blk hT.res 2
      have HM := hid hmn
      clear hT hmn
      go_wp2
      refine bodyPost_ret (results_cell_row rfl _ _ r 55 #[.slice ya cs.length yc, .slice za us.length zc, .slice ba' bn' bc'] (0, 0) _ rfl (set3 HT.out.res _ _ _) Try.underlying55 rfl Try.infoOS) rfl ?_
      have hT := HT.out
      have hge : w.heap.size ≤ r := HR.out
      have K : Kept (fun j => j = r) wr (((wr.setCell ⟨r, 0, none⟩ (.slice ya cs.length yc)).setCell ⟨r, 1, none⟩ (.slice za us.length zc)).setCell ⟨r, 2, none⟩ (.slice ba' bn' bc')) := (((Kept.refl (fun j => j = r) wr).setCell (p := ⟨r, 0, none⟩) (.inl rfl) _).setCell (p := ⟨r, 1, none⟩) (.inl rfl) _).setCell (p := ⟨r, 2, none⟩) (.inl rfl) _
      have tag : ∀ {t' s n : Nat} {u : Value} {ys : List Value}, wr.ownsRow w.heap.size t' s u n ys → t' ≠ 55 → ∀ k, u.ownBlock = some k → ¬ k = r := fun ho ht k hk e => by
        obtain ⟨_, cs, h1⟩ := owns_blk ho hk
        subst e
        exact ht (two_tags h1 hT.res)
      have hbu := hT.bufs
      rw [List.take_of_length_le (by rw [HO.out.1.len2, HM.out]; exact Nat.le_refl _)] at hbu
      refine ⟨_, _, _, rfl, lv', ms', K.owns hT.sems (tag hT.sems (by decide)), K.owns hT.evs (tag hT.evs (by decide)), hbu.kept K (fun k hk e => ?_), hT.kept.trans K (fun k e => .inr (by rw [e]; exact hge))⟩
      subst e
      exact Tl.fb_ne hbu hT.res (by decide) (by decide) (by decide) hk
end Go.Proofs.Ytggkajopfbokjaa
