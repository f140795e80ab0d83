/-
  script.Decode of what Encode told.
-/
import Derived.Test.YtfdcmhbpnadcpabDoorEGetL
namespace Go.Proofs.YtfdcmhbpnadcpabDoor
open Go.RowKit
set_option linter.unusedVariables false
set_option linter.unusedSimpArgs false
set_option maxRecDepth 100000

theorem enc_ok {xs : List Inp} (h : encOk xs = true) : xs.length ≤ 65536 ∧ (encB xs).length ≤ 4194304 := by
  unfold encOk at h
  rw [Bool.and_eq_true] at h
  exact ⟨of_decide_eq_true h.1, of_decide_eq_true h.2⟩
set_option maxHeartbeats 4000000 in
theorem decode_yes (G : Nat → Prop) (a : Option Addr) (n c : Nat) (xs : List Inp) (w : World) (hb : Bs w G a n c (sealed 3 (encB xs))) (hok : encOk xs = true) (ht : ∀ x ∈ xs, Ok6 x) (hlt : ∀ y ∈ encB xs, y < 256) :
    Calls Tryd.prog 5 #[.slice a n c] w fun ex w' => ∃ a' c', ex = .returned (.tuple #[.slice a' xs.length c', .int .i64 0]) ∧ Il w' An a' xs.length c' xs ∧ Kept No w w' := by
  obtain ⟨h1, h2⟩ := enc_ok hok
  have cU := unseal_any G 3 a n c _ w (by decide) hb
  have hu := unsE_yes 3 (encB xs) h2
  rw [hu.1, hu.2] at cU
  have HT := hid (And.intro ht hlt)
  clear hu hb ht hlt
  go_enter Tryd.func5, Tryd.ntmps5
  go_upto_region 2 with (go_at_call 11; refine cU.mono ?_; rintro ex w1 ⟨ba, bn, bc, rfl, o1, b1⟩)
  obtain ⟨ba', bc', eb, hbs⟩ := Bs.of_owns o1 HT.out.2
  injection eb with eb1 eb2 eb3
  subst eb1 eb2 eb3
  have cR := newReader_any _ ba _ bc (encB xs) w1 hbs (by omega)
  have K1 : Hid (Kept No w w1) := Kept.of_below b1
  clear cU o1 b1 hbs
  go_upto_region 5 with (go_at_call 12; refine cR.mono ?_; rintro ex w2 ⟨p, rfl, rd2, b2⟩)
  have K2 : Hid (Kept No w1 w2) := Kept.of_below b2
  have rd2' : Rd w2 (fun k => w1.heap.size ≤ k ∧ k < w2.heap.size) p (be xs.length 4 ++ (insB xs ++ [])) 0 := by rw [List.append_nil]; exact rd2
  have hfp : w1.heap.size ≤ p ∧ p < w2.heap.size := by obtain ⟨a', n', c', hv⟩ := rd2; exact hv.fp
  have cL := getList_yes _ p xs [] w2 rd2' (fun k hk => hk.2) h1 (by rw [encB_len] at h2; omega) HT.out.1
  clear cR rd2 rd2' b2
  go_upto_region 6 with (go_at_call 13; refine cL.mono ?_; rintro ex w3 ⟨la, lc, rfl, il3, rd3, k3⟩)
  have cD := rdone_any _ p [] 0 w3 rd3
  rw [show rdDone [] 0 = 0 from rfl] at cD
  have q1 := il3.cap
  have q2 := il3.max
  have H3 := hid (And.intro il3 ((K1.out.trans K2.out (fun _ e => e.elim)).trans k3 (fun k e => .inr (by have e' : k = p := e; have h3 := K1.out.size; omega))))
  clear il3 k3 rd3 cL
  go_wp2_with (go_at_call 15; refine cD.mono ?_; rintro ex w4 ⟨rfl, q, rfl⟩)
  go_ret2
  have KQ : Kept No w3 (w3.drewN q) := (Kept.refl No w3).drewN q
  exact ⟨la, lc, rfl, H3.out.1.keep KQ, H3.out.2.trans KQ (fun _ e => e.elim)⟩
/-! ### the document's Copy -/
theorem words_any {F : Nat → Prop} {a : Option Addr} {n c : Nat} {xs : List Int} (w : World) (hz : Zs w F a n c xs) (hn : n ≤ 17592186044416) :
    Calls Tryd.prog 45 #[.slice a n c] w fun e w' => ∃ ya yc, e = .returned (.slice ya n yc) ∧ w'.ownsRow w.heap.size 2 1 (.slice ya n yc) n (xs.map iv) ∧ Kept No w w' := by
  have hv := hz.vs
  clear hz
  go_enter Tryd.func45, Tryd.ntmps45
  go_wp2_with (at_builtin; refine wpList_cpv rfl _ _ 32 2 rfl _ 8 Tryd.underlying32 Tryd.infoW rfl w.heap.size _ rfl (World.ownsRow_nil _ _ _ _) (Nat.le_refl _) _ n c rfl _ _ hv (iv_one xs) (by omega) ?_; intro ya yc w1 o1 k1)
  go_ret
  exact ⟨ya, yc, rfl, o1.out, k1.out.mono (fun k e => by cases e)⟩
set_option maxHeartbeats 4000000 in
theorem with_any {F : Nat → Prop} {x : Inp} {da : Option Addr} {dc m B : Nat} {v : Value} {ys : List Inp} (w : World) (h : Gi w B v m ys) (hx : Ir w F x da dc) (hB : B ≤ w.heap.size) (hm : m + 1 ≤ 1048577) :
    Calls Tryd.prog 23 #[v, .agg (x.val da dc)] w fun r w' => ∃ a c, r = .returned (.slice a (m + 1) c) ∧ Gi w' B (.slice a (m + 1) c) (m + 1) (ys ++ [x]) ∧ Kept (fun k => B ≤ k) w w' := by
  obtain ⟨va, vc, rfl, _⟩ := h.shape
  obtain ⟨w2, e2⟩ : ∃ w2, w2 = w.alloc (.cells #[.int .i64 x.tk, .int .i64 x.kd, .int .i64 x.tg, .slice da x.d.length dc] 34) := ⟨_, rfl⟩
  have K2 : Kept No w w2 := by rw [e2]; exact (Kept.refl No w).alloc _
  have BA : w2.heap[w.heap.size]? = some (.cells #[.int .i64 x.tk, .int .i64 x.kd, .int .i64 x.tg, .slice da x.d.length dc] 34) := by rw [e2]; exact alloc_new w _
  have y3 : w2.cell? ⟨w.heap.size, 3, none⟩ = some (.slice da x.d.length dc) := (cell_blk BA 3).trans rfl
  have cW := words_any w2 (hx.keep K2).zs hx.sm
  have hl2 := heap_lt BA
  obtain ⟨As, gj⟩ := h
  have HH := hid (And.intro K2 (And.intro BA (And.intro gj hx)))
  clear K2 BA gj hx
  show Calls Tryd.prog 23 #[.slice va m vc, .agg #[.int .i64 x.tk, .int .i64 x.kd, .int .i64 x.tg, .slice da x.d.length dc]] w _
  go_enter Tryd.func23, Tryd.ntmps23
  go_upto_region 1 with fail
  rw [← e2]
  clear e2
  go_upto_region 2 with (go_at_call 45; refine cW.mono ?_; rintro ex w3 ⟨ya, yc, rfl, o3, k3⟩; have b3 := k3.at' HH.out.2.1 (fun e => e); have z3 := (cell_blk b3 3).trans rfl; have f3 := fz_blk b3 3; have H3 := hid (And.intro o3 (And.intro k3 b3)); clear o3 k3 b3 cW)
  obtain ⟨w4, e4⟩ : ∃ w4, w4 = w3.setCell ⟨w.heap.size, 3, none⟩ (.slice ya x.d.length yc) := ⟨_, rfl⟩
  rw [← e4]
  have KS : Kept (fun k => k = w.heap.size) w3 w4 := by rw [e4]; exact (Kept.refl (fun k => k = w.heap.size) w3).setCell (p := ⟨w.heap.size, 3, none⟩) (.inl rfl) _
  have B4 : w4.heap[w.heap.size]? = some (.cells #[.int .i64 x.tk, .int .i64 x.kd, .int .i64 x.tg, .slice ya x.d.length yc] 34) := by rw [e4]; exact set_blk H3.out.2.2 3 _
  have O4 := KS.owns H3.out.1 (fun g hg e => by have h1 := (owns_blk H3.out.1 hg).1; have e' : g = w.heap.size := e; omega)
  have K4 : Kept No w w4 := (HH.out.1.trans H3.out.2.1 (fun _ e => e.elim)).trans KS (fun k e => .inr (by have e' : k = w.heap.size := e; omega))
  have LX : Hid ((Instr.loadAt 34 (.pointer (some ⟨w.heap.size, 0, none⟩))).run Tryd.prog w4 = .ok (.agg (x.val ya yc)) w4) := ldI (fun j v hv => by rw [Nat.zero_add, cell_blk B4, ← Array.getElem?_toList]; exact hv)
  have ir4 : Ir w4 (Fd w4 B) x ya yc := by
    obtain ⟨a', c', e, hz⟩ := Zs.of_owns O4
    injection e with q1 _ q3
    subst q1 q3
    refine ⟨hz.mono (fun g hg => .inr ?_), HH.out.2.2.2.sm, HH.out.2.2.2.t6⟩
    obtain ⟨_, cs, h2⟩ := owns_blk O4 hg
    exact ⟨cs, _, h2⟩
  have H4 := hid (And.intro ir4 K4)
  clear e4 KS B4 O4 K4 ir4 z3 f3 H3 y3
  go_wp2_with (first
    | (refine l_take 10 rfl rfl (er_ldX 34 _ rfl (.pointer (some ⟨w.heap.size, 0, none⟩)) (.agg (x.val ya yc)) rfl LX.out) ?_)
    | (refine l_make 11 rfl rfl (er_bsG 23 34 4 48 Z4 (x.val ya yc) _ rfl Tryd.underlying23 Tryd.infoI (by decide) (by decide) rfl (fill_I x ya yc)) ?_)
    | (at_builtin; refine wpList_apK rfl _ _ 23 34 rfl B (.agg Z4) 4 48 Tryd.underlying23 Tryd.infoI rfl (by decide) (.slice va m vc) m _ rfl ((HH.out.2.2.1.keep (H4.out.2.alloc _)).own) (by rw [World.size_alloc]; have h2 := H4.out.2.size; omega) ⟨w4.heap.size, 0, none⟩ 1 1 (x.val ya yc).toList rfl rfl (news_alloc w4 (x.val ya yc) 34) (all_mem (x.val_one ya yc)) (by omega) (by omega) (by decide) ?_; intro g7 c7 w5 o5 k5))
  go_ret
  have KA : Kept No w4 (w4.alloc (.cells (x.val ya yc) 34)) := (Kept.refl No w4).alloc _
  refine ⟨some ⟨g7, 0, none⟩, c7, rfl, ?_, ?_⟩
  · exact (HH.out.2.2.1.keep (H4.out.2.alloc _)).more ((H4.out.1.keep KA).mono (fun q hq => hq.kept KA (fun e => e))) k5.out o5.out
  · exact ((H4.out.2.alloc _).mono (fun _ e => e.elim)).trans k5.out (fun q e => .inl (HH.out.2.2.1.low e))
set_option maxHeartbeats 4000000 in
theorem copy_list {F : Nat → Prop} {a : Option Addr} {n c : Nat} {xs : List Inp} (w : World) (hl : Il w F a n c xs) (hs : n ≤ 1048576) :
    Calls Tryd.prog 9 #[.slice a n c] w fun r w' => ∃ ra rc, r = .returned (.slice ra n rc) ∧ Il w' An ra n rc xs ∧ Kept No w w' := by
  have hlc := hl.cap
  have hlm := hl.max
  have hlen := hl.len
  have HH := hid hl.low
  clear hl
  go_enter Tryd.func9, Tryd.ntmps9
  go_upto_region 2 with fail
  go_wp2
  go_loopw [3, 4] (fun u3 u4 wr => ∃ (k : Nat) (ka : Option Addr) (kc : Nat), k ≤ n ∧ u3 = .slice ka k kc ∧ u4 = .int .i64 k ∧ Gi wr w.heap.size (.slice ka k kc) k (xs.take k) ∧ Kept (fun k => w.heap.size ≤ k) w wr) (fun _ u4 _ => n - (intOf u4).toNat)
  case atStart => exact ⟨0, none, 0, by omega, rfl, rfl, Gi.nil _ _, Kept.refl _ _⟩
  case round =>
    obtain ⟨k, ka, kc, hk, rfl, rfl, gi, kr⟩ := hrel
    by_cases hlt : k < n
    · have hltz : (k : Int) < (n : Int) := by omega
      have ilr := HH.out.kept kr (fun b hb e => by omega)
      obtain ⟨x, hx⟩ : ∃ x, xs[k]? = some x := ⟨_, List.getElem?_eq_getElem (by rw [hlen]; exact hlt)⟩
      obtain ⟨b, o, da, dc, rfl, _, hc, ir⟩ := ilr.at' k x hx
      have et : xs.take (k + 1) = xs.take k ++ [x] := by rw [List.take_add_one, hx]; rfl
      have LD := hid (ldI hc)
      have CW := hid (with_any wr gi ir kr.size (by omega))
      have HG := hid (And.intro kr et)
      clear gi kr ir ilr hc hx et
      go_wp2_with (first
        | (refine l_take 15 rfl rfl (er_ldX 34 (.tmp 14) rfl (.pointer (some ⟨b, o + k * 4, none⟩)) (.agg (x.val da dc)) rfl LD.out) ?_)
        | (go_at_call 23; refine CW.out.mono ?_; rintro ex w3 ⟨va, vc, rfl, g3, k3⟩; have H3 := hid (And.intro g3 k3); clear g3 k3))
      refine ⟨⟨k + 1, va, vc, by omega, rfl, by go_num, by rw [HG.out.2]; exact H3.out.1, HG.out.1.trans H3.out.2 (fun _ e => .inl e)⟩, ?_⟩
      simp [intOf]; omega
    · have hltz : ¬ (k : Int) < (n : Int) := by omega
      obtain rfl : k = n := by omega
      have HG := hid (And.intro gi kr)
      clear gi kr
      go_wp2
      go_ret
      have g := HG.out.1
      rw [List.take_of_length_le (by omega)] at g
      exact ⟨ka, kc, rfl, g.il, ⟨HG.out.2.os, HG.out.2.tape, HG.out.2.output, HG.out.2.size, fun q hq _ => HG.out.2.block q hq (fun e => by omega)⟩⟩
end Go.Proofs.YtfdcmhbpnadcpabDoor
