/-
  One text: KEl.
-/
import Derived.Test.YtibmgpinfdcaoaaGreatDoorG41
import Derived.Laws.AppendOwnNone
namespace Go.Proofs.YtibmgpinfdcaoaaGreatDoor
open Go.RowKit Plain
set_option linter.unusedVariables false
set_option linter.unusedSimpArgs false
set_option maxRecDepth 100000

theorem es_news {w : World} {F : Nat → Prop} {ad : Addr} {n c : Nat} {es : List Evt} (h : Es w F (some ad) n c es) : ∀ j u, (flE es)[j]? = some u → w.cell? (ad.add j) = some u := fun j u hj => by
  have hlt : j < n * 7 := by have := (List.getElem?_eq_some_iff.1 hj).1; rw [flE_len, h.len] at this; exact this
  have hi : j / 7 < n := by omega
  have hr : j % 7 < 7 := Nat.mod_lt _ (by omega)
  obtain ⟨v, hv⟩ : ∃ v, (es.getD (j / 7) dEvt).v[j % 7]? = some v := ⟨_, List.getElem?_eq_getElem (by rw [v_len]; exact hr)⟩
  have h1 := flE_at es (j / 7) (j % 7) v (by rw [h.len]; exact hi) hv
  rw [show j / 7 * 7 + j % 7 = j by omega, hj] at h1
  injection h1 with h1
  subst h1
  obtain ⟨b, o, e, _, hc⟩ := h.at' (j / 7) hi
  injection e with e
  subst e
  have := hc (j % 7) _ hv
  rw [show o + j / 7 * 7 + j % 7 = o + j by omega] at this
  rw [add_none]
  exact this
theorem flE_one (es : List Evt) : ∀ u ∈ flE es, u.oneCell' = true := fun u hu => by
  unfold flE at hu
  rw [List.mem_flatMap] at hu
  obtain ⟨x, _, hx⟩ := hu
  exact one7 _ _ _ _ _ _ _ _ _ u hx
theorem wpList_cpe {w : World} {ops : Array Oper} {rest : List Oper} {o : Oper} {a : Act} {Q : Exit → Act → World → Prop} (hgd : o.guard = none) (s x : Operand)
    (ho : o.op = .call { callee := .builtin .append, args := #[s, x], argTypes := #[23, 23] }) (B : Nat) (v : Value) (hs : a.eval s = v) (hv : w.ownsRow B 54 7 v 0 []) (hB : B ≤ w.heap.size) (xa : Option Addr) (n c : Nat) (hx : a.eval x = .slice xa n c)
    (F : Nat → Prop) (xs : List Evt) (hz : Es w F xa n c xs) (hnil : xa = none → c = 0) (hn : n * 72 ≤ 140737488351232)
    (h : ∀ v1 w', Hid (w'.ownsRow B 54 7 v1 n (flE xs)) → Hid (Kept (fun k => v.ownBlock = some k) w w') → wpList Tryz.prog ops Q rest (a.put o.dst v1) w') : wpList Tryz.prog ops Q (o :: rest) a w := by
  obtain ⟨i0, hi, hz0, hz1, hz2⟩ := info_parts Tryz.infoEv
  cases xa with
  | none =>
    have hc0 := hnil rfl
    have hn0 : n = 0 := by have := hz.cap; omega
    have hx0 : xs = [] := List.eq_nil_of_length_eq_zero (by rw [hz.len]; exact hn0)
    subst hc0 hn0 hx0
    refine wpList_append_own_none hgd s x 23 ho B 54 i0 7 Tryz.underlying23 hi _ _ _ hs hv hx ?_
    exact h v w hv (Kept.refl _ _)
  | some ad =>
    refine wpList_append_own _ hgd s x 23 ho B 54 i0 (.agg #[.int .i64 0, .int .i64 0, .int .i64 0, .int .i64 0, .int .i64 0, .int .i64 0, .slice none 0 0]) 7 72 Tryz.underlying23 hi hz0 hz1 hz2 rfl (by decide) _ 0 [] hs hv ad n c (flE xs) hx (by rw [flE_len, hz.len]) (es_news hz) (flE_one _) (by unfold maxLen; omega) (by omega) hB ?_
    intro v1 w1 own1 grow1 _
    rw [Nat.zero_add, List.nil_append] at own1
    exact h v1 w1 own1 ((Kept.refl (fun k => v.ownBlock = some k) w).grown grow1 (fun k e => .inl e))
def m7E : Evt := ⟨-7, 0, 0, 0, 0, 0, none, 0, 0⟩
def m8E : Evt := ⟨-8, 0, 0, 0, 0, 0, none, 0, 0⟩
theorem ne_self (v : Int) : (v != v) = false := by simp

set_option maxHeartbeats 16000000 in
theorem eventsLeft_any {F : Nat → Prop} {a : Option Addr} {n c : Nat} {xs : List Evt} (p : Int) (w : World) (h : Es w F a n c xs) (hF : ∀ k, F k → k < w.heap.size) (hnil : a = none → c = 0) (hb : n * 72 ≤ 140737488351232) :
    Calls Tryz.prog 17 #[.slice a n c, .int .i64 p] w fun e w' => e = .returned (.bool true) ∧ Kept No w w' := by
  obtain ⟨i0, hi, hz0, hz1, hz2⟩ := info_parts Tryz.infoEv
  have HS := hid h
  have hcap := h.cap
  have hmax := h.max
  have hxl := h.len
  clear h
  go_enter Tryz.func17, Tryz.ntmps17
  go_upto_region 3 with (at_builtin; refine wpList_cpe rfl _ _ rfl w.heap.size _ rfl (World.ownsRow_nil _ _ _ _) (Nat.le_refl _) a n c rfl F xs HS.out hnil hb ?_; intro v1 w1 o1 g1)
  have H1 : Hid (w1.ownsRow w.heap.size 54 7 v1 n (flE xs) ∧ Kept No w w1) := ⟨o1.out, g1.out.mono (fun k e => by cases e)⟩
  clear o1 g1
  go_upto_region 4 with (at_builtin; refine wpList_append_own _ rfl _ _ 23 rfl w.heap.size 54 i0 (.agg #[.int .i64 0, .int .i64 0, .int .i64 0, .int .i64 0, .int .i64 0, .int .i64 0, .slice none 0 0]) 7 72 Tryz.underlying23 hi hz0 hz1 hz2 rfl (by decide) v1 n (flE xs) rfl (H1.out.1.alloc _) ⟨w1.heap.size, 0, none⟩ 2 2 (flE [m7E, m8E]) rfl rfl (by
      intro j u hj
      have hb := World.alloc_heap_new w1 (.cells #[.int .i64 (-7), .int .i64 0, .int .i64 0, .int .i64 0, .int .i64 0, .int .i64 0, .slice none 0 0, .int .i64 (-8), .int .i64 0, .int .i64 0, .int .i64 0, .int .i64 0, .int .i64 0, .slice none 0 0] 54)
      have hlt : j < 14 := (List.getElem?_eq_some_iff.1 hj).1
      rw [add_none, Nat.zero_add]
      simp only [World.cell?, hb]
      have hj' : ([.int .i64 (-7), .int .i64 0, .int .i64 0, .int .i64 0, .int .i64 0, .int .i64 0, .slice none 0 0, .int .i64 (-8), .int .i64 0, .int .i64 0, .int .i64 0, .int .i64 0, .int .i64 0, .slice none 0 0] : List Value)[j]? = some u := hj
      rcases j with _ | _ | _ | _ | _ | _ | _ | _ | _ | _ | _ | _ | _ | _ | j
      all_goals first | exact hj' | (simp at hj' ⊢; exact hj') | omega) (flE_one _) (by unfold maxLen; omega) (by omega) (by have := H1.out.2.size; rw [World.size_alloc]; omega) ?_; intro v2 w2 own2 grow2 _)
  rw [← flE_app] at own2
  have hl2 : (xs ++ [m7E, m8E]).length = n + 2 := by rw [List.length_append, hxl]; rfl
  have hsh : ∃ g cap, v2 = .slice (some ⟨g, 0, none⟩) (n + 2) cap ∧ w.heap.size ≤ g := by
    rcases own2.2 with ⟨_, h6⟩ | ⟨g, cap, cur, h5, h6, _⟩
    · omega
    · exact ⟨g, cap, h5, h6⟩
  obtain ⟨g, cap, rfl, hg⟩ := hsh
  have hcc := own_cap own2
  have hme := me_own own2 hl2
  have k2 : Kept No w w2 := (H1.out.2.alloc _).trans ((Kept.refl (fun k => v1.ownBlock = some k) _).grown grow2 (fun k e => .inl e)) (fun k e => .inr (H1.out.1.lt k e).1)
  have hgd : ∀ i, i < n → (xs ++ [m7E, m8E]).getD i dEvt = xs.getD i dEvt := fun i hi => by simp [List.getD, List.getElem?_append_left (show i < xs.length by omega)]
  have hm1 : Me w2 g n (fun i => xs.getD i dEvt) := ⟨fun i j v hi hv => hme.at' i j v (by omega) (by rw [hgd i hi]; exact hv), hme.fz, hme.blk⟩
  have q7 : (xs ++ [m7E, m8E]).getD n dEvt = m7E := by rw [← hxl]; simp [List.getD]
  have q8 : (xs ++ [m7E, m8E]).getD (n + 1) dEvt = m8E := by rw [← hxl]; simp [List.getD]
  have m7 : w2.cell? ⟨g, n * 7, none⟩ = some (.int .i64 (-7)) := hme.at' n 0 _ (by omega) (by rw [q7]; rfl)
  have m8 : w2.cell? ⟨g, (n + 1) * 7, none⟩ = some (.int .i64 (-8)) := hme.at' (n + 1) 0 _ (by omega) (by rw [q8]; rfl)
  have hes := hm1.es xs hxl (fun i hi => rfl) (show n ≤ cap by omega) hcc.2
  have hct := counts_all p w2 hes (fun k e => by have e' : k = g := e; rw [e']; exact hm1.blk)
  have HM := hid (And.intro hm1 (And.intro k2 (And.intro m7 (And.intro m8 hg))))
  have hc1 : (n : Int) + 2 ≤ (cap : Int) := by omega
  have hc2 := hcc.2
  have hnz : (n : Int) ≤ 1954687338211 := by omega
  clear own2 grow2 hl2 hcc hme hgd hm1 q7 q8 m7 m8 hes k2 H1 hg
  go_upto_region 5 with (go_at_call 9; refine hct.mono ?_; clear hct; rintro e w3 ⟨ra, rfl, hr, k3⟩; have H3 := hid k3; clear hr k3)
  go_wp2
  go_loopw [7, 8, 9] (fun x z1 z2 wr => ∃ k : Nat, k ≤ n ∧ x = .int .i64 k ∧ Kept No w3 wr) (fun x _ _ _ => n - (intOf x).toNat)
  case atStart => exact ⟨0, Nat.zero_le _, rfl, Kept.refl _ _⟩
  case round =>
    obtain ⟨k, hk, rfl, hkr⟩ := hrel
    have HK := hid (H3.out.trans hkr (fun _ h => h.elim))
    have HK3 := hid hkr
    clear hkr
    by_cases hlt : k < n
    · have hltz : (k : Int) < (n : Int) := by omega
      have hltz2 : (k : Int) < (n : Int) + 2 := by omega
      obtain ⟨b, o, rfl, _, hc⟩ := HS.out.at' k hlt
      have hc2' : ∀ j v, (xs.getD k dEvt).v[j]? = some v → wr.cell? ⟨b, o + k * 7 + j, none⟩ = some v := fun j v hv => HK.out.cell (HM.out.2.1.cell (hc j v hv) (fun h => h)) (fun h => h)
      have hg2 : ∀ j v, (xs.getD k dEvt).v[j]? = some v → wr.cell? ⟨g, k * 7 + j, none⟩ = some v := fun j v hv => HK.out.cell (HM.out.1.at' k j v hlt hv) (fun h => h)
      have HLT := hid (And.intro hlt hk)
      generalize xs.getD k dEvt = x at *
      obtain ⟨xt, xp, xk, xr, xa, xb, xda, xdn, xdc⟩ := x
      have r0 := hc2' 0 _ rfl
      have r1 := hc2' 1 _ rfl
      have r2 := hc2' 2 _ rfl
      have r3 := hc2' 3 _ rfl
      have r4 := hc2' 4 _ rfl
      have r5 := hc2' 5 _ rfl
      have r6 := hc2' 6 _ rfl
      have t0 := hg2 0 _ rfl
      have t1 := hg2 1 _ rfl
      have t2 := hg2 2 _ rfl
      have t3 := hg2 3 _ rfl
      have t4 := hg2 4 _ rfl
      have t5 := hg2 5 _ rfl
      have t6 := hg2 6 _ rfl
      rw [Nat.add_zero] at r0 t0
      simp only at r0 r1 r2 r3 r4 r5 r6 t0 t1 t2 t3 t4 t5 t6
      clear hc hc2' hg2 hk hlt
      go_upto_region 9 with fail
      have hb1 := World.alloc_heap_new wr (.cells #[.int .i64 xt, .int .i64 xp, .int .i64 xk, .int .i64 xr, .int .i64 xa, .int .i64 xb, .slice xda xdn xdc] 54)
      have ka : Kept No wr (wr.alloc (.cells #[.int .i64 xt, .int .i64 xp, .int .i64 xk, .int .i64 xr, .int .i64 xa, .int .i64 xb, .slice xda xdn xdc] 54)) := (Kept.refl No wr).alloc _
      have hsz : (wr.alloc (.cells #[.int .i64 xt, .int .i64 xp, .int .i64 xk, .int .i64 xr, .int .i64 xa, .int .i64 xb, .slice xda xdn xdc] 54)).heap.size = wr.heap.size + 1 := by simp
      have HKA := hid (HK3.out.trans ka (fun _ h => h.elim))
      replace r0 := ka.cell r0 (fun h => h)
      replace r1 := ka.cell r1 (fun h => h)
      replace r2 := ka.cell r2 (fun h => h)
      replace r3 := ka.cell r3 (fun h => h)
      replace r4 := ka.cell r4 (fun h => h)
      replace r5 := ka.cell r5 (fun h => h)
      replace r6 := ka.cell r6 (fun h => h)
      clear t0 t1 t2 t3 t4 t5 t6 ka
      obtain ⟨wa, hwa⟩ : ∃ wa, wa = wr.alloc (.cells #[.int .i64 xt, .int .i64 xp, .int .i64 xk, .int .i64 xr, .int .i64 xa, .int .i64 xb, .slice xda xdn xdc] 54) := ⟨_, rfl⟩
      obtain ⟨bx, hbx⟩ : ∃ bx, bx = wr.heap.size := ⟨_, rfl⟩
      rw [← hwa] at r0 r1 r2 r3 r4 r5 r6 hb1 hsz HKA ⊢
      rw [← hbx] at hb1 hsz ⊢
      clear hwa hbx
      go_upto_region 10 with fail
      have hb2 := World.alloc_heap_new wa (.cells #[.int .i64 xt, .int .i64 xp, .int .i64 xk, .int .i64 xr, .int .i64 xa, .int .i64 xb, .slice xda xdn xdc] 54)
      rw [hsz] at hb2
      have kb : Kept No wa (wa.alloc (.cells #[.int .i64 xt, .int .i64 xp, .int .i64 xk, .int .i64 xr, .int .i64 xa, .int .i64 xb, .slice xda xdn xdc] 54)) := (Kept.refl No wa).alloc _
      have hb3 := kb.at' hb1 (fun h => h)
      obtain ⟨d0, d1, d2, d3, d4, d5, d6⟩ := cells7 hb2
      obtain ⟨e0, e1, e2, e3, e4, e5, e6⟩ := cells7 hb3
      have n1 := ne_self xt
      have n2 := ne_self xp
      have n3 := ne_self xk
      have n4 := ne_self xr
      have n5 := ne_self xa
      have n6 := ne_self xb
      have n7 : ((xdn : Int) != (xdn : Int)) = false := by simp
      have HKB := hid (HKA.out.trans kb (fun _ h => h.elim))
      clear r0 r1 r2 r3 r4 r5 r6 hb1 hb2 hb3 kb HK HK3 HKA
      obtain ⟨wb, hwb⟩ : ∃ wb, wb = wa.alloc (.cells #[.int .i64 xt, .int .i64 xp, .int .i64 xk, .int .i64 xr, .int .i64 xa, .int .i64 xb, .slice xda xdn xdc] 54) := ⟨_, rfl⟩
      rw [← hwb] at d0 d1 d2 d3 d4 d5 d6 e0 e1 e2 e3 e4 e5 e6 HKB ⊢
      clear hwb
      go_wp2
      go_roundw
      case rel => exact ⟨k + 1, by have := HLT.out; omega, by go_num, HKB.out⟩
      case measure => have := HLT.out; simp [intOf]; omega
    · obtain rfl : k = n := by omega
      have hltz : ¬ (k : Int) < (k : Int) := by omega
      have m7 := HK.out.cell HM.out.2.2.1 (fun h => h)
      have m8 := HK.out.cell HM.out.2.2.2.1 (fun h => h)
      have HZ := hid (HM.out.2.1.trans HK.out (fun _ h => h.elim))
      clear HK HK3 hk hlt
      go_wp2
      go_ret
      exact ⟨rfl, HZ.out⟩
end Go.Proofs.YtibmgpinfdcaoaaGreatDoor
