/-
  pass: the timers run to a tick, those that ran out are armed anew.
-/
import Derived.Test.YtffgcijicmfmlaaGreatDoorDBase
import Derived.Test.YtffgcijicmfmlaaGreatDoorNNext
namespace Go.Proofs.YtffgcijicmfmlaaGreatDoor
open Go.RowKit Plain
set_option linter.unusedVariables false
set_option maxRecDepth 100000

/-- a told row of timers -/
theorem trow_at {w : World} {B g n c : Nat} {T : List Fi} (h : w.ownsRow B 98 2 (.slice (some ⟨g, 0, none⟩) n c) n (fcL T)) {i : Nat} {x : Fi} (hx : T[i]? = some x) : w.cell? ⟨g, i * 2, none⟩ = some (.int .i64 x.t) ∧ w.cell? ⟨g, i * 2 + 1, none⟩ = some (.int .i64 x.i) := by
  have k1 := World.ownsRow.cells h (g := g) rfl _ _ (fcL_at0 T i x hx)
  have k2 := World.ownsRow.cells h (g := g) rfl _ _ (fcL_at1 T i x hx)
  rw [add_none, Nat.zero_add] at k1 k2
  exact ⟨k1, k2⟩
theorem row_slice {w : World} {B : Nat} {v : Value} {T : List Fi} (h : w.ownsRow B 98 2 v T.length (fcL T)) : ∃ a c, v = .slice a T.length c := by
  obtain ⟨_, ⟨h1, h2⟩ | ⟨g, cap, cur, h1, _⟩⟩ := h
  · exact ⟨none, 0, by rw [h1, h2]⟩
  · exact ⟨_, _, h1⟩

/-- what pass keeps, k timers armed anew -/
structure Pv (w wr : World) (d gR bW : Nat) (a : Option Addr) (c : Nat) (FS FW : Nat → Prop) (xs : List Srv) (r : Nat → Int) (tg : Nat) (T L1 : List Fi) (v : Value) (k : Nat) : Prop where
  ex : ∃ FWk Lk, Dr wr d gR bW a c FS FWk xs tg r tg Lk ∧ Mk (sys xs) tg T L1 k Lk ∧ (∀ j, FWk j → FW j ∨ w.heap.size ≤ j) ∧ ∀ g, v.ownBlock = some g → ¬ Fd d gR FS FWk g
  row : wr.ownsRow w.heap.size 98 2 v T.length (fcL T)
  kp : Kept (fun j => j = d ∨ FW j) w wr
theorem Pv.keep {w wr w' : World} {d gR bW : Nat} {a : Option Addr} {c : Nat} {FS FW : Nat → Prop} {xs : List Srv} {r : Nat → Int} {tg : Nat} {T L1 : List Fi} {v : Value} {k : Nat} (h : Pv w wr d gR bW a c FS FW xs r tg T L1 v k) (hk : Kept No wr w') : Pv w w' d gR bW a c FS FW xs r tg T L1 v k := by
  obtain ⟨FWk, Lk, h1, h2, h3, h4⟩ := h.ex
  exact ⟨⟨FWk, Lk, h1.keep hk, h2, h3, h4⟩, hk.owns h.row (fun _ _ h => h), h.kp.trans hk (fun _ h => h.elim)⟩

set_option maxHeartbeats 8000000 in
theorem pass_any {w : World} {d gR bW : Nat} {a : Option Addr} {c : Nat} {FS FW : Nat → Prop} {xs : List Srv} {now : Nat} {r : Nat → Int} {nw : Nat} {L : List Fi} {f : Nat → Nat} (hv : Vd xs) (h : Dr w d gR bW a c FS FW xs now r nw L) (tg : Nat) (hle : nw ≤ tg) (htg : tg < 1099511627776) (hm : Mm xs.length f L) (hf : ∀ i, i < xs.length → tg < f i → f i = Rule.nx (sys xs) tg i) :
    Calls Tryz.prog 46 #[.pointer (some ⟨d, 0, none⟩), .int .i64 tg] w fun e w' => ∃ v T L' FW', e = .returned v ∧ w'.ownsRow w.heap.size 98 2 v T.length (fcL T) ∧ (∀ x, x ∈ T ↔ ∃ i : Nat, i < xs.length ∧ x = ⟨(f i : Int), (i : Int)⟩ ∧ f i ≤ tg) ∧ T.length ≤ 65536 ∧ Dr w' d gR bW a c FS FW' xs tg r tg L' ∧ Mm xs.length (Rule.nx (sys xs) tg) L' ∧ (∀ j, FW' j → FW j ∨ w.heap.size ≤ j) ∧ (∀ g, v.ownBlock = some g → ¬ Fd d gR FS FW' g) ∧ Kept (fun j => j = d ∨ FW j) w w' := by
  have HV : Hid (Vd xs) := hv
  have hn := hv.num
  have HD : Hid (Dr w d gR bW a c FS FW xs now r nw L) := h
  have HM : Hid (Mm xs.length f L ∧ ∀ i, i < xs.length → tg < f i → f i = Rule.nx (sys xs) tg i) := ⟨hm, hf⟩
  have c2 := h.c2
  have fz := h.fz 2
  have h2 := h.setNow tg
  have ma := fun w => m_adv bW w
  have marm := fun w => m_arm bW w
  clear h hm hf hv
  go_enter Tryz.func46, Tryz.ntmps46
  go_upto_region 2 with fail
  have k1 : Kept (fun j => j = d ∨ FW j) w (w.setCell ⟨d, 2, none⟩ (.int .i64 tg)) := Kept.setCell (Kept.refl (fun j => j = d ∨ FW j) w) (p := ⟨d, 2, none⟩) (Or.inl (Or.inl rfl)) _
  have hsz : (w.setCell ⟨d, 2, none⟩ (.int .i64 tg)).heap.size = w.heap.size := by simp [World.setCell]
  have HD1 : Hid (Dr (w.setCell ⟨d, 2, none⟩ (.int .i64 tg)) d gR bW a c FS FW xs tg r nw L ∧ Kept (fun j => j = d ∨ FW j) w (w.setCell ⟨d, 2, none⟩ (.int .i64 tg)) ∧ (w.setCell ⟨d, 2, none⟩ (.int .i64 tg)).heap.size = w.heap.size) := ⟨h2, k1, hsz⟩
  clear h2 k1 hsz c2 fz
  generalize w.setCell ⟨d, 2, none⟩ (.int .i64 tg) = w1 at *
  have hadv := advance_yes sortSpec HD1.out.1.wh tg hle (by omega)
  have c4 := HD1.out.1.c4
  unfold wif at c4
  go_upto_region 3 with (go_at_call 109; refine hadv.mono ?_; rintro e w2 ⟨v, rfl, ht⟩; have HT : Hid (Told w1 w2 FW bW tg L v) := ht; clear ht hadv)
  obtain ⟨FW1, T, L1, eL, hT1, hL1, hrow, hwh, hk2, hF1, hown⟩ := HT.out
  have HP0 : Hid (Pv w w2 d gR bW a c FS FW xs r tg T L1 v 0) := by
    obtain ⟨g1, g2, g3⟩ := HD1.out
    refine ⟨⟨FW1, L1, g1.turn hk2 hwh hF1, Mk.start _ _ _ _, fun j hj => by rw [← g3]; exact hF1 j hj, fun g hg hF => ?_⟩, by rw [← g3]; exact hrow, g2.trans hk2 (fun j hj => .inl (.inr hj))⟩
    have hlt := hrow.lt g hg
    rcases hF with e | e | hF | hF
    · have h0 : d < w1.heap.size := cell_lt g1.c0
      omega
    · have := g1.ct.lt; omega
    · have := g1.sl g hF; omega
    · exact hown g hg hF
  have HTT : Hid (Mm xs.length f (T ++ L1) ∧ (∀ x, x ∈ T → x.t ≤ tg) ∧ (∀ x, x ∈ L1 → (tg : Int) < x.t) ∧ (T ++ L1).Pairwise lt2 ∧ ∀ x y, x ∈ T ++ L1 → y ∈ T ++ L1 → x.i = y.i → x = y) := by
    refine ⟨by rw [← eL]; exact HM.out.1, hT1, hL1, by rw [← eL]; exact HD1.out.1.wh.sorted, fun x y hx hy e => HD1.out.1.wh.uniq (by rw [eL]; exact hx) (by rw [eL]; exact hy) e⟩
  have hlenT : T.length ≤ 65536 := by
    have := HD1.out.1.wh.len
    rw [eL, List.length_append] at this
    omega
  obtain ⟨va, vc, hvv⟩ := row_slice hrow
  subst hvv
  clear eL hT1 hL1 hrow hwh hk2 hF1 hown HT c4
  go_wp2
  go_loopw [27] (fun x wr => ∃ k : Nat, k ≤ T.length ∧ x = .int .i64 k ∧ Pv w wr d gR bW a c FS FW xs r tg T L1 (.slice va T.length vc) k) (fun x _ => T.length - (intOf x).toNat)
  case atStart => exact ⟨0, Nat.zero_le _, rfl, HP0.out⟩
  case round =>
    clear HP0
    obtain ⟨k, hk, rfl, hpv⟩ := hrel
    by_cases hlt : k < T.length
    · obtain ⟨y, hy⟩ : ∃ y, T[k]? = some y := ⟨T[k], by rw [List.getElem?_eq_getElem hlt]⟩
      obtain ⟨i, hi, ey, hfi⟩ := (HTT.out.1 y).1 (List.mem_append_left _ (List.mem_of_getElem? hy))
      obtain ⟨g, rfl⟩ : ∃ g, va = some ⟨g, 0, none⟩ := by
        obtain ⟨_, ⟨h1, h2⟩ | ⟨g, cap, cur, h1, _⟩⟩ := hpv.row
        · omega
        · injection h1 with h1 _ _; exact ⟨g, h1⟩
      obtain ⟨t0, t1⟩ := trow_at hpv.row hy
      subst ey
      dsimp only at t0 t1
      have HPV : Hid (Pv w wr d gR bW a c FS FW xs r tg T L1 (.slice (some ⟨g, 0, none⟩) T.length vc) k) := hpv
      have HY : Hid (T[k]? = some (⟨(f i : Int), (i : Int)⟩ : Fi)) := hy
      clear hpv hy
      generalize f i = fi at *
      go_upto_region 6 with fail
      have kal : Kept No wr (wr.alloc (.cells #[.int .i64 (fi : Int), .int .i64 (i : Int)] 98)) := (Kept.refl No wr).alloc _
      have b2 := World.alloc_heap_new wr (.cells #[.int .i64 (fi : Int), .int .i64 (i : Int)] 98)
      have HP2 : Hid (Pv w (wr.alloc (.cells #[.int .i64 (fi : Int), .int .i64 (i : Int)] 98)) d gR bW a c FS FW xs r tg T L1 (.slice (some ⟨g, 0, none⟩) T.length vc) k ∧ w.heap.size ≤ wr.heap.size) := ⟨HPV.out.keep kal, HPV.out.kp.size⟩
      clear kal t0 t1 HPV
      generalize wr.alloc (.cells #[.int .i64 (fi : Int), .int .i64 (i : Int)] 98) = wq at *
      have HB2 : Hid (wq.heap[wr.heap.size]? = some (.cells #[.int .i64 (fi : Int), .int .i64 (i : Int)] 98)) := b2
      generalize hz : wr.heap.size = z at *
      have z0 : wq.cell? ⟨z, 0, none⟩ = some (.int .i64 (fi : Int)) := by simp only [World.cell?, b2]; rfl
      have z1 : wq.cell? ⟨z, 1, none⟩ = some (.int .i64 (i : Int)) := by simp only [World.cell?, b2]; rfl
      clear hz b2
      obtain ⟨FWk, Lk, hDk, hMk, hFk, hok⟩ := HP2.out.1.ex
      have HK : Hid (Dr wq d gR bW a c FS FWk xs tg r tg Lk ∧ Mk (sys xs) tg T L1 k Lk ∧ (∀ j, FWk j → FW j ∨ w.heap.size ≤ j) ∧ ∀ g', (Value.slice (some ⟨g, 0, none⟩) T.length vc).ownBlock = some g' → ¬ Fd d gR FS FWk g') := ⟨hDk, hMk, hFk, hok⟩
      have d0 := hDk.c0
      have hcap := hDk.sv.cap
      have hmax := hDk.sv.max
      obtain ⟨hok4, b, o, rfl, hbb, e0, e1, e2, e3⟩ := hDk.sv.gs4 hi
      have hP := HV.out.per i hi
      have hO := HV.out.off i hi
      have hNX : nextV (gs xs i).o (gs xs i).p ((tg : Int) + 1) = (Rule.nx (sys xs) tg i : Int) := by
        have := nextV_nat (gs xs i).o.toNat (gs xs i).p.toNat (tg + 1) (by omega) (by omega)
        rw [Int.toNat_of_nonneg (by omega), Int.toNat_of_nonneg (by omega)] at this
        rw [show ((tg + 1 : Nat) : Int) = (tg : Int) + 1 by omega] at this
        exact this
      have hnle := Rule.nx_le HV.out.bd.ok (t := tg) (i := i) hi
      have hnP : (sys xs).P i ≤ 1048576 := HV.out.bd.per i hi
      clear hDk hMk hFk hok
      generalize gs xs i = x at *
      obtain ⟨xp, xb, xo, xq⟩ := x
      dsimp only at e0 e1 e2 e3 hP hO hNX
      have hcn := fun W => next_any xo xp ((tg : Int) + 1) W (by unfold I64; omega) (by unfold I64; omega) (by unfold I64; omega)
      rw [hNX] at hcn
      generalize nextB xo xp ((tg : Int) + 1) = nb at *
      clear hNX
      have ka : Kept No wq (wq.alloc (.cells #[.int .i64 0, .int .i64 0, .int .i64 0, .int .i64 0] 36)) := (Kept.refl No wq).alloc _
      have z1' := ka.cell z1 (fun h => h)
      have d0' := ka.cell d0 (fun h => h)
      have e0' := ka.cell e0 (fun h => h)
      have e1' := ka.cell e1 (fun h => h)
      have e2' := ka.cell e2 (fun h => h)
      have e3' := ka.cell e3 (fun h => h)
      clear ka
      go_region
      clear z0 z1 d0 e0 e1 e2 e3 z1' d0' e0' e1' e2' e3' hcap hmax
      have k3 : Kept No wq (wq.alloc (.cells #[.int .i64 xp, .int .i64 xb, .int .i64 xo, .int .i64 xq] 36)).drew := ((Kept.refl No wq).alloc _).drew
      have b3 : (wq.alloc (.cells #[.int .i64 xp, .int .i64 xb, .int .i64 xo, .int .i64 xq] 36)).drew.heap[wq.heap.size]? = some (.cells #[.int .i64 xp, .int .i64 xb, .int .i64 xo, .int .i64 xq] 36) := World.alloc_heap_new wq _
      have HK3 : Hid (Dr (wq.alloc (.cells #[.int .i64 xp, .int .i64 xb, .int .i64 xo, .int .i64 xq] 36)).drew d gR bW (some ⟨b, o, none⟩) c FS FWk xs tg r tg Lk ∧ (wq.alloc (.cells #[.int .i64 xp, .int .i64 xb, .int .i64 xo, .int .i64 xq] 36)).drew.ownsRow w.heap.size 98 2 (.slice (some ⟨g, 0, none⟩) T.length vc) T.length (fcL T) ∧ Kept (fun j => j = d ∨ FW j) w (wq.alloc (.cells #[.int .i64 xp, .int .i64 xb, .int .i64 xo, .int .i64 xq] 36)).drew ∧ (wq.alloc (.cells #[.int .i64 xp, .int .i64 xb, .int .i64 xo, .int .i64 xq] 36)).drew.heap[z]? = some (.cells #[.int .i64 (fi : Int), .int .i64 (i : Int)] 98)) := ⟨HK.out.1.keep k3, k3.owns HP2.out.1.row (fun _ _ h => h), HP2.out.1.kp.trans k3 (fun _ h => h.elim), k3.at' HB2.out (fun h => h)⟩
      clear k3 HB2
      generalize (wq.alloc (.cells #[.int .i64 xp, .int .i64 xb, .int .i64 xo, .int .i64 xq] 36)).drew = ws at *
      obtain ⟨y0, y1, y2, y3⟩ := cells4r b3
      generalize hz2 : wq.heap.size = z2 at *
      clear hz2 b3
      go_upto_region 8 with (go_at_call 56; refine (hcn _).mono ?_; rintro e w4 ⟨rfl, hw4⟩; obtain rfl := hw4.symm; clear hcn)
      have z1 : ws.cell? ⟨z, 1, none⟩ = some (.int .i64 (i : Int)) := by simp only [World.cell?, HK3.out.2.2.2]; rfl
      have d4 := HK3.out.1.c4
      unfold wif at d4
      clear y0 y1 y2 y3
      generalize hN : Rule.nx (sys xs) tg i = N at *
      have HN : Hid (Rule.nx (sys xs) tg i = N) := hN
      clear hN
      have hNt : tg < N := by rw [← HN.out]; exact (Rule.nx_after HV.out.bd.ok hi).2.1
      have HFR : Hid (∀ x, x ∈ Lk → x.i ≠ (i : Int)) := HK.out.2.1.fresh HTT.out.2.2.2.2 HTT.out.2.2.2.1 HTT.out.2.1 HTT.out.2.2.1 HY.out
      by_cases hNM : N < 1099511627776
      · have hyes := arm_yes (HK3.out.1.wh.kept ((Kept.refl No ws).drew) (fun _ _ h => h)) ⟨(N : Int), (i : Int)⟩ ⟨by show (tg : Int) ≤ (N : Int); omega, by show (N : Int) < 1099511627776; omega, by show (0 : Int) ≤ (i : Int); omega, by show (i : Int) ≤ 65535; omega⟩
        dsimp only at hyes
        have HNX : Hid (∀ w5 F5, Wh w5 F5 bW tg (ins ⟨(N : Int), (i : Int)⟩ (rem (i : Int) Lk)) → Kept FWk ws.drew w5 → (∀ k, F5 k → FWk k ∨ ws.drew.heap.size ≤ k) → Pv w w5 d gR bW (some ⟨b, o, none⟩) c FS FW xs r tg T L1 (.slice (some ⟨g, 0, none⟩) T.length vc) (k + 1)) := fun w5 F5 q1 q2 q3 => by
          obtain ⟨p1, p2, p3, p4⟩ := HK3.out
          obtain ⟨o1, o2, o3, o4⟩ := HK.out
          have kd : Kept No ws ws.drew := (Kept.refl No ws).drew
          have hrow : ws.drew.ownsRow w.heap.size 98 2 (.slice (some ⟨g, 0, none⟩) T.length vc) T.length (fcL T) := kd.owns p2 (fun _ _ h => h)
          have hsw : w.heap.size ≤ ws.drew.heap.size := p3.size
          refine ⟨⟨F5, _, (p1.keep kd).turn q2 q1 q3, ?_, fun j hj => ?_, fun g' hg' hF => ?_⟩, q2.owns hrow (fun g' hg' h5 => o4 g' hg' (.inr (.inr (.inr h5)))), (p3.trans kd (fun _ h => h.elim)).trans q2 (fun j hj => ?_)⟩
          · have := Mk.yes (y := ⟨(fi : Int), (i : Int)⟩) o2 HY.out HFR.out (by show Rule.nx (sys xs) tg i < _; rw [HN.out]; exact hNM)
            have e : Rule.nx (sys xs) tg ((⟨(fi : Int), (i : Int)⟩ : Fi).i.toNat) = N := HN.out
            rw [e] at this
            exact this
          · rcases q3 j hj with h | h
            · exact o3 j h
            · exact .inr (by omega)
          · have hlt := hrow.lt g' hg'
            rcases hF with h | h | h | h
            · exact o4 g' hg' (.inl h)
            · exact o4 g' hg' (.inr (.inl h))
            · exact o4 g' hg' (.inr (.inr (.inl h)))
            · rcases q3 g' h with h' | h'
              · exact o4 g' hg' (.inr (.inr (.inr h')))
              · omega
          · rcases o3 j hj with h | h
            · exact .inl (.inr h)
            · exact .inr h
        go_region_with (go_at_call 110; refine hyes.mono ?_; rintro e w5 ⟨rfl, F5, q1, q2, q3⟩; have HN5 : Hid (Pv w w5 d gR bW (some ⟨b, o, none⟩) c FS FW xs r tg T L1 (.slice (some ⟨g, 0, none⟩) T.length vc) (k + 1)) := HNX.out w5 F5 q1 q2 q3; clear q1 q2 q3)
        all_goals clear HNX hyes z1 d4
        all_goals go_wp2
        all_goals go_roundw
        case rel => exact ⟨k + 1, by omega, by go_num, HN5.out⟩
        case measure => simp [intOf]; omega
        case rel => exact ⟨k + 1, by omega, by go_num, HN5.out⟩
        case measure => simp [intOf]; omega
      · have hno : Calls Tryz.prog 110 #[.pointer (some ⟨bW, 0, none⟩), .int .i64 (i : Int), .int .i64 (N : Int)] ws.drew fun ex w' => ex = .returned (.int .i64 2) ∧ w' = ws.drew := arm_no (HK3.out.1.wh.kept ((Kept.refl No ws).drew) (fun _ _ h => h)) _ _ (.inr (.inr (.inr (by omega))))
        have HN5 : Hid (Pv w ws.drew d gR bW (some ⟨b, o, none⟩) c FS FW xs r tg T L1 (.slice (some ⟨g, 0, none⟩) T.length vc) (k + 1)) := by
          obtain ⟨p1, p2, p3, p4⟩ := HK3.out
          obtain ⟨o1, o2, o3, o4⟩ := HK.out
          have kd : Kept No ws ws.drew := (Kept.refl No ws).drew
          exact ⟨⟨FWk, Lk, p1.keep kd, Mk.no (y := ⟨(fi : Int), (i : Int)⟩) o2 HY.out (by show ¬ Rule.nx (sys xs) tg i < _; rw [HN.out]; exact hNM), o3, o4⟩, kd.owns p2 (fun _ _ h => h), p3.trans kd (fun _ h => h.elim)⟩
        go_region_with (go_at_call 110; refine hno.mono ?_; rintro e w5 ⟨rfl, hw5⟩; obtain rfl := hw5.symm)
        all_goals clear hno z1 d4
        all_goals go_wp2
        all_goals go_roundw
        case rel => exact ⟨k + 1, by omega, by go_num, HN5.out⟩
        case measure => simp [intOf]; omega
        case rel => exact ⟨k + 1, by omega, by go_num, HN5.out⟩
        case measure => simp [intOf]; omega
    · have hke : k = T.length := by omega
      subst hke
      have HPV : Hid (Pv w wr d gR bW a c FS FW xs r tg T L1 (.slice va T.length vc) T.length) := hpv
      clear hpv
      go_wp2
      go_ret
      obtain ⟨FWk, Lk, h1, h2, h3, h4⟩ := HPV.out.ex
      refine ⟨_, T, Lk, FWk, rfl, HPV.out.row, fun x => ?_, hlenT, h1, h2.done HV.out.bd.ok htg HTT.out.1 HTT.out.2.1 HTT.out.2.2.1 HM.out.2, h3, h4, HPV.out.kp⟩
      constructor
      · intro hx
        obtain ⟨i, hi, rfl, _⟩ := (HTT.out.1 x).1 (List.mem_append_left _ hx)
        have := HTT.out.2.1 _ hx
        exact ⟨i, hi, rfl, by simpa using this⟩
      · rintro ⟨i, hi, rfl, hle'⟩
        rcases List.mem_append.1 ((HTT.out.1 _).2 ⟨i, hi, rfl, by omega⟩) with h5 | h5
        · exact h5
        · have := HTT.out.2.2.1 _ h5
          simp at this
          omega
end Go.Proofs.YtffgcijicmfmlaaGreatDoor
