/-
  Parts.
-/
import Derived.Test.YtfjaajjljmbmbaaGreatDoorCPrd
import Derived.Test.YtfjaajjljmbmbaaGreatDoorCSort
import Derived.Deep.DeepCutAuto
namespace Go.Proofs.YtfjaajjljmbmbaaGreatDoor
open Go.RowKit Plain
set_option linter.unusedVariables false
set_option maxRecDepth 100000

/-- the partitions of the ports of a list, as they come -/
def toL (ps : List Po) (ts : List Int) : List Int := if ts.length = 0 then [0] else ts.map (partV ps)
/-- .. rising, each once -/
def partsL (ps : List Po) (ts : List Int) : List Int := Lib.compact (sortL (toL ps ts))

theorem parts_no {a0 a1 a2 : Option Addr} {n0 c0 n1 c1 n c : Nat} (m : Int) (w : World) (h : m < 1 ∨ (n : Int) < m) :
    Calls Tryz.prog 9 #[.agg #[.slice a0 n0 c0, .slice a1 n1 c1, .slice a2 n c], .int .i64 m] w fun e w' => e = .returned (.tuple #[.int .i64 0, .slice none 0 0, .int .i64 2]) ∧ Kept No w w' := by
  by_cases h1 : m < 1
  · go_enter Tryz.func9, Tryz.ntmps9
    go_wp2
    go_ret3
    exact ⟨rfl, (Kept.refl No w).alloc _⟩
  · have h1' : decide (m < 1) = false := decide_eq_false h1
    have h2 : (n : Int) < m := by omega
    go_enter Tryz.func9, Tryz.ntmps9
    go_wp2
    go_ret3
    exact ⟨rfl, (Kept.refl No w).alloc _⟩

set_option maxHeartbeats 8000000 in
theorem parts_yes {F : Nat → Prop} {a0 a1 a2 : Option Addr} {n0 c0 n1 c1 n c k : Nat} {ps : List Po} {L : List Ch} {x : Ch} (w : World) (hq : Ls 6 elPo w F a1 n1 c1 ps) (hc : Ls 5 elCh w F a2 n c L) (hk : L[k]? = some x) (hx : x.dst.length ≤ 17592186043904) :
    Calls Tryz.prog 9 #[.agg #[.slice a0 n0 c0, .slice a1 n1 c1, .slice a2 n c], .int .i64 ((k : Int) + 1)] w fun e w' => ∃ g cap, e = .returned (.tuple #[.int .i64 (partV ps x.fr), .slice (some ⟨g, 0, none⟩) (partsL ps x.dst).length cap, .int .i64 0]) ∧ w.heap.size ≤ g ∧ g < w'.heap.size ∧ (partsL ps x.dst).length ≤ cap ∧ cap ≤ 9223372036854775807 ∧ Hd w' g (partsL ps x.dst) ∧ Kept No w w' := by
  have hl := hc.len
  have hcap := hc.cap
  have hmax := hc.max
  have hkl : k < L.length := (List.getElem?_eq_some_iff.1 hk).1
  obtain ⟨b, o, cs, rfl, hF, hcl, hr, ⟨ta, tn, tc, hcs, hT⟩, hok⟩ := hc.at' k _ hk
  have hm1 : decide ((k : Int) + 1 < 1) = false := by simp; omega
  have hm2 : decide ((n : Int) < (k : Int) + 1) = false := by simp; omega
  have y0 : w.cell? ⟨b, o + k * 5, none⟩ = some (.int .i64 x.kd) := hr 0 _ (by rw [hcs]; rfl)
  have y1 : w.cell? ⟨b, o + k * 5 + 1, none⟩ = some (.int .i64 x.fr) := hr 1 _ (by rw [hcs]; rfl)
  have y2 : w.cell? ⟨b, o + k * 5 + 2, none⟩ = some (.slice ta tn tc) := hr 2 _ (by rw [hcs]; rfl)
  have y3 : w.cell? ⟨b, o + k * 5 + 3, none⟩ = some (.int .i64 x.ph) := hr 3 _ (by rw [hcs]; rfl)
  have y4 : w.cell? ⟨b, o + k * 5 + 4, none⟩ = some (.int .i64 x.pe) := hr 4 _ (by rw [hcs]; rfl)
  obtain ⟨K1, hK1⟩ : ∃ w1, w1 = w.alloc (.cells #[.slice a0 n0 c0, .slice a1 n1 c1, .slice (some ⟨b, o, none⟩) n c] 26) := ⟨_, rfl⟩
  have k1 : Kept No w (w.alloc (.cells #[.slice a0 n0 c0, .slice a1 n1 c1, .slice (some ⟨b, o, none⟩) n c] 26)) := (Kept.refl No w).alloc _
  have z0 := k1.cell y0 (fun h => h)
  have z1 := k1.cell y1 (fun h => h)
  have z2 := k1.cell y2 (fun h => h)
  have z3 := k1.cell y3 (fun h => h)
  have z4 := k1.cell y4 (fun h => h)
  have htn := hT.len
  have htm := hT.max
  have htc := hT.cap
  have HH : Hid (Ls 6 elPo w F a1 n1 c1 ps ∧ Ls 1 elI w F ta tn tc x.dst ∧ okCh x) := ⟨hq, hT, hok⟩
  obtain ⟨PV, hPV⟩ : ∃ PV, PV = partV ps x.fr := ⟨_, rfl⟩
  obtain ⟨PL, hPL⟩ : ∃ PL, PL = partsL ps x.dst := ⟨_, rfl⟩
  rw [← hPV, ← hPL]
  have HPP : Hid (PV = partV ps x.fr ∧ PL = partsL ps x.dst) := ⟨hPV, hPL⟩
  clear hPV hPL
  clear hc hr hcs hT hok hq K1 hK1 y0 y1 y2 y3 y4 k1
  go_enter Tryz.func9, Tryz.ntmps9
  go_upto_region 5 with fail
  have H2 : Hid (((w.alloc (.cells #[.slice a0 n0 c0, .slice a1 n1 c1, .slice (some ⟨b, o, none⟩) n c] 26)).alloc (.cells #[.int .i64 x.kd, .int .i64 x.fr, .slice ta tn tc, .int .i64 x.ph, .int .i64 x.pe] 39)).heap[w.heap.size]? = some (.cells #[.slice a0 n0 c0, .slice a1 n1 c1, .slice (some ⟨b, o, none⟩) n c] 26) ∧ ((w.alloc (.cells #[.slice a0 n0 c0, .slice a1 n1 c1, .slice (some ⟨b, o, none⟩) n c] 26)).alloc (.cells #[.int .i64 x.kd, .int .i64 x.fr, .slice ta tn tc, .int .i64 x.ph, .int .i64 x.pe] 39)).heap[w.heap.size + 1]? = some (.cells #[.int .i64 x.kd, .int .i64 x.fr, .slice ta tn tc, .int .i64 x.ph, .int .i64 x.pe] 39) ∧ Kept No w ((w.alloc (.cells #[.slice a0 n0 c0, .slice a1 n1 c1, .slice (some ⟨b, o, none⟩) n c] 26)).alloc (.cells #[.int .i64 x.kd, .int .i64 x.fr, .slice ta tn tc, .int .i64 x.ph, .int .i64 x.pe] 39))) := by
    have q1 : Kept No w (w.alloc (.cells #[.slice a0 n0 c0, .slice a1 n1 c1, .slice (some ⟨b, o, none⟩) n c] 26)) := (Kept.refl No w).alloc _
    have q2 : Kept No (w.alloc (.cells #[.slice a0 n0 c0, .slice a1 n1 c1, .slice (some ⟨b, o, none⟩) n c] 26)) ((w.alloc (.cells #[.slice a0 n0 c0, .slice a1 n1 c1, .slice (some ⟨b, o, none⟩) n c] 26)).alloc (.cells #[.int .i64 x.kd, .int .i64 x.fr, .slice ta tn tc, .int .i64 x.ph, .int .i64 x.pe] 39)) := (Kept.refl No _).alloc _
    have b2 := alloc_new (w.alloc (.cells #[.slice a0 n0 c0, .slice a1 n1 c1, .slice (some ⟨b, o, none⟩) n c] 26)) (.cells #[.int .i64 x.kd, .int .i64 x.fr, .slice ta tn tc, .int .i64 x.ph, .int .i64 x.pe] 39)
    rw [World.size_alloc] at b2
    exact ⟨q2.at' (alloc_new w _) (fun h => h), b2, q1.trans q2 (fun _ h => .inl h)⟩
  clear z0 z1 z2 z3 z4
  generalize hw2 : ((w.alloc (.cells #[.slice a0 n0 c0, .slice a1 n1 c1, .slice (some ⟨b, o, none⟩) n c] 26)).alloc (.cells #[.int .i64 x.kd, .int .i64 x.fr, .slice ta tn tc, .int .i64 x.ph, .int .i64 x.pe] 39)) = w2 at *
  clear hw2
  obtain ⟨B, hB⟩ : ∃ B, w.heap.size = B := ⟨_, rfl⟩
  have HB := hid hB
  rw [hB] at H2 ⊢
  clear hB
  obtain ⟨d0, d1, d2, d3, d4⟩ := five H2.out.2.1
  generalize x.kd = X0 at *
  generalize x.ph = X3 at *
  generalize x.pe = X4 at *
  generalize hX1 : x.fr = X1 at *
  have HX1 := hid hX1
  clear hX1
  go_wp2
  clear d0 d1 d2 d3 d4
  go_loopw [8, 29] (fun v i wr => ∃ (j : Nat) (va : Option Addr) (vc : Nat), j ≤ tn ∧ i = .int .i64 j ∧ v = .slice va j vc ∧ wr.ownsRow (B + 2) 3 1 (.slice va j vc) j (((x.dst.take j).map (partV ps)).map iv) ∧ wr.heap[B]? = some (.cells #[.slice a0 n0 c0, .slice a1 n1 c1, .slice (some ⟨b, o, none⟩) n c] 26) ∧ wr.heap[B + 1]? = some (.cells #[.int .i64 X0, .int .i64 X1, .slice ta tn tc, .int .i64 X3, .int .i64 X4] 39) ∧ Kept No w wr ∧ B + 2 ≤ wr.heap.size) (fun _ i _ => tn - (intOf i).toNat)
  case atStart =>
    refine ⟨0, none, 0, by omega, rfl, rfl, World.ownsRow_nil _ _ _ _, H2.out.1, H2.out.2.1, H2.out.2.2, ?_⟩
    have := heap_lt H2.out.2.1; omega
  case round =>
    obtain ⟨j, va, vc, hj, rfl, rfl, own, hb0, hb1, K, hsz⟩ := hrel
    by_cases hlt : j < tn
    · have hjx : j < x.dst.length := by omega
      obtain ⟨tb, tof, tcs, rfl, hFt, _, htr, rfl, hti⟩ := HH.out.2.1.at' j _ (List.getElem?_eq_getElem hjx)
      have dt : wr.cell? ⟨tb, tof + j, none⟩ = some (.int .i64 x.dst[j]) := by
        have := K.cell (htr 0 _ rfl) (fun h => h)
        rw [Nat.mul_one, Nat.add_zero] at this
        exact this
      obtain ⟨e0, e1, e2⟩ := three hb0
      have cP := partOf_any (a0 := a0) (n0 := n0) (c0 := c0) (a2 := some ⟨b, o, none⟩) (n2 := n) (c2 := c) x.dst[j] hti wr (HH.out.1.kept K (fun _ _ h => h) (elPo_kept K (fun _ _ h => h)))
      have ht1 : x.dst.take (j + 1) = x.dst.take j ++ [x.dst[j]] := by rw [List.take_add_one, List.getElem?_eq_getElem hjx]; rfl
      have hst : ((x.dst.take (j + 1)).map (partV ps)).map iv = ((x.dst.take j).map (partV ps)).map iv ++ [iv (partV ps x.dst[j])] := by
        rw [ht1, List.map_append, List.map_append]; rfl
      clear ht1
      have HO : Hid (wr.ownsRow (B + 2) 3 1 (.slice va j vc) j (((x.dst.take j).map (partV ps)).map iv) ∧ wr.heap[B]? = some (.cells #[.slice a0 n0 c0, .slice a1 n1 c1, .slice (some ⟨b, o, none⟩) n c] 26) ∧ wr.heap[B + 1]? = some (.cells #[.int .i64 X0, .int .i64 X1, .slice (some ⟨tb, tof, none⟩) tn tc, .int .i64 X3, .int .i64 X4] 39) ∧ Kept No w wr ∧ B + 2 ≤ wr.heap.size ∧ ((x.dst.take (j + 1)).map (partV ps)).map iv = ((x.dst.take j).map (partV ps)).map iv ++ [iv (partV ps x.dst[j])]) := ⟨own, hb0, hb1, K, hsz, hst⟩
      have hltz : (j : Int) < (tn : Int) := by omega
      clear own hb0 hb1 K htr hti hst
      generalize x.dst[j] = T at *
      generalize hV : partV ps T = V at *
      clear hV
      generalize ((x.dst.take j).map (partV ps)).map iv = us at *
      go_wp2_with (first
        | (go_at_call 22; refine cP.mono ?_; rintro e w3 ⟨rfl, k3⟩; have AP : Hid ((w3.alloc (.cells #[.int .i64 V] 3)).ownsRow (B + 2) 3 1 (.slice va j vc) j us ∧ B + 2 ≤ (w3.alloc (.cells #[.int .i64 V] 3)).heap.size ∧ (w3.alloc (.cells #[.int .i64 V] 3)).cell? ⟨w3.heap.size, 0, none⟩ = some (.int .i64 V) ∧ Kept No wr (w3.alloc (.cells #[.int .i64 V] 3))) := ⟨(k3.owns HO.out.1 (fun _ _ h => h)).alloc _, (by have := k3.size; have := HO.out.2.2.2.2.1; rw [World.size_alloc]; omega), one (alloc_new w3 _), k3.alloc _⟩; clear k3 cP)
        | (at_builtin; refine wpList_app1 rfl _ _ 28 3 rfl _ 8 Tryz.underlying28 Tryz.infoI rfl (B + 2) (.slice va j vc) j us rfl AP.out.1 AP.out.2.1 ⟨w3.heap.size, 0, none⟩ 1 (.int .i64 V) rfl AP.out.2.2.1 rfl (by omega) (by unfold maxLen; omega) ?_; intro ya yc wa own1 gr1 lo1))
      go_roundw
      case rel =>
        have KA : Kept No w wa := (HO.out.2.2.2.1.trans AP.out.2.2.2 (fun _ h => .inl h)).grown gr1.out (fun q hq => .inr (by have := (owns_at AP.out.1 hq).1; have := HB.out; omega))
        have KW : Kept (fun q => (Value.slice va j vc).ownBlock = some q) wr wa := (AP.out.2.2.2.mono (fun _ h => h.elim)).grown gr1.out (fun q hq => .inl hq)
        have far : ∀ q, q < B + 2 → ¬ (Value.slice va j vc).ownBlock = some q := fun q hq e => by have := (owns_at AP.out.1 e).1; omega
        exact ⟨j + 1, ya, yc, by omega, by go_num, rfl, by rw [HO.out.2.2.2.2.2]; exact own1.out, KW.at' HO.out.2.1 (far B (by omega)), KW.at' HO.out.2.2.1 (far (B + 1) (by omega)), KA, by have := KW.size; have := HO.out.2.2.2.2.1; omega⟩
      case measure => simp [intOf]; omega
    · have hjn : j = tn := by omega
      subst hjn
      rw [List.take_of_length_le (by omega)] at own
      have HO : Hid (wr.ownsRow (B + 2) 3 1 (.slice va j vc) j ((x.dst.map (partV ps)).map iv) ∧ wr.heap[B]? = some (.cells #[.slice a0 n0 c0, .slice a1 n1 c1, .slice (some ⟨b, o, none⟩) n c] 26) ∧ wr.heap[B + 1]? = some (.cells #[.int .i64 X0, .int .i64 X1, .slice ta j tc, .int .i64 X3, .int .i64 X4] 39) ∧ Kept No w wr ∧ B + 2 ≤ wr.heap.size) := ⟨own, hb0, hb1, K, hsz⟩
      have hltz : ¬ (j : Int) < (j : Int) := by omega
      clear own hb0 hb1 K
      go_upto_region 10 with fail
      by_cases hz : j = 0
      · have hz' : ((j : Int) == 0) = true := by simp; omega
        have kz : Kept No wr (wr.alloc (.cells #[.int .i64 0] 3)) := (Kept.refl No wr).alloc _
        have hdz : Hd (wr.alloc (.cells #[.int .i64 0] 3)) wr.heap.size [0] := fun i hi => by
          have hi0 : i = 0 := by simp at hi; omega
          subst hi0
          have hn := alloc_new wr (.cells #[.int .i64 0] 3)
          exact ⟨by rw [Nat.zero_add]; exact one hn, by rw [Nat.zero_add]; exact fz_blk hn 0⟩
        have TP : Hid (Hd (wr.alloc (.cells #[.int .i64 0] 3)) wr.heap.size [0] ∧ wr.heap.size < (wr.alloc (.cells #[.int .i64 0] 3)).heap.size ∧ B + 2 ≤ wr.heap.size ∧ (wr.alloc (.cells #[.int .i64 0] 3)).heap[B]? = some (.cells #[.slice a0 n0 c0, .slice a1 n1 c1, .slice (some ⟨b, o, none⟩) n c] 26) ∧ (wr.alloc (.cells #[.int .i64 0] 3)).heap[B + 1]? = some (.cells #[.int .i64 X0, .int .i64 X1, .slice ta j tc, .int .i64 X3, .int .i64 X4] 39) ∧ Kept No w (wr.alloc (.cells #[.int .i64 0] 3))) := ⟨hdz, by simp, HO.out.2.2.2.2, kz.at' HO.out.2.1 (fun h => h), kz.at' HO.out.2.2.1 (fun h => h), HO.out.2.2.2.1.trans kz (fun _ h => .inl h)⟩
        clear kz hdz
        go_upto_region 12 with fail
        generalize (wr.alloc (.cells #[.int .i64 0] 3)) = wz at *
        generalize wr.heap.size = gz at *
        have TT : Hid (Hd wz gz ([0] : List Int) ∧ gz < wz.heap.size ∧ B + 2 ≤ gz ∧ wz.heap[B]? = some (.cells #[.slice a0 n0 c0, .slice a1 n1 c1, .slice (some ⟨b, o, none⟩) n c] 26) ∧ wz.heap[B + 1]? = some (.cells #[.int .i64 X0, .int .i64 X1, .slice ta j tc, .int .i64 X3, .int .i64 X4] 39) ∧ Kept No w wz ∧ 1 ≤ 1 ∧ 1 ≤ 9223372036854775807 ∧ toL ps x.dst = [0]) := ⟨TP.out.1, TP.out.2.1, TP.out.2.2.1, TP.out.2.2.2.1, TP.out.2.2.2.2.1, TP.out.2.2.2.2.2, by omega, by omega, by unfold toL; rw [if_pos (by omega)]⟩
        clear HO H2
        have cS := sort_any gz 1 ([0] : List Int) wz TT.out.1 TT.out.2.1 (by first | (simp; done) | (simp; omega))
        rw [show ([0] : List Int).length = 1 from by first | rfl | (simp; done) | (simp; omega)] at cS
        obtain ⟨e0, e1, e2⟩ := three TT.out.2.2.2.1
        go_wp2_with (first
          | (go_at_call 23; refine cS.mono ?_; rintro e w5 ⟨rfl, hd5, k5⟩; have KW5 := TT.out.2.2.2.2.2.1.trans k5 (fun q hq => .inr (by have := TT.out.2.2.1; have := HB.out; omega)); have T5 : Hid (Hd w5 gz (sortL ([0] : List Int)) ∧ gz < w5.heap.size ∧ Kept No w w5 ∧ w5.heap[B]? = some (.cells #[.slice a0 n0 c0, .slice a1 n1 c1, .slice (some ⟨b, o, none⟩) n c] 26) ∧ w5.heap[B + 1]? = some (.cells #[.int .i64 X0, .int .i64 X1, .slice ta j tc, .int .i64 X3, .int .i64 X4] 39)) := ⟨hd5, (by have := k5.size; have := TT.out.2.1; omega), KW5, k5.at' TT.out.2.2.2.1 (fun h => by have := TT.out.2.2.1; omega), k5.at' TT.out.2.2.2.2.1 (fun h => by have := TT.out.2.2.1; omega)⟩; clear hd5 k5 KW5 cS; obtain ⟨f0, f1, f2⟩ := three T5.out.2.2.2.1; obtain ⟨g0, g1, g2, g3, g4⟩ := five T5.out.2.2.2.2; have cP := partOf_any (a0 := a0) (n0 := n0) (c0 := c0) (a2 := some ⟨b, o, none⟩) (n2 := n) (c2 := c) X1 (by rw [← HX1.out]; exact HH.out.2.2.2.1) w5 (HH.out.1.kept T5.out.2.2.1 (fun _ _ h => h) (elPo_kept T5.out.2.2.1 (fun _ _ h => h))))
          | (go_at_call 22; refine cP.mono ?_; rintro e w6 ⟨rfl, k6⟩; have T6 : Hid (Hd w6 gz (sortL ([0] : List Int)) ∧ gz < w6.heap.size ∧ Kept No w w6) := ⟨T5.out.1.kept k6 (fun h => h) T5.out.2.1, (by have := k6.size; have := T5.out.2.1; omega), T5.out.2.2.1.trans k6 (fun _ h => .inl h)⟩; clear k6 cP; have cC := compact_any gz 1 (sortL ([0] : List Int)) w6 T6.out.1 (by unfold sortL; first | (simp; done) | (simp; omega)) (by have := TT.out.2.2.2.2.2.2.1; unfold sortL; first | (simp; done) | (simp; omega)); rw [show (sortL ([0] : List Int)).length = 1 from by unfold sortL; first | (simp; done) | (simp; omega)] at cC)
          | (go_at_call 24; refine cC.mono ?_; rintro e w7 ⟨rfl, hd7, k7⟩; have T7 : Hid (Hd w7 gz (Lib.compact (sortL ([0] : List Int))) ∧ gz < w7.heap.size ∧ Kept No w w7) := ⟨hd7, (by have := k7.size; have := T6.out.2.1; omega), T6.out.2.2.trans k7 (fun q hq => .inr (by have := TT.out.2.2.1; have := HB.out; omega))⟩; clear hd7 k7 cC))
        go_ret3
        have ePL : PL = Lib.compact (sortL ([0] : List Int)) := by rw [HPP.out.2]; unfold partsL; rw [TT.out.2.2.2.2.2.2.2.2]
        refine ⟨gz, 1, by rw [ePL, HPP.out.1]; rfl, by have := TT.out.2.2.1; have := HB.out; omega, T7.out.2.1, ?_, TT.out.2.2.2.2.2.2.2.1, by rw [ePL]; exact T7.out.1, T7.out.2.2⟩
        rw [ePL]
        have h1 := Lib.compact_length_le (sortL ([0] : List Int))
        have h2 : (sortL ([0] : List Int)).length = 1 := by unfold sortL; first | (simp; done) | (simp; omega)
        have := TT.out.2.2.2.2.2.2.1
        omega
      · have hz' : ((j : Int) == 0) = false := by simp; omega
        have hne : x.dst.map (partV ps) ≠ [] := fun e => by
          have h9 := congrArg List.length e
          rw [List.length_map] at h9
          simp at h9
          have h8 : x.dst.length = 0 := by rw [h9]; rfl
          omega
        go_upto_region 12 with fail
        obtain ⟨gz, cz, hv, hgB, hgl, hgc, hgm, hdz⟩ := Hd.of_owns HO.out.1 hne
        injection hv with hv1 hv2 hv3
        subst hv1 hv3
        clear hv2
        have TT : Hid (Hd wr gz (x.dst.map (partV ps)) ∧ gz < wr.heap.size ∧ B + 2 ≤ gz ∧ wr.heap[B]? = some (.cells #[.slice a0 n0 c0, .slice a1 n1 c1, .slice (some ⟨b, o, none⟩) n c] 26) ∧ wr.heap[B + 1]? = some (.cells #[.int .i64 X0, .int .i64 X1, .slice ta j tc, .int .i64 X3, .int .i64 X4] 39) ∧ Kept No w wr ∧ j ≤ vc ∧ vc ≤ 9223372036854775807 ∧ toL ps x.dst = x.dst.map (partV ps)) := ⟨hdz, hgl, hgB, HO.out.2.1, HO.out.2.2.1, HO.out.2.2.2.1, by simp at hgc; omega, hgm, by unfold toL; rw [if_neg (by omega)]⟩
        clear HO H2
        have cS := sort_any gz vc (x.dst.map (partV ps)) wr TT.out.1 TT.out.2.1 (by first | (simp; done) | (simp; omega))
        rw [show (x.dst.map (partV ps)).length = j from by first | rfl | (simp; done) | (simp; omega)] at cS
        obtain ⟨e0, e1, e2⟩ := three TT.out.2.2.2.1
        go_wp2_with (first
          | (go_at_call 23; refine cS.mono ?_; rintro e w5 ⟨rfl, hd5, k5⟩; have KW5 := TT.out.2.2.2.2.2.1.trans k5 (fun q hq => .inr (by have := TT.out.2.2.1; have := HB.out; omega)); have T5 : Hid (Hd w5 gz (sortL (x.dst.map (partV ps))) ∧ gz < w5.heap.size ∧ Kept No w w5 ∧ w5.heap[B]? = some (.cells #[.slice a0 n0 c0, .slice a1 n1 c1, .slice (some ⟨b, o, none⟩) n c] 26) ∧ w5.heap[B + 1]? = some (.cells #[.int .i64 X0, .int .i64 X1, .slice ta j tc, .int .i64 X3, .int .i64 X4] 39)) := ⟨hd5, (by have := k5.size; have := TT.out.2.1; omega), KW5, k5.at' TT.out.2.2.2.1 (fun h => by have := TT.out.2.2.1; omega), k5.at' TT.out.2.2.2.2.1 (fun h => by have := TT.out.2.2.1; omega)⟩; clear hd5 k5 KW5 cS; obtain ⟨f0, f1, f2⟩ := three T5.out.2.2.2.1; obtain ⟨g0, g1, g2, g3, g4⟩ := five T5.out.2.2.2.2; have cP := partOf_any (a0 := a0) (n0 := n0) (c0 := c0) (a2 := some ⟨b, o, none⟩) (n2 := n) (c2 := c) X1 (by rw [← HX1.out]; exact HH.out.2.2.2.1) w5 (HH.out.1.kept T5.out.2.2.1 (fun _ _ h => h) (elPo_kept T5.out.2.2.1 (fun _ _ h => h))))
          | (go_at_call 22; refine cP.mono ?_; rintro e w6 ⟨rfl, k6⟩; have T6 : Hid (Hd w6 gz (sortL (x.dst.map (partV ps))) ∧ gz < w6.heap.size ∧ Kept No w w6) := ⟨T5.out.1.kept k6 (fun h => h) T5.out.2.1, (by have := k6.size; have := T5.out.2.1; omega), T5.out.2.2.1.trans k6 (fun _ h => .inl h)⟩; clear k6 cP; have cC := compact_any gz vc (sortL (x.dst.map (partV ps))) w6 T6.out.1 (by unfold sortL; first | (simp; done) | (simp; omega)) (by have := TT.out.2.2.2.2.2.2.1; unfold sortL; first | (simp; done) | (simp; omega)); rw [show (sortL (x.dst.map (partV ps))).length = j from by unfold sortL; first | (simp; done) | (simp; omega)] at cC)
          | (go_at_call 24; refine cC.mono ?_; rintro e w7 ⟨rfl, hd7, k7⟩; have T7 : Hid (Hd w7 gz (Lib.compact (sortL (x.dst.map (partV ps)))) ∧ gz < w7.heap.size ∧ Kept No w w7) := ⟨hd7, (by have := k7.size; have := T6.out.2.1; omega), T6.out.2.2.trans k7 (fun q hq => .inr (by have := TT.out.2.2.1; have := HB.out; omega))⟩; clear hd7 k7 cC))
        go_ret3
        have ePL : PL = Lib.compact (sortL (x.dst.map (partV ps))) := by rw [HPP.out.2]; unfold partsL; rw [TT.out.2.2.2.2.2.2.2.2]
        refine ⟨gz, vc, by rw [ePL, HPP.out.1]; rfl, by have := TT.out.2.2.1; have := HB.out; omega, T7.out.2.1, ?_, TT.out.2.2.2.2.2.2.2.1, by rw [ePL]; exact T7.out.1, T7.out.2.2⟩
        rw [ePL]
        have h1 := Lib.compact_length_le (sortL (x.dst.map (partV ps)))
        have h2 : (sortL (x.dst.map (partV ps))).length = j := by unfold sortL; first | (simp; done) | (simp; omega)
        have := TT.out.2.2.2.2.2.2.1
        omega
end Go.Proofs.YtfjaajjljmbmbaaGreatDoor
