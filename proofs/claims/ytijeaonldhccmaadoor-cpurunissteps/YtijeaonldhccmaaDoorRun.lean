/-
  cpu.Run.
-/
import Derived.Test.YtijeaonldhccmaaDoorRunP
import Derived.Test.YtijeaonldhccmaaDoorDoes
import Derived.Deep.DeepCutAuto
import Derived.WalkSmall
namespace Go.Proofs.YtijeaonldhccmaaDoor
open Go.RowKit
set_option linter.unusedVariables false

/-- what lies in the memory in a run: the effect, the words -/
structure Rs (w0 w : World) (R0 : Nat → Int) (a : Option Addr) (n c : Nat) (E : Ef) (ms : List Int) : Prop where
  fr : Fr w0 w R0 E.R E.pc E.st E.ad E.va E.fa E.ca
  mm : Mm w (w0.heap.size + 1 + 1 + 1) (.slice a n c) ms []
  len : ms.length = n
theorem Rs.step {w0 w w' : World} {R0 : Nat → Int} {a : Option Addr} {n c : Nat} {E E' : Ef} {ms : List Int} (h : Rs w0 w R0 a n c E ms) (b : Below w.heap.size w w') : Rs w0 (w'.setRow (w0.heap.size + 1 + 1) (effC E'.R E'.pc E'.st E'.ad E'.va E'.fa E'.ca)) R0 a n c E' ms := by
  have f1 := h.fr.grow b h.fr.lt2
  refine ⟨f1.row E'.R E'.pc E'.st E'.ad E'.va E'.fa E'.ca, ?_, h.len⟩
  have m1 := h.mm.kept (Kept.of_below (F := No) b) (fun _ _ h => h)
  exact m1.kept (kept_setRow _ _ _) (fun g hg e => by have := m1.ge hg; omega)
theorem Rs.store {w0 w w' : World} {R0 : Nat → Int} {a : Option Addr} {n c : Nat} {E : Ef} {ms ms' : List Int} (h : Rs w0 w R0 a n c E ms) (m : Mm w' (w0.heap.size + 1 + 1 + 1) (.slice a n c) ms' []) (k : Kept (fun k => (Value.slice a n c).ownBlock = some k) w w') (hl : ms'.length = n) : Rs w0 w' R0 a n c E ms' :=
  ⟨h.fr.kept k (fun g hg => by have := h.mm.ge hg; omega), m, hl⟩

theorem owns_mono {w : World} {B B' : Nat} {e : TypeId} {size : Nat} {v : Value} {n : Nat} {xs : List Value} (h : w.ownsRow B e size v n xs) (hB : B' ≤ B) : w.ownsRow B' e size v n xs := by
  refine ⟨h.1, ?_⟩
  rcases h.2 with h1 | ⟨g, cap, cur, hv, hb, r⟩
  · exact .inl h1
  · exact .inr ⟨g, cap, cur, hv, Nat.le_trans hB hb, r⟩
theorem Rs.done {w0 w : World} {R0 : Nat → Int} {a : Option Addr} {n c : Nat} {E : Ef} {ms : List Int} (h : Rs w0 w R0 a n c E ms) (cs : Array Value) : (w.setRow (w0.heap.size + 1) cs).ownsRow w0.heap.size 2 1 (.slice a n c) n (ms.map iv) ∧ Below w0.heap.size w0 (w.setRow (w0.heap.size + 1) cs) := by
  refine ⟨?_, h.fr.outBel cs⟩
  have m1 := h.mm.kept (kept_setRow w (w0.heap.size + 1) cs) (fun g hg e => by have := h.mm.ge hg; omega)
  have := owns_mono m1.owns (B' := w0.heap.size) (by omega)
  rw [h.len] at this
  exact this

set_option maxHeartbeats 2000000 in
set_option maxRecDepth 100000 in
theorem run_any (F G : Nat → Prop) (R : Nat → Int) (p m : Option Addr) (n cc mn mc : Nat) (fx pc most : Int) (xs : List Ins) (ms : List Int) (w : World) (hc : Cs w F p n cc xs) (hz : Zs w G m mn mc ms) (hO : Ops w) (hmn : mn ≤ 17592186043904) (hmost : most ≤ 6000) :
    Calls Tryd.prog 17 #[.slice p n cc, .slice m mn mc, .int .i64 fx, regV R, .int .i64 pc, .int .i64 most] w fun ex w' =>
      ∃ v, ex = .returned (.tuple #[(runN xs fx most.toNat (⟨R, pc, false, 0, 0, 0, 0⟩, ms)).1.1.v, v, .int .i64 (runN xs fx most.toNat (⟨R, pc, false, 0, 0, 0, 0⟩, ms)).2]) ∧ w'.ownsRow w.heap.size 2 1 v mn ((runN xs fx most.toNat (⟨R, pc, false, 0, 0, 0, 0⟩, ms)).1.2.map iv) ∧ Below w.heap.size w w' := by
  have F0 := fr_newb w R pc
  have HG2 := heap_second w (.cells (regC R) 25) (.cells (effC zeroR 0 false 0 0 0 0) 27)
  obtain ⟨r, hr⟩ : ∃ r, r = runN xs fx most.toNat (⟨R, pc, false, 0, 0, 0, 0⟩, ms) := ⟨_, rfl⟩
  rw [← hr]
  have HI : Hid (∀ j s, Inv xs fx most.toNat (⟨R, pc, false, 0, 0, 0, 0⟩, ms) j s → (most.toNat ≤ j ∨ onR s = false) → r = (s, j)) := (fun j s h1 h2 => by rw [hr]; exact h1.stop h2)
  have HC : Hid (Cs w F p n cc xs) := hc
  have HZ : Hid (Zs w G m mn mc ms) := hz
  have HOO : Hid (Ops w) := hO
  have hcap := hz.cap
  have hmax := hz.max
  have hnn := hc.cap
  have hnm := hc.max
  clear hr hc hz hO
  go_enter Tryd.func17, Tryd.ntmps17
  go_upto_region 1 with (first
    | (refine wl_box25 _ rfl rfl R rfl ?_)
    | (refine wl_alloc27 rfl rfl ?_))
  go_upto_region 2 with (first
    | (refine wl_load25 _ rfl rfl R w.heap.size rfl HG2 ?_)
    | (refine wl_build27b _ _ rfl rfl R pc rfl rfl ?_)
    | (refine wl_alloc27 rfl rfl ?_)
    | (refine wl_store27 _ _ rfl rfl R pc false 0 0 0 0 _ _ rfl rfl (heap_alloc_last _ _) rfl ?_; rw [World.setRow_alloc_new]))
  generalize hw1 : (((w.alloc (.cells (regC R) 25)).alloc (.cells (effC zeroR 0 false 0 0 0 0) 27)).alloc (.cells (effC R pc false 0 0 0 0) 27)) = w1 at F0 ⊢
  have hs1 : w1.heap.size = w.heap.size + 1 + 1 + 1 := by rw [← hw1]; simp
  simp only [World.size_alloc]
  clear HG2 hw1
  have cR := read_yes G 0 mn m mn mc ms w1 (HZ.out.kept (Kept.of_below (F := No) F0.bel) (fun _ _ h => h)) hmn (wi_iff.2 (by omega))
  rw [show rdX ms 0 mn = ms by unfold rdX; rw [show (0 : Int).toNat = 0 from rfl, List.drop_zero, Int.toNat_natCast, List.take_of_length_le (by rw [HZ.out.len]; exact Nat.le_refl _)], HZ.out.len, hs1] at cR
  have HF0 : Hid (Fr w w1 R R pc false 0 0 0 0) := F0
  clear F0 hs1
  go_wp2_with (go_at_call 29; refine cR.mono ?_; rintro ex w2 ⟨v, rfl, own2, kp2⟩; have MM : Hid (Mm w2 (w.heap.size + 1 + 1 + 1) v ms []) := (Mm.of_owns (by rw [HZ.out.len]; exact own2)); obtain ⟨a2, c2, hv2, hz2⟩ := MM.out.zs; rw [HZ.out.len] at hv2; subst hv2; have RS : Hid (Rs w w2 R a2 mn c2 ⟨R, pc, false, 0, 0, 0, 0⟩ ms) := ⟨HF0.out.grow kp2.below0 HF0.out.lt2, MM.out, HZ.out.len⟩; have hcap2 := hz2.cap; have hmax2 := hz2.max; rw [HZ.out.len] at hcap2; clear own2 kp2 hz2)
  go_loopw [18] (fun d wr => ∃ (j : Nat) (E : Ef) (ms' : List Int), d = .int .i64 j ∧ j ≤ most.toNat ∧ Rs w wr R a2 mn c2 E ms' ∧ Inv xs fx most.toNat (⟨R, pc, false, 0, 0, 0, 0⟩, ms) j (E, ms')) (fun d _ => most.toNat - (intOf d).toNat)
  case atStart => exact ⟨0, _, _, rfl, by omega, RS.out, Inv.zero _ _ _ _⟩
  case round =>
    obtain ⟨j, E, ms', rfl, hj, hrs, hinv⟩ := hrel
    obtain ⟨e16, e17, e18, e19, e20, e21, _⟩ := c21 hrs.fr.eff
    have HRS : Hid (Rs w wr R a2 mn c2 E ms') := hrs
    have HINV : Hid (Inv xs fx most.toNat (⟨R, pc, false, 0, 0, 0, 0⟩, ms) j (E, ms')) := hinv
    have RE := range_eff hrs.fr.eff
    clear hrs hinv
    have fin : ∀ (h : most.toNat ≤ j ∨ onR (E, ms') = false), r = ((E, ms'), j) := fun h => HI.out j _ HINV.out h
    have HFIN : Hid (∀ (h : most.toNat ≤ j ∨ onR (E, ms') = false), r = ((E, ms'), j)) := fin
    clear fin
    by_cases hlt : (j : Int) < most
    · by_cases hfa : E.fa = 0
      · have g1 : (E.fa == 0) = true := by simpa using hfa
        by_cases hca : E.ca = 0
        · have g2 : (E.ca == 0) = true := by simpa using hca
          have hon : Hid (onR (E, ms') = true) := (show onR (E, ms') = true by unfold onR; simp [hfa, hca])
          obtain ⟨az, cz, hvz, hzz⟩ := HRS.out.mm.zs
          rw [HRS.out.len] at hvz hzz
          injection hvz with h1 h2 h3
          subst h1 h3
          have cS := step_any F _ E.R p a2 n cc mn c2 fx E.pc xs ms' wr (HC.out.kept (Kept.of_below (F := No) HRS.out.fr.bel) (fun _ _ h => h)) hzz (HOO.out.below HRS.out.fr.bel HOO.out.pos)
          obtain ⟨E', hE'⟩ : ∃ E', E' = stepE xs ms' fx E.R E.pc := ⟨_, rfl⟩
          rw [← hE'] at cS
          have HE' : Hid (E' = stepE xs ms' fx E.R E.pc) := hE'
          unfold Ef.v at cS
          clear hE' hzz hfa hca h2
          go_upto_region 6 with (first
            | (refine wg_load25 _ rfl rfl (w.heap.size + 1 + 1) 0 E.R rfl RE ?_)
            | (go_at_call 12; refine cS.mono ?_; rintro ex w3 ⟨rfl, b3⟩; have RS3 : Hid (Rs w (w3.setRow (w.heap.size + 1 + 1) (effC E'.R E'.pc E'.st E'.ad E'.va E'.fa E'.ca)) R a2 mn c2 E' ms') := HRS.out.step b3; have heff := (b3.block _ HRS.out.fr.lt2).trans HRS.out.fr.eff)
            | (refine wl_store27 _ _ rfl rfl E'.R E'.pc E'.st E'.ad E'.va E'.fa E'.ca (w.heap.size + 1 + 1) _ rfl rfl heff rfl ?_))
          generalize w3.setRow (w.heap.size + 1 + 1) (effC E'.R E'.pc E'.st E'.ad E'.va E'.fa E'.ca) = w4 at RS3 ⊢
          clear heff cS RE e16 e17 e18 e19 e20 e21 b3
          obtain ⟨e16, e17, e18, e19, e20, e21, _⟩ := c21 RS3.out.fr.eff
          have hstR : Hid (stR xs fx (E, ms') = (E', if E'.st = true then wrX ms' fx E'.ad [E'.va] else ms')) := (show _ = _ by unfold stR; dsimp only; rw [← HE'.out])
          cases hst : E'.st with
          | false =>
            rw [hst] at e17
            have hs2 : Hid (stR xs fx (E, ms') = (E', ms')) := (show _ = _ by rw [hstR.out, hst]; rfl)
            go_wp2
            go_roundw
            case rel => exact ⟨j + 1, E', ms', by go_num, by omega, RS3.out, by have := HINV.out.go (by omega) hon.out; rw [hs2.out] at this; exact this⟩
            case measure => simp [intOf]; omega
          | true =>
            rw [hst] at e17
            have hs2 : Hid (stR xs fx (E, ms') = (E', wrX ms' fx E'.ad [E'.va])) := (show _ = _ by rw [hstR.out, hst]; rfl)
            have cM := store_any (w.heap.size + 1 + 1 + 1) fx E'.ad E'.va a2 mn c2 ms' [] w4 RS3.out.mm RS3.out.len
            go_wp2_with (go_at_call 30; refine cM.mono ?_; rintro ex w5 ⟨rfl, mm5, kp5⟩)
            go_roundw
            case rel => exact ⟨j + 1, E', wrX ms' fx E'.ad [E'.va], by go_num, by omega, RS3.out.store mm5 kp5 (by rw [wrX_length]; exact RS3.out.len), by have := HINV.out.go (by omega) hon.out; rw [hs2.out] at this; exact this⟩
            case measure => simp [intOf]; omega
        · have g2 : (E.ca == 0) = false := by simpa using hca
          have hf := HFIN.out (.inr (by unfold onR; simp [hca]))
          subst hf
          clear hfa hca
          clear HINV HFIN HI
          go_wp2_with (first
            | (refine wl_load27 _ rfl rfl E.R E.pc E.st E.ad E.va E.fa E.ca (w.heap.size + 1 + 1) rfl HRS.out.fr.eff ?_)
            | (refine wl_store27 _ _ rfl rfl E.R E.pc E.st E.ad E.va E.fa E.ca (w.heap.size + 1) _ rfl rfl HRS.out.fr.res rfl ?_))
          refine bodyPost_ret (results_cell3 rfl _ _ (w.heap.size + 1) 27 _ _ _ rfl (setRow_heap _ _ _ _ _ _ HRS.out.fr.res) Tryd.underlying27 rfl (by rw [effC_size]; exact info27)) rfl ?_
          exact ⟨_, rfl, HRS.out.done _⟩
      · have g1 : (E.fa == 0) = false := by simpa using hfa
        have hf := HFIN.out (.inr (by unfold onR; simp [hfa]))
        subst hf
        clear HINV HFIN HI
        go_wp2_with (first
          | (refine wl_load27 _ rfl rfl E.R E.pc E.st E.ad E.va E.fa E.ca (w.heap.size + 1 + 1) rfl HRS.out.fr.eff ?_)
          | (refine wl_store27 _ _ rfl rfl E.R E.pc E.st E.ad E.va E.fa E.ca (w.heap.size + 1) _ rfl rfl HRS.out.fr.res rfl ?_))
        refine bodyPost_ret (results_cell3 rfl _ _ (w.heap.size + 1) 27 _ _ _ rfl (setRow_heap _ _ _ _ _ _ HRS.out.fr.res) Tryd.underlying27 rfl (by rw [effC_size]; exact info27)) rfl ?_
        exact ⟨_, rfl, HRS.out.done _⟩
    · have hf := HFIN.out (.inl (by omega))
      subst hf
      clear HINV HFIN HI
      go_wp2_with (first
        | (refine wl_load27 _ rfl rfl E.R E.pc E.st E.ad E.va E.fa E.ca (w.heap.size + 1 + 1) rfl HRS.out.fr.eff ?_)
        | (refine wl_store27 _ _ rfl rfl E.R E.pc E.st E.ad E.va E.fa E.ca (w.heap.size + 1) _ rfl rfl HRS.out.fr.res rfl ?_))
      refine bodyPost_ret (results_cell3 rfl _ _ (w.heap.size + 1) 27 _ _ _ rfl (setRow_heap _ _ _ _ _ _ HRS.out.fr.res) Tryd.underlying27 rfl (by rw [effC_size]; exact info27)) rfl ?_
      exact ⟨_, rfl, HRS.out.done _⟩

end Go.Proofs.YtijeaonldhccmaaDoor
