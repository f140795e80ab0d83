/-
  One text: Run, RunQ, RunI, RefRun, Turned6, RunsP.
-/
import Derived.Test.YtijeaonldhccmaaDoorRunP
import Derived.Test.YtijeaonldhccmaaDoorDoes
import Derived.Deep.DeepCutAuto
import Derived.WalkSmall
import Derived.Test.YtijeaonldhccmaaDoorKeeps
import Derived.Test.YtijeaonldhccmaaDoorRefEG
import Derived.Test.YtijeaonldhccmaaDoorHangsP
import Derived.Test.YtijeaonldhccmaaDoorStepsAll
import Derived.Maps.AppendAt
import Derived.BigFrame
namespace Go.Proofs.YtijeaonldhccmaaDoor
open Go.RowKit
set_option linter.unusedVariables false

/-- what lies in the memory in a run: the effect, the words -/
structure Rs (w0 w : World) (R0 : Nat → Int) (a : Option Addr) (n c : Nat) (E : Ef) (ms : List Int) : Prop where
  fr : Fr w0 w R0 E.R E.pc E.st E.ad E.va E.fa E.ca
  mm : Mm w (w0.heap.size + 1 + 1 + 1) (.slice a n c) ms []
  len : ms.length = n
theorem Rs.step {w0 w w' : World} {R0 : Nat → Int} {a : Option Addr} {n c : Nat} {E E' : Ef} {ms : List Int} (h : Rs w0 w R0 a n c E ms) (b : Below w.heap.size w w') : Rs w0 (w'.setRow (w0.heap.size + 1 + 1) (effC E'.R E'.pc E'.st E'.ad E'.va E'.fa E'.ca)) R0 a n c E' ms := by
  have f1 := h.fr.grow b h.fr.lt2
  refine ⟨f1.row E'.R E'.pc E'.st E'.ad E'.va E'.fa E'.ca, ?_, h.len⟩
  have m1 := h.mm.kept (Kept.of_below (F := No) b) (fun _ _ h => h)
  exact m1.kept (kept_setRow _ _ _) (fun g hg e => by have := m1.ge hg; omega)
theorem Rs.store {w0 w w' : World} {R0 : Nat → Int} {a : Option Addr} {n c : Nat} {E : Ef} {ms ms' : List Int} (h : Rs w0 w R0 a n c E ms) (m : Mm w' (w0.heap.size + 1 + 1 + 1) (.slice a n c) ms' []) (k : Kept (fun k => (Value.slice a n c).ownBlock = some k) w w') (hl : ms'.length = n) : Rs w0 w' R0 a n c E ms' :=
  ⟨h.fr.kept k (fun g hg => by have := h.mm.ge hg; omega), m, hl⟩

theorem owns_mono {w : World} {B B' : Nat} {e : TypeId} {size : Nat} {v : Value} {n : Nat} {xs : List Value} (h : w.ownsRow B e size v n xs) (hB : B' ≤ B) : w.ownsRow B' e size v n xs := by
  refine ⟨h.1, ?_⟩
  rcases h.2 with h1 | ⟨g, cap, cur, hv, hb, r⟩
  · exact .inl h1
  · exact .inr ⟨g, cap, cur, hv, Nat.le_trans hB hb, r⟩
theorem Rs.done {w0 w : World} {R0 : Nat → Int} {a : Option Addr} {n c : Nat} {E : Ef} {ms : List Int} (h : Rs w0 w R0 a n c E ms) (cs : Array Value) : (w.setRow (w0.heap.size + 1) cs).ownsRow w0.heap.size 2 1 (.slice a n c) n (ms.map iv) ∧ Below w0.heap.size w0 (w.setRow (w0.heap.size + 1) cs) := by
  refine ⟨?_, h.fr.outBel cs⟩
  have m1 := h.mm.kept (kept_setRow w (w0.heap.size + 1) cs) (fun g hg e => by have := h.mm.ge hg; omega)
  have := owns_mono m1.owns (B' := w0.heap.size) (by omega)
  rw [h.len] at this
  exact this

set_option maxHeartbeats 2000000 in
set_option maxRecDepth 100000 in
theorem run_any (F G : Nat → Prop) (R : Nat → Int) (p m : Option Addr) (n cc mn mc : Nat) (fx pc most : Int) (xs : List Ins) (ms : List Int) (w : World) (hc : Cs w F p n cc xs) (hz : Zs w G m mn mc ms) (hO : Ops w) (hmn : mn ≤ 17592186043904) (hmost : most ≤ 6000) :
    Calls Tryd.prog 17 #[.slice p n cc, .slice m mn mc, .int .i64 fx, regV R, .int .i64 pc, .int .i64 most] w fun ex w' =>
      ∃ v, ex = .returned (.tuple #[(runN xs fx most.toNat (⟨R, pc, false, 0, 0, 0, 0⟩, ms)).1.1.v, v, .int .i64 (runN xs fx most.toNat (⟨R, pc, false, 0, 0, 0, 0⟩, ms)).2]) ∧ w'.ownsRow w.heap.size 2 1 v mn ((runN xs fx most.toNat (⟨R, pc, false, 0, 0, 0, 0⟩, ms)).1.2.map iv) ∧ Below w.heap.size w w' := by
  have F0 := fr_newb w R pc
  have HG2 := heap_second w (.cells (regC R) 25) (.cells (effC zeroR 0 false 0 0 0 0) 27)
  obtain ⟨r, hr⟩ : ∃ r, r = runN xs fx most.toNat (⟨R, pc, false, 0, 0, 0, 0⟩, ms) := ⟨_, rfl⟩
  rw [← hr]
  have HI : Hid (∀ j s, Inv xs fx most.toNat (⟨R, pc, false, 0, 0, 0, 0⟩, ms) j s → (most.toNat ≤ j ∨ onR s = false) → r = (s, j)) := (fun j s h1 h2 => by rw [hr]; exact h1.stop h2)
  have HC : Hid (Cs w F p n cc xs) := hc
  have HZ : Hid (Zs w G m mn mc ms) := hz
  have HOO : Hid (Ops w) := hO
  have hcap := hz.cap
  have hmax := hz.max
  have hnn := hc.cap
  have hnm := hc.max
  clear hr hc hz hO
  go_enter Tryd.func17, Tryd.ntmps17
  go_upto_region 1 with (first
    | (refine wl_box25 _ rfl rfl R rfl ?_)
    | (refine wl_alloc27 rfl rfl ?_))
  go_upto_region 2 with (first
    | (refine wl_load25 _ rfl rfl R w.heap.size rfl HG2 ?_)
    | (refine wl_build27b _ _ rfl rfl R pc rfl rfl ?_)
    | (refine wl_alloc27 rfl rfl ?_)
    | (refine wl_store27 _ _ rfl rfl R pc false 0 0 0 0 _ _ rfl rfl (heap_alloc_last _ _) rfl ?_; rw [World.setRow_alloc_new]))
  generalize hw1 : (((w.alloc (.cells (regC R) 25)).alloc (.cells (effC zeroR 0 false 0 0 0 0) 27)).alloc (.cells (effC R pc false 0 0 0 0) 27)) = w1 at F0 ⊢
  have hs1 : w1.heap.size = w.heap.size + 1 + 1 + 1 := by rw [← hw1]; simp
  simp only [World.size_alloc]
  clear HG2 hw1
  have cR := read_yes G 0 mn m mn mc ms w1 (HZ.out.kept (Kept.of_below (F := No) F0.bel) (fun _ _ h => h)) hmn (wi_iff.2 (by omega))
  rw [show rdX ms 0 mn = ms by unfold rdX; rw [show (0 : Int).toNat = 0 from rfl, List.drop_zero, Int.toNat_natCast, List.take_of_length_le (by rw [HZ.out.len]; exact Nat.le_refl _)], HZ.out.len, hs1] at cR
  have HF0 : Hid (Fr w w1 R R pc false 0 0 0 0) := F0
  clear F0 hs1
  go_wp2_with (go_at_call 29; refine cR.mono ?_; rintro ex w2 ⟨v, rfl, own2, kp2⟩; have MM : Hid (Mm w2 (w.heap.size + 1 + 1 + 1) v ms []) := (Mm.of_owns (by rw [HZ.out.len]; exact own2)); obtain ⟨a2, c2, hv2, hz2⟩ := MM.out.zs; rw [HZ.out.len] at hv2; subst hv2; have RS : Hid (Rs w w2 R a2 mn c2 ⟨R, pc, false, 0, 0, 0, 0⟩ ms) := ⟨HF0.out.grow kp2.below0 HF0.out.lt2, MM.out, HZ.out.len⟩; have hcap2 := hz2.cap; have hmax2 := hz2.max; rw [HZ.out.len] at hcap2; clear own2 kp2 hz2)
  go_loopw [18] (fun d wr => ∃ (j : Nat) (E : Ef) (ms' : List Int), d = .int .i64 j ∧ j ≤ most.toNat ∧ Rs w wr R a2 mn c2 E ms' ∧ Inv xs fx most.toNat (⟨R, pc, false, 0, 0, 0, 0⟩, ms) j (E, ms')) (fun d _ => most.toNat - (intOf d).toNat)
  case atStart => exact ⟨0, _, _, rfl, by omega, RS.out, Inv.zero _ _ _ _⟩
  case round =>
    obtain ⟨j, E, ms', rfl, hj, hrs, hinv⟩ := hrel
    obtain ⟨e16, e17, e18, e19, e20, e21, _⟩ := c21 hrs.fr.eff
    have HRS : Hid (Rs w wr R a2 mn c2 E ms') := hrs
    have HINV : Hid (Inv xs fx most.toNat (⟨R, pc, false, 0, 0, 0, 0⟩, ms) j (E, ms')) := hinv
    have RE := range_eff hrs.fr.eff
    clear hrs hinv
    have fin : ∀ (h : most.toNat ≤ j ∨ onR (E, ms') = false), r = ((E, ms'), j) := fun h => HI.out j _ HINV.out h
    have HFIN : Hid (∀ (h : most.toNat ≤ j ∨ onR (E, ms') = false), r = ((E, ms'), j)) := fin
    clear fin
    by_cases hlt : (j : Int) < most
    · by_cases hfa : E.fa = 0
      · have g1 : (E.fa == 0) = true := by simpa using hfa
        by_cases hca : E.ca = 0
        · have g2 : (E.ca == 0) = true := by simpa using hca
          have hon : Hid (onR (E, ms') = true) := (show onR (E, ms') = true by unfold onR; simp [hfa, hca])
          obtain ⟨az, cz, hvz, hzz⟩ := HRS.out.mm.zs
          rw [HRS.out.len] at hvz hzz
          injection hvz with h1 h2 h3
          subst h1 h3
          have cS := step_any F _ E.R p a2 n cc mn c2 fx E.pc xs ms' wr (HC.out.kept (Kept.of_below (F := No) HRS.out.fr.bel) (fun _ _ h => h)) hzz (HOO.out.below HRS.out.fr.bel HOO.out.pos)
          obtain ⟨E', hE'⟩ : ∃ E', E' = stepE xs ms' fx E.R E.pc := ⟨_, rfl⟩
          rw [← hE'] at cS
          have HE' : Hid (E' = stepE xs ms' fx E.R E.pc) := hE'
          unfold Ef.v at cS
          clear hE' hzz hfa hca h2
          go_upto_region 6 with (first
            | (refine wg_load25 _ rfl rfl (w.heap.size + 1 + 1) 0 E.R rfl RE ?_)
            | (go_at_call 12; refine cS.mono ?_; rintro ex w3 ⟨rfl, b3⟩; have RS3 : Hid (Rs w (w3.setRow (w.heap.size + 1 + 1) (effC E'.R E'.pc E'.st E'.ad E'.va E'.fa E'.ca)) R a2 mn c2 E' ms') := HRS.out.step b3; have heff := (b3.block _ HRS.out.fr.lt2).trans HRS.out.fr.eff)
            | (refine wl_store27 _ _ rfl rfl E'.R E'.pc E'.st E'.ad E'.va E'.fa E'.ca (w.heap.size + 1 + 1) _ rfl rfl heff rfl ?_))
          generalize w3.setRow (w.heap.size + 1 + 1) (effC E'.R E'.pc E'.st E'.ad E'.va E'.fa E'.ca) = w4 at RS3 ⊢
          clear heff cS RE e16 e17 e18 e19 e20 e21 b3
          obtain ⟨e16, e17, e18, e19, e20, e21, _⟩ := c21 RS3.out.fr.eff
          have hstR : Hid (stR xs fx (E, ms') = (E', if E'.st = true then wrX ms' fx E'.ad [E'.va] else ms')) := (show _ = _ by unfold stR; dsimp only; rw [← HE'.out])
          cases hst : E'.st with
          | false =>
            rw [hst] at e17
            have hs2 : Hid (stR xs fx (E, ms') = (E', ms')) := (show _ = _ by rw [hstR.out, hst]; rfl)
            go_wp2
            go_roundw
            case rel => exact ⟨j + 1, E', ms', by go_num, by omega, RS3.out, by have := HINV.out.go (by omega) hon.out; rw [hs2.out] at this; exact this⟩
            case measure => simp [intOf]; omega
          | true =>
            rw [hst] at e17
            have hs2 : Hid (stR xs fx (E, ms') = (E', wrX ms' fx E'.ad [E'.va])) := (show _ = _ by rw [hstR.out, hst]; rfl)
            have cM := store_any (w.heap.size + 1 + 1 + 1) fx E'.ad E'.va a2 mn c2 ms' [] w4 RS3.out.mm RS3.out.len
            go_wp2_with (go_at_call 30; refine cM.mono ?_; rintro ex w5 ⟨rfl, mm5, kp5⟩)
            go_roundw
            case rel => exact ⟨j + 1, E', wrX ms' fx E'.ad [E'.va], by go_num, by omega, RS3.out.store mm5 kp5 (by rw [wrX_length]; exact RS3.out.len), by have := HINV.out.go (by omega) hon.out; rw [hs2.out] at this; exact this⟩
            case measure => simp [intOf]; omega
        · have g2 : (E.ca == 0) = false := by simpa using hca
          have hf := HFIN.out (.inr (by unfold onR; simp [hca]))
          subst hf
          clear hfa hca
          clear HINV HFIN HI
          go_wp2_with (first
            | (refine wl_load27 _ rfl rfl E.R E.pc E.st E.ad E.va E.fa E.ca (w.heap.size + 1 + 1) rfl HRS.out.fr.eff ?_)
            | (refine wl_store27 _ _ rfl rfl E.R E.pc E.st E.ad E.va E.fa E.ca (w.heap.size + 1) _ rfl rfl HRS.out.fr.res rfl ?_))
          refine bodyPost_ret (results_cell3 rfl _ _ (w.heap.size + 1) 27 _ _ _ rfl (setRow_heap _ _ _ _ _ _ HRS.out.fr.res) Tryd.underlying27 rfl (by rw [effC_size]; exact info27)) rfl ?_
          exact ⟨_, rfl, HRS.out.done _⟩
      · have g1 : (E.fa == 0) = false := by simpa using hfa
        have hf := HFIN.out (.inr (by unfold onR; simp [hfa]))
        subst hf
        clear HINV HFIN HI
        go_wp2_with (first
          | (refine wl_load27 _ rfl rfl E.R E.pc E.st E.ad E.va E.fa E.ca (w.heap.size + 1 + 1) rfl HRS.out.fr.eff ?_)
          | (refine wl_store27 _ _ rfl rfl E.R E.pc E.st E.ad E.va E.fa E.ca (w.heap.size + 1) _ rfl rfl HRS.out.fr.res rfl ?_))
        refine bodyPost_ret (results_cell3 rfl _ _ (w.heap.size + 1) 27 _ _ _ rfl (setRow_heap _ _ _ _ _ _ HRS.out.fr.res) Tryd.underlying27 rfl (by rw [effC_size]; exact info27)) rfl ?_
        exact ⟨_, rfl, HRS.out.done _⟩
    · have hf := HFIN.out (.inl (by omega))
      subst hf
      clear HINV HFIN HI
      go_wp2_with (first
        | (refine wl_load27 _ rfl rfl E.R E.pc E.st E.ad E.va E.fa E.ca (w.heap.size + 1 + 1) rfl HRS.out.fr.eff ?_)
        | (refine wl_store27 _ _ rfl rfl E.R E.pc E.st E.ad E.va E.fa E.ca (w.heap.size + 1) _ rfl rfl HRS.out.fr.res rfl ?_))
      refine bodyPost_ret (results_cell3 rfl _ _ (w.heap.size + 1) 27 _ _ _ rfl (setRow_heap _ _ _ _ _ _ HRS.out.fr.res) Tryd.underlying27 rfl (by rw [effC_size]; exact info27)) rfl ?_
      exact ⟨_, rfl, HRS.out.done _⟩

end Go.Proofs.YtijeaonldhccmaaDoor

namespace Go.Proofs.YtijeaonldhccmaaDoor
open Go.RowKit
set_option linter.unusedVariables false

theorem runN_add (xs : List Ins) (fx : Int) : ∀ (a b : Nat) (s : Ef × List Int),
    runN xs fx (a + b) s = if onR (runN xs fx a s).1 = true then ((runN xs fx b (runN xs fx a s).1).1, (runN xs fx a s).2 + (runN xs fx b (runN xs fx a s).1).2) else runN xs fx a s
  | 0, b, s => by
    rw [Nat.zero_add]
    show _ = if onR s = true then ((runN xs fx b s).1, 0 + (runN xs fx b s).2) else (s, 0)
    cases h : onR s with
    | true => rw [if_pos rfl, Nat.zero_add]
    | false => rw [if_neg (by decide), runN_off h]
  | a + 1, b, s => by
    cases h : onR s with
    | true =>
      rw [show a + 1 + b = (a + b) + 1 by omega, runN_on h, runN_on h, runN_add xs fx a b (stR xs fx s)]
      dsimp only
      split
      · dsimp only
        congr 1
        omega
      · rfl
    | false => rw [runN_off h, runN_off h]; dsimp only; rw [if_neg (by rw [h]; decide)]

/-- what the reset of an effect leaves -/
def rst (s : Ef × List Int) : Ef × List Int := (⟨s.1.R, s.1.pc, false, 0, 0, 0, 0⟩, s.2)
theorem runN_rst (xs : List Ins) (fx : Int) (k : Nat) (s : Ef × List Int) (h : onR s = true) :
    (runN xs fx k (rst s)).2 = (runN xs fx k s).2 ∧ (runN xs fx k (rst s)).1.2 = (runN xs fx k s).1.2 ∧ (runN xs fx k (rst s)).1.1.R = (runN xs fx k s).1.1.R ∧ (runN xs fx k (rst s)).1.1.pc = (runN xs fx k s).1.1.pc ∧ (runN xs fx k (rst s)).1.1.fa = (runN xs fx k s).1.1.fa ∧ (runN xs fx k (rst s)).1.1.ca = (runN xs fx k s).1.1.ca := by
  have h0 : onR (rst s) = true := rfl
  cases k with
  | zero =>
    unfold onR at h
    rw [Bool.and_eq_true] at h
    exact ⟨rfl, rfl, rfl, rfl, (by simpa using h.1 : s.1.fa = 0).symm, (by simpa using h.2 : s.1.ca = 0).symm⟩
  | succ k =>
    rw [runN_on h, runN_on h0]
    have e : stR xs fx (rst s) = stR xs fx s := rfl
    rw [e]
    exact ⟨rfl, rfl, rfl, rfl, rfl, rfl⟩
theorem runN_length (xs : List Ins) (fx : Int) : ∀ (k : Nat) (s : Ef × List Int), (runN xs fx k s).1.2.length = s.2.length
  | 0, s => rfl
  | k + 1, s => by
    cases h : onR s with
    | true => rw [runN_on h]; dsimp only; rw [runN_length xs fx k, stR_length]
    | false => rw [runN_off h]
theorem runN_le (xs : List Ins) (fx : Int) : ∀ (k : Nat) (s : Ef × List Int), (runN xs fx k s).2 ≤ k
  | 0, s => Nat.le_refl _
  | k + 1, s => by
    cases h : onR s with
    | true => rw [runN_on h]; have := runN_le xs fx k (stR xs fx s); dsimp only; omega
    | false => rw [runN_off h]; exact Nat.zero_le _

/-- cpu.Run, its memory as a list -/
theorem run_zs (F G : Nat → Prop) (R : Nat → Int) (p m : Option Addr) (n cc mn mc : Nat) (fx pc most : Int) (xs : List Ins) (ms : List Int) (w : World) (hc : Cs w F p n cc xs) (hz : Zs w G m mn mc ms) (hO : Ops w) (hmn : mn ≤ 17592186043904) (hmost : most ≤ 6000) (r : (Ef × List Int) × Nat) (hr : r = runN xs fx most.toNat (⟨R, pc, false, 0, 0, 0, 0⟩, ms)) :
    Calls Tryd.prog 17 #[.slice p n cc, .slice m mn mc, .int .i64 fx, regV R, .int .i64 pc, .int .i64 most] w fun ex w' =>
      ∃ a c, ex = .returned (.tuple #[effV r.1.1.R r.1.1.pc r.1.1.st r.1.1.ad r.1.1.va r.1.1.fa r.1.1.ca, .slice a mn c, .int .i64 r.2]) ∧ Zs w' (fun g => w.heap.size ≤ g) a mn c r.1.2 ∧ Below w.heap.size w w' := by
  refine (run_any F G R p m n cc mn mc fx pc most xs ms w hc hz hO hmn hmost).mono ?_
  rw [← hr]
  rintro ex w' ⟨v, rfl, own, bel⟩
  have hl : r.1.2.length = mn := by rw [hr, runN_length]; exact hz.len
  obtain ⟨a, c, hv, hzz⟩ := Zs.of_owns (xs := r.1.2) (by rw [hl]; exact own)
  rw [hl] at hv hzz
  subst hv
  exact ⟨a, c, rfl, hzz.mono (fun k hk => (own.lt k hk).1), bel⟩

/-- the law's own rounds -/
structure Rl (w0 w : World) (a : Option Addr) (n c : Nat) (E : Ef) (ms : List Int) : Prop where
  bel : Below w0.heap.size w0 w
  eff : w.heap[w0.heap.size]? = some (.cells (effC E.R E.pc E.st E.ad E.va E.fa E.ca) 27)
  mm : Mm w (w0.heap.size + 1) (.slice a n c) ms []
  len : ms.length = n
theorem Rl.step {w0 w w' : World} {a : Option Addr} {n c : Nat} {E E' : Ef} {ms : List Int} (h : Rl w0 w a n c E ms) (b : Below w.heap.size w w') : Rl w0 (w'.setRow w0.heap.size (effC E'.R E'.pc E'.st E'.ad E'.va E'.fa E'.ca)) a n c E' ms := by
  have m1 := h.mm.kept (Kept.of_below (F := No) b) (fun _ _ h => h)
  have e1 := (b.block _ (heap_lt h.eff)).trans h.eff
  have b1 := h.bel.trans (b.mono h.bel.size)
  exact ⟨⟨b1.os, b1.tape, b1.output, by simpa [World.setRow] using b1.size, fun k hk => (setRow_other _ _ _ _ (by omega)).trans (b1.block k hk)⟩, setRow_heap _ _ _ _ _ _ e1, m1.kept (kept_setRow _ _ _) (fun g hg e => by have := m1.ge hg; omega), h.len⟩
theorem Rl.setw {w0 w : World} {g n c : Nat} {E : Ef} {ms : List Int} (h : Rl w0 w (some ⟨g, 0, none⟩) n c E ms) {i : Nat} (hi : i < n) (x : Int) : Rl w0 (w.setCell ⟨g, i, none⟩ (.int .i64 x)) (some ⟨g, 0, none⟩) n c E (ms.set i x) := by
  have hge := h.mm.ge (g := g) rfl
  exact ⟨h.bel.setCell (p := ⟨g, i, none⟩) (by show w0.heap.size ≤ g; omega) _, (heap_setCell_ne _ _ _ _ (by show w0.heap.size ≠ g; omega)).trans h.eff, h.mm.set_ (g := g) rfl (by rw [h.len]; exact hi) x, by rw [List.length_set]; exact h.len⟩
theorem wrX_set {ms : List Int} {fx A V : Int} (h : wb ms.length fx A 1 = true) : wrX ms fx A [V] = ms.set A.toNat V := by
  unfold wrX
  rw [show (([V] : List Int).length : Int) = 1 from rfl, h, if_pos rfl]
  unfold wb at h
  rw [Bool.and_eq_true, wi_iff] at h
  unfold laid
  rw [List.set_eq_take_append_cons_drop, if_pos (by omega)]
  rfl

end Go.Proofs.YtijeaonldhccmaaDoor

namespace Go.Proofs.YtijeaonldhccmaaDoor
open Go.RowKit
set_option linter.unusedVariables false

theorem fl6 (b : Bool) : I6 (fl b) := by unfold fl I6; split <;> omega
theorem ite6 {c : Prop} [Decidable c] {x y : Int} (hx : I6 x) (hy : I6 y) : I6 (if c then x else y) := by
  by_cases h : c
  · rw [if_pos h]; exact hx
  · rw [if_neg h]; exact hy
theorem and6 (x y : Int) : I6 (bits .and .i64 x y) := by rw [bits_and]; exact w6 _
theorem or6 (x y : Int) : I6 (bits .or .i64 x y) := by rw [bits_or]; exact w6 _
theorem xor6 (x y : Int) : I6 (bits .xor .i64 x y) := by rw [bits_xor]; exact w6 _
theorem wd6 (o : Nat) (A B C n : Int) (hB : I6 B) (hn : I6 n) : I6 (wd o A B C n) := by
  unfold wd
  exact ite6 hn (ite6 (or6 _ _) (ite6 hB (ite6 (w6 _) (ite6 (w6 _) (ite6 (w6 _) (ite6 (and6 _ _) (ite6 (or6 _ _) (ite6 (xor6 _ _) (ite6 (w6 _) (ite6 (w6 _) (ite6 (sar_I6 hB _) (ite6 (w6 _) (ite6 (fl6 _) (ite6 (fl6 _) (fl6 _)))))))))))))))
theorem upd6 {R : Nat → Int} (hR : ∀ i, I6 (R i)) {v : Int} (hv : I6 v) (k : Nat) : ∀ i, I6 (upd R k v i) := fun i => by
  unfold upd
  split
  · exact hv
  · exact hR i
theorem getD6 {ms : List Int} (h : ∀ z ∈ ms, I6 z) (k : Nat) : I6 (ms.getD k 0) := by
  rw [List.getD_eq_getElem?_getD]
  cases e : ms[k]? with
  | none => show I6 0; unfold I6; omega
  | some z => exact h z (List.mem_of_getElem? e)
theorem mm6 {ms : List Int} (h : ∀ z ∈ ms, I6 z) (A : Int) : I6 (mmVal ms A) := by
  unfold mmVal
  split
  · exact getD6 h _
  · unfold I6; omega
def EP (e : Ef) : Prop := (∀ i, I6 (e.R i)) ∧ I6 e.va
theorem iteE {c : Prop} [Decidable c] {x y : Ef} (hx : EP x) (hy : EP y) : EP (if c then x else y) := by
  by_cases h : c
  · rw [if_pos h]; exact hx
  · rw [if_neg h]; exact hy
theorem doE_I6 (n : Nat) (x : Ins) (ms : List Int) (fx : Int) (R : Nat → Int) (pc : Int) (hR : ∀ i, I6 (R i)) (hms : ∀ z ∈ ms, I6 z) (hx : x.ok) (hpc : I6 (pc + 1)) :
    EP (doE n x ms fx R pc) := by
  have h0 : I6 0 := by unfold I6; omega
  have hn : I6 x.n := by obtain ⟨_, _, _, _, h1, h2⟩ := hx; unfold I6; omega
  have e0 : ∀ (pc : Int) (st : Bool) (ad fa ca : Int), EP ⟨R, pc, st, ad, 0, fa, ca⟩ := fun _ _ _ _ _ => ⟨hR, h0⟩
  have eu : ∀ (v : Int) (k : Nat) (pc : Int), I6 v → EP ⟨upd R k v, pc, false, 0, 0, 0, 0⟩ := fun v k _ h => ⟨upd6 hR h k, h0⟩
  unfold doE
  exact iteE (e0 _ _ _ _ _) (iteE (iteE (eu _ _ _ (mm6 hms _)) (e0 _ _ _ _ _)) (iteE (iteE ⟨hR, hR _⟩ (e0 _ _ _ _ _)) (iteE (iteE (e0 _ _ _ _ _) (eu _ _ _ (qt_I6 _ _))) (iteE (iteE (e0 _ _ _ _ _) (eu _ _ _ (w6 _))) (iteE (e0 _ _ _ _ _) (iteE (e0 _ _ _ _ _) (iteE (e0 _ _ _ _ _) (iteE (e0 _ _ _ _ _) (iteE (eu _ _ _ hpc) (iteE (iteE (e0 _ _ _ _ _) (e0 _ _ _ _ _)) (eu _ _ _ (wd6 _ _ _ _ _ (hR _) hn))))))))))))
theorem stepE_I6 (xs : List Ins) (ms : List Int) (fx : Int) (R : Nat → Int) (pc : Int) (hok : ∀ x ∈ xs, x.ok) (hl : xs.length ≤ 9223372036854775807) (hR : ∀ i, I6 (R i)) (hms : ∀ z ∈ ms, I6 z) :
    EP (stepE xs ms fx R pc) := by
  have h0 : I6 0 := by unfold I6; omega
  unfold stepE
  by_cases h : 0 ≤ pc ∧ pc < xs.length
  · rw [if_pos h]
    unfold opE
    refine iteE ?_ ?_
    · refine doE_I6 _ _ _ _ _ _ hR hms ?_ (by unfold I6; omega)
      have hk : pc.toNat < xs.length := by omega
      rw [List.getD_eq_getElem?_getD, List.getElem?_eq_getElem hk]
      exact hok _ (List.getElem_mem hk)
    · exact ⟨hR, h0⟩
  · rw [if_neg h]; exact ⟨hR, h0⟩

/-- registers and words are within their bounds -/
structure G6 (s : Ef × List Int) : Prop where
  r : ∀ i, I6 (s.1.R i)
  m : ∀ z ∈ s.2, I6 z
theorem G6.st {xs : List Ins} {s : Ef × List Int} (h : G6 s) (fx : Int) (hok : ∀ x ∈ xs, x.ok) (hl : xs.length ≤ 9223372036854775807) : G6 (stR xs fx s) := by
  have h1 := stepE_I6 xs s.2 fx s.1.R s.1.pc hok hl h.r h.m
  refine ⟨h1.1, ?_⟩
  unfold stR
  dsimp only
  split
  · unfold wrX
    split
    · unfold laid
      intro z hz
      rcases List.mem_append.1 hz with hz | hz
      · exact h.m z (List.mem_of_mem_take hz)
      · rcases List.mem_append.1 hz with hz | hz
        · rw [List.mem_singleton] at hz; rw [hz]; exact h1.2
        · exact h.m z (List.mem_of_mem_drop hz)
    · exact h.m
  · exact h.m

end Go.Proofs.YtijeaonldhccmaaDoor

namespace Go.Proofs.YtijeaonldhccmaaDoor
open Go.RowKit
set_option linter.unusedVariables false

theorem owns_shp {w : World} {B : Nat} {e : TypeId} {s : Nat} {v : Value} {n : Nat} {xs : List Value} (h : w.ownsRow B e s v n xs) : ∃ a c, v = .slice a n c := by
  rcases h.2 with ⟨rfl, rfl⟩ | ⟨g, cap, cur, rfl, _⟩
  · exact ⟨none, 0, rfl⟩
  · exact ⟨_, _, rfl⟩
/-- 'append(nil, xs...)' -/
theorem wpList_copy_nil {w : World} {ops : Array Oper} {rest : List Oper} {o : Oper} {a : Act} {Q : Exit → Act → World → Prop} (hgd : o.guard = none) (s x : Operand)
    (ho : o.op = .call { callee := .builtin .append, args := #[s, x], argTypes := #[34, 34] }) (hs : a.eval s = .slice none 0 0) (xa : Option Addr) (n c : Nat) (hx : a.eval x = .slice xa n c)
    (F : Nat → Prop) (xs : List Int) (hz : Zs w F xa n c xs) (hn : n ≤ 17592186043904)
    (h : ∀ ya yc w', Hid (w'.ownsRow w.heap.size 2 1 (.slice ya n yc) n (xs.map iv)) → Hid (Below w.heap.size w w') → wpList Tryd.prog ops Q rest (a.put o.dst (.slice ya n yc)) w') : wpList Tryd.prog ops Q (o :: rest) a w := by
  obtain ⟨i0, hi, hz0, hz1, hz2⟩ := info_parts infoW
  cases xa with
  | none =>
    have hc0 := hz.nil rfl
    have hn0 : n = 0 := by have := hz.cap; omega
    have hx0 : xs = [] := List.eq_nil_of_length_eq_zero (by rw [hz.len]; exact hn0)
    subst hc0 hn0 hx0
    refine wpList_append_own_none hgd s x 34 ho w.heap.size 2 i0 1 Tryd.underlying34 hi _ _ _ hs (World.ownsRow_nil _ _ _ _) hx ?_
    exact h none 0 w (World.ownsRow_nil _ _ _ _) (Below.refl _ _)
  | some ad =>
    refine wpList_append_own _ hgd s x 34 ho w.heap.size 2 i0 (.int .i64 0) 1 8 Tryd.underlying34 hi hz0 hz1 hz2 rfl (by decide) _ 0 [] hs (World.ownsRow_nil _ _ _ _) ad n c (xs.map iv) hx (by rw [List.length_map, hz.len]; omega) hz.news (iv_one _) (by unfold maxLen; omega) (by omega) (Nat.le_refl _) ?_
    intro v1 w1 own1 grow1 _
    rw [Nat.zero_add, List.nil_append] at own1
    obtain ⟨ya, yc, rfl⟩ := owns_shp own1
    exact h ya yc w1 own1 ((Below.refl _ _).grown grow1 (Nat.le_refl _) (fun k hk => by cases hk))

theorem Rs.setw {w0 w : World} {R0 : Nat → Int} {g n c : Nat} {E : Ef} {ms : List Int} (h : Rs w0 w R0 (some ⟨g, 0, none⟩) n c E ms) {i : Nat} (hi : i < n) (x : Int) : Rs w0 (w.setCell ⟨g, i, none⟩ (.int .i64 x)) R0 (some ⟨g, 0, none⟩) n c E (ms.set i x) := by
  have hge := h.mm.ge (g := g) rfl
  exact ⟨h.fr.kept (G := fun k => k = g) (Kept.setCell (F := fun k => k = g) (p := ⟨g, i, none⟩) (Kept.refl _ w) (.inl rfl) _) (fun k hk => by omega), h.mm.set_ (g := g) rfl (by rw [h.len]; exact hi) x, by rw [List.length_set]; exact h.len⟩
theorem Rs.some_of {w0 w : World} {R0 : Nat → Int} {a : Option Addr} {n c : Nat} {E : Ef} {ms : List Int} (h : Rs w0 w R0 a n c E ms) (hn : 0 < n) : ∃ g, a = some ⟨g, 0, none⟩ := by
  rcases owns_cells h.mm.owns with ⟨_, h0⟩ | ⟨g, cap, hv, _⟩
  · rw [h.len] at h0; omega
  · injection hv with h1 _ _
    exact ⟨g, h1⟩

set_option maxHeartbeats 2000000 in
set_option maxRecDepth 100000 in
theorem refRun_any (F G : Nat → Prop) (R : Nat → Int) (hR : ∀ i, I6 (R i)) (p m : Option Addr) (n cc mn mc : Nat) (fx pc most : Int) (xs : List Ins) (ms : List Int) (w : World) (hc : Cs w F p n cc xs) (hz : Zs w G m mn mc ms) (hms : ∀ z ∈ ms, I6 z) (hmn : mn ≤ 17592186043904) (hmost : most ≤ 6000) (r : (Ef × List Int) × Nat) (hr : r = runN xs fx most.toNat (⟨R, pc, false, 0, 0, 0, 0⟩, ms)) :
    Calls Tryd.prog 24 #[.slice p n cc, .slice m mn mc, .int .i64 fx, regV R, .int .i64 pc, .int .i64 most] w fun ex w' =>
      ∃ v, ex = .returned (.tuple #[r.1.1.v, v, .int .i64 r.2]) ∧ w'.ownsRow w.heap.size 2 1 v mn (r.1.2.map iv) ∧ Below w.heap.size w w' := by
  have F0 := fr_newb w R pc
  have HG2 := heap_second w (.cells (regC R) 25) (.cells (effC zeroR 0 false 0 0 0 0) 27)
  have HI : Hid (∀ j s, Inv xs fx most.toNat (⟨R, pc, false, 0, 0, 0, 0⟩, ms) j s → (most.toNat ≤ j ∨ onR s = false) → r = (s, j)) := (fun j s h1 h2 => by rw [hr]; exact h1.stop h2)
  have HC : Hid (Cs w F p n cc xs) := hc
  have HZ : Hid (Zs w G m mn mc ms) := hz
  have HG0 : Hid (G6 ((⟨R, pc, false, 0, 0, 0, 0⟩ : Ef), ms)) := ⟨hR, hms⟩
  have hcap := hz.cap
  have hmax := hz.max
  have hnn := hc.cap
  have hnm := hc.max
  have HXL : Hid (xs.length ≤ 9223372036854775807) := (show _ ≤ _ by rw [hc.len]; omega)
  clear hr hc hz hR hms
  go_enter Tryd.func24, Tryd.ntmps24
  go_upto_region 1 with (first
    | (refine wl_box25 _ rfl rfl R rfl ?_)
    | (refine wl_alloc27 rfl rfl ?_))
  go_upto_region 2 with (first
    | (refine wl_load25 _ rfl rfl R w.heap.size rfl HG2 ?_)
    | (refine wl_build27b _ _ rfl rfl R pc rfl rfl ?_)
    | (refine wl_alloc27 rfl rfl ?_)
    | (refine wl_store27 _ _ rfl rfl R pc false 0 0 0 0 _ _ rfl rfl (heap_alloc_last _ _) rfl ?_; rw [World.setRow_alloc_new]))
  generalize hw1 : (((w.alloc (.cells (regC R) 25)).alloc (.cells (effC zeroR 0 false 0 0 0 0) 27)).alloc (.cells (effC R pc false 0 0 0 0) 27)) = w1 at F0 ⊢
  have hs1 : w1.heap.size = w.heap.size + 1 + 1 + 1 := by rw [← hw1]; simp
  simp only [World.size_alloc]
  clear HG2 hw1
  have HS1 : Hid (w1.heap.size = w.heap.size + 1 + 1 + 1) := hs1
  have HZ1 : Hid (Zs w1 G m mn mc ms) := HZ.out.kept (Kept.of_below (F := No) F0.bel) (fun _ _ h => h)
  have HF0 : Hid (Fr w w1 R R pc false 0 0 0 0) := F0
  clear F0 hs1
  go_wp2_with (at_builtin; refine wpList_copy_nil rfl (.tmp 21) (.tmp 22) rfl rfl m mn mc rfl _ ms HZ1.out hmn ?_; intro a2 c2 w2 own2 b2; have MM : Hid (Mm w2 (w.heap.size + 1 + 1 + 1) (.slice a2 mn c2) ms []) := (Mm.of_owns (by rw [HZ.out.len, ← HS1.out]; exact own2.out)); have RS : Hid (Rs w w2 R a2 mn c2 ⟨R, pc, false, 0, 0, 0, 0⟩ ms) := ⟨HF0.out.grow b2.out HF0.out.lt2, MM.out, HZ.out.len⟩; obtain ⟨a3, c3, hv2, hz2⟩ := MM.out.zs; rw [HZ.out.len] at hv2; injection hv2 with hva hvb hvc; subst hva hvc; have hcap2 := hz2.cap; have hmax2 := hz2.max; rw [HZ.out.len] at hcap2; clear own2 b2 hz2 hvb)
  go_loopw [17] (fun d wr => ∃ (j : Nat) (E : Ef) (ms' : List Int), d = .int .i64 j ∧ j ≤ most.toNat ∧ Rs w wr R a2 mn c2 E ms' ∧ Inv xs fx most.toNat (⟨R, pc, false, 0, 0, 0, 0⟩, ms) j (E, ms') ∧ G6 (E, ms')) (fun d _ => most.toNat - (intOf d).toNat)
  case atStart => exact ⟨0, _, _, rfl, by omega, RS.out, Inv.zero _ _ _ _, HG0.out⟩
  case round =>
    obtain ⟨j, E, ms', rfl, hj, hrs, hinv, h6⟩ := hrel
    obtain ⟨e16, e17, e18, e19, e20, e21, _⟩ := c21 hrs.fr.eff
    have HRS : Hid (Rs w wr R a2 mn c2 E ms') := hrs
    have HINV : Hid (Inv xs fx most.toNat (⟨R, pc, false, 0, 0, 0, 0⟩, ms) j (E, ms')) := hinv
    have H6 : Hid (G6 (E, ms')) := h6
    have RE := range_eff hrs.fr.eff
    clear hrs hinv h6
    have HFIN : Hid (∀ (h : most.toNat ≤ j ∨ onR (E, ms') = false), r = ((E, ms'), j)) := (fun h => HI.out j _ HINV.out h)
    go_upto_region 5 with fail
    go_cut [36] (fun t wx => t = .bool (decide ((j : Int) < most) && onR (E, ms')) ∧ wx = wr)
    case first =>
      by_cases hlt : (j : Int) < most
      · by_cases hfa : E.fa = 0
        · have g1 : (E.fa == 0) = true := by simpa using hfa
          by_cases hca : E.ca = 0
          · have g2 : (E.ca == 0) = true := by simpa using hca
            have HT : Hid ((decide ((j : Int) < most) && onR (E, ms')) = true) := (show _ = _ by unfold onR; simp [hfa, hca, hlt])
            clear hfa hca
            go_wp2
            go_meet
            case rel => exact ⟨by rw [HT.out], rfl⟩
          · have g2 : (E.ca == 0) = false := by simpa using hca
            have HT : Hid ((decide ((j : Int) < most) && onR (E, ms')) = false) := (show _ = _ by unfold onR; simp [hca])
            clear hfa hca
            go_wp2
            go_meet
            case rel => exact ⟨by rw [HT.out], rfl⟩
        · have g1 : (E.fa == 0) = false := by simpa using hfa
          have HT : Hid ((decide ((j : Int) < most) && onR (E, ms')) = false) := (show _ = _ by unfold onR; simp [hfa])
          clear hfa
          go_wp2
          go_meet
          case rel => exact ⟨by rw [HT.out], rfl⟩
      · have HT : Hid ((decide ((j : Int) < most) && onR (E, ms')) = false) := (show _ = _ by simp [hlt])
        go_wp2
        go_meet
        case rel => exact ⟨by rw [HT.out], rfl⟩
    case rest =>
      obtain ⟨rfl, hw⟩ := hcut
      obtain rfl := hw.symm
      cases hT : (decide ((j : Int) < most) && onR (E, ms')) with
      | true =>
        have hon : Hid (onR (E, ms') = true) := (Bool.and_eq_true_iff.1 hT).2
        have hlt : (j : Int) < most := of_decide_eq_true (Bool.and_eq_true_iff.1 hT).1
        clear hT
        obtain ⟨az, cz, hvz, hzz⟩ := HRS.out.mm.zs
        rw [HRS.out.len] at hvz hzz
        injection hvz with h1 h2 h3
        subst h1 h3
        have cS := refStep_any F _ E.R H6.out.r p a2 n cc mn c2 fx E.pc xs ms' wr (HC.out.kept (Kept.of_below (F := No) HRS.out.fr.bel) (fun _ _ h => h)) hzz
        have h6' := H6.out.st fx HC.out.ok HXL.out
        obtain ⟨E', hE'⟩ : ∃ E', E' = stepE xs ms' fx E.R E.pc := ⟨_, rfl⟩
        have hkp := (stepE_kp xs ms' fx E.R E.pc).1
        rw [← hE'] at cS hkp
        have HY : Hid (E'.st = true → wb ms'.length fx E'.ad 1 = true) := (fun h => (hkp.yes h).2.1)
        have HE' : Hid (E' = stepE xs ms' fx E.R E.pc) := hE'
        have H6' : Hid (G6 (stR xs fx (E, ms'))) := h6'
        unfold Ef.v at cS
        clear hE' hzz h2 hkp h6'
        go_upto_region 7 with (first
          | (refine wg_load25 _ rfl rfl (w.heap.size + 1 + 1) 0 E.R rfl RE ?_)
          | (go_at_call 21; refine cS.mono ?_; rintro ex w3 ⟨rfl, b3⟩; have RS3 : Hid (Rs w (w3.setRow (w.heap.size + 1 + 1) (effC E'.R E'.pc E'.st E'.ad E'.va E'.fa E'.ca)) R a2 mn c2 E' ms') := HRS.out.step b3; have heff := (b3.block _ HRS.out.fr.lt2).trans HRS.out.fr.eff)
          | (refine wl_store27 _ _ rfl rfl E'.R E'.pc E'.st E'.ad E'.va E'.fa E'.ca (w.heap.size + 1 + 1) _ rfl rfl heff rfl ?_))
        generalize w3.setRow (w.heap.size + 1 + 1) (effC E'.R E'.pc E'.st E'.ad E'.va E'.fa E'.ca) = w4 at RS3 ⊢
        clear heff cS RE e16 e17 e18 e19 e20 e21 b3
        obtain ⟨e16, e17, e18, e19, e20, e21, _⟩ := c21 RS3.out.fr.eff
        have hstR : Hid (stR xs fx (E, ms') = (E', if E'.st = true then wrX ms' fx E'.ad [E'.va] else ms')) := (show _ = _ by unfold stR; dsimp only; rw [← HE'.out])
        cases hst : E'.st with
        | false =>
          rw [hst] at e17
          have hs2 : Hid (stR xs fx (E, ms') = (E', ms')) := (show _ = _ by rw [hstR.out, hst]; rfl)
          go_wp2
          go_roundw
          case rel => exact ⟨j + 1, E', ms', by go_num, by omega, RS3.out, by have := HINV.out.go (by omega) hon.out; rw [hs2.out] at this; exact this, by rw [← hs2.out]; exact H6'.out⟩
          case measure => simp [intOf]; omega
        | true =>
          rw [hst] at e17
          have hwb := HY.out hst
          have hwb2 := hwb
          unfold wb at hwb2
          rw [Bool.and_eq_true, wi_iff, RS3.out.len] at hwb2
          obtain ⟨d, hd⟩ : ∃ d : Nat, E'.ad = d := ⟨E'.ad.toNat, by omega⟩
          have hdn : d < mn := by omega
          have hs2 : Hid (stR xs fx (E, ms') = (E', ms'.set d E'.va)) := (show _ = _ by rw [hstR.out, hst, if_pos rfl, wrX_set hwb, hd, Int.toNat_natCast])
          rw [hd] at e18
          obtain ⟨go, rfl⟩ := RS3.out.some_of (by omega)
          have hcd := RS3.out.mm.at_ (g := go) rfl (i := d) (by rw [RS3.out.len]; exact hdn)
          unfold iv at hcd
          have hfd := RS3.out.mm.fz (g := go) rfl d
          have RS4 : Hid (Rs w (w4.setCell ⟨go, d, none⟩ (.int .i64 E'.va)) R (some ⟨go, 0, none⟩) mn c2 E' (ms'.set d E'.va)) := RS3.out.setw hdn E'.va
          clear hwb hwb2 hd
          go_wp2
          go_roundw
          case rel => exact ⟨j + 1, E', ms'.set d E'.va, by go_num, by omega, RS4.out, by have := HINV.out.go (by omega) hon.out; rw [hs2.out] at this; exact this, by rw [← hs2.out]; exact H6'.out⟩
          case measure => simp [intOf]; omega
      | false =>
        have hf := HFIN.out (by
          rcases Bool.and_eq_false_iff.1 hT with h | h
          · exact .inl (by have := of_decide_eq_false h; omega)
          · exact .inr h)
        clear hT
        subst hf
        clear HINV HFIN HI
        go_wp2_with (first
          | (refine wl_load27 _ rfl rfl E.R E.pc E.st E.ad E.va E.fa E.ca (w.heap.size + 1 + 1) rfl HRS.out.fr.eff ?_)
          | (refine wl_store27 _ _ rfl rfl E.R E.pc E.st E.ad E.va E.fa E.ca (w.heap.size + 1) _ rfl rfl HRS.out.fr.res rfl ?_))
        refine bodyPost_ret (results_cell3 rfl _ _ (w.heap.size + 1) 27 _ _ _ rfl (setRow_heap _ _ _ _ _ _ HRS.out.fr.res) Tryd.underlying27 rfl (by rw [effC_size]; exact info27)) rfl ?_
        exact ⟨_, rfl, HRS.out.done _⟩

end Go.Proofs.YtijeaonldhccmaaDoor

namespace Go.Proofs.YtijeaonldhccmaaDoor
open Go.RowKit
set_option linter.unusedVariables false

structure Tn6 (w0 w : World) (g cap n gm capm mn : Nat) : Prop where
  kept : Kept (fun k => k = g ∨ k = gm) w0 w
  code : ∃ L : List Ins, L.length = n ∧ (∀ x ∈ L, x.ok) ∧ w.ownsRow 0 30 5 (.slice (some ⟨g, 0, none⟩) n cap) n (icL L)
  mem : ∃ K : List Int, K.length = mn ∧ (∀ z ∈ K, I6 z) ∧ w.ownsRow 0 2 1 (.slice (some ⟨gm, 0, none⟩) mn capm) mn (K.map iv)
set_option maxHeartbeats 2000000 in
set_option maxRecDepth 100000 in
theorem turned6_any (g cap n0 n gm capm m0 mn : Nat) (hn : n ≤ n0) (hmn : mn ≤ m0) (hcap : n0 ≤ cap) (hcapm : m0 ≤ capm) (hmx : cap ≤ 9223372036854775807) (hmxm : capm ≤ 9223372036854775807) (w : World) (hg : g < w.heap.size) (hgm : gm < w.heap.size) (hne : g ≠ gm) (h : Tn6 w w g cap n0 gm capm m0) :
    Calls Tryd.prog 23 #[.slice (some ⟨g, 0, none⟩) n cap, .slice (some ⟨gm, 0, none⟩) mn capm] w fun ex w' => ex = .returned (.tuple #[]) ∧ Tn6 w w' g cap n0 gm capm m0 := by
  have HT : Hid (Tn6 w w g cap n0 gm capm m0) := h
  clear h
  go_enter Tryd.func23, Tryd.ntmps23
  go_wp2
  go_loopw [4] (fun i wr => ∃ k : Nat, k ≤ n / 2 ∧ i = .int .i64 k ∧ Tn6 w wr g cap n0 gm capm m0) (fun i _ => n / 2 - (intOf i).toNat)
  case atStart => exact ⟨0, by omega, rfl, HT.out⟩
  case round =>
    obtain ⟨k, hk, rfl, ht⟩ := hrel
    obtain ⟨L, hL, hok, own⟩ := ht.code
    have HTN : Hid (Tn6 w wr g cap n0 gm capm m0) := ht
    have hsz := ht.kept.size
    by_cases hlt : k < n / 2
    · obtain ⟨c0, c1, c2, c3, c4, hf⟩ := row5 own (i := k) (by omega)
      have OWN : Hid (wr.ownsRow 0 30 5 (.slice (some ⟨g, 0, none⟩) n0 cap) n0 (icL L)) := own
      have HOK : Hid (∀ x ∈ L, x.ok) := hok
      have HLL : Hid (L.length = n0) := hL
      have okx : (L.getD k ins0).ok := HOK.out _ (by rw [List.getD_eq_getElem?_getD, List.getElem?_eq_getElem (by omega)]; exact List.getElem_mem _)
      have oky : (L.getD (n - 1 - k) ins0).ok := HOK.out _ (by rw [List.getD_eq_getElem?_getD, List.getElem?_eq_getElem (by omega)]; exact List.getElem_mem _)
      obtain ⟨x, hx⟩ : ∃ x, x = L.getD k ins0 := ⟨_, rfl⟩
      obtain ⟨y, hy⟩ : ∃ y, y = L.getD (n - 1 - k) ins0 := ⟨_, rfl⟩
      rw [← hx] at c0 c1 c2 c3 c4 okx
      rw [← hy] at oky
      have OX : Hid (x.ok ∧ y.ok) := ⟨okx, oky⟩
      have HY : Hid (y = L.getD (n - 1 - k) ins0) := hy
      clear own hok hL ht hx okx oky hy
      go_upto_region 4 with fail
      obtain ⟨j, hj⟩ : ∃ j : Nat, n - 1 - k = j := ⟨_, rfl⟩
      have hji : (n : Int) - 1 - (k : Int) = (j : Int) := by omega
      have hjn : j < n := by omega
      have own1 := OWN.out.alloc (.cells #[.int .u8 x.o, .int .u8 x.a, .int .u8 x.b, .int .u8 x.c, .int .i32 x.n] 30)
      have X1 := heap_alloc_last wr (.cells #[.int .u8 x.o, .int .u8 x.a, .int .u8 x.b, .int .u8 x.c, .int .i32 x.n] 30)
      have K1 : Kept (fun k => k = g ∨ k = gm) wr (wr.alloc (.cells #[.int .u8 x.o, .int .u8 x.a, .int .u8 x.b, .int .u8 x.c, .int .i32 x.n] 30)) := (Kept.refl _ wr).alloc _
      have hq : wr.heap.size ≠ g := by omega
      have HALL : Hid (∀ i, i < wr.heap.size → (wr.alloc (.cells #[.int .u8 x.o, .int .u8 x.a, .int .u8 x.b, .int .u8 x.c, .int .i32 x.n] 30)).heap[i]? = wr.heap[i]?) := (fun i hi => Below.heap_alloc _ _ _ hi)
      clear c0 c1 c2 c3 c4 hf
      generalize wr.alloc (.cells #[.int .u8 x.o, .int .u8 x.a, .int .u8 x.b, .int .u8 x.c, .int .i32 x.n] 30) = w1 at own1 X1 K1 HALL ⊢
      generalize hqq : wr.heap.size = q at X1 hq ⊢
      have HQQ : Hid (wr.heap.size = q) := hqq
      clear hqq
      obtain ⟨c0, c1, c2, c3, c4, hf⟩ := row5 own1 (i := k) (by rw [HLL.out]; omega)
      obtain ⟨d0, d1, d2, d3, d4, _⟩ := row5 own1 (i := j) (by rw [HLL.out]; omega)
      rw [← hj, ← HY.out, hj] at d0 d1 d2 d3 d4
      have OWN2 : Hid ((((((w1.setCell ⟨g, k * 5, none⟩ (.int .u8 y.o)).setCell ⟨g, k * 5 + 1, none⟩ (.int .u8 y.a)).setCell ⟨g, k * 5 + 2, none⟩ (.int .u8 y.b)).setCell ⟨g, k * 5 + 3, none⟩ (.int .u8 y.c)).setCell ⟨g, k * 5 + 4, none⟩ (.int .i32 y.n)).ownsRow 0 30 5 (.slice (some ⟨g, 0, none⟩) n0 cap) n0 (icL (L.set k y))) := owns_lay5 own1 (by rw [HLL.out]; omega) y
      have K2 : Hid (Kept (fun k => k = g) w1 (((((w1.setCell ⟨g, k * 5, none⟩ (.int .u8 y.o)).setCell ⟨g, k * 5 + 1, none⟩ (.int .u8 y.a)).setCell ⟨g, k * 5 + 2, none⟩ (.int .u8 y.b)).setCell ⟨g, k * 5 + 3, none⟩ (.int .u8 y.c)).setCell ⟨g, k * 5 + 4, none⟩ (.int .i32 y.n))) := kept_lay5 w1 g k y
      clear hj HY
      go_upto_region 5 with fail
      generalize ((((w1.setCell ⟨g, k * 5, none⟩ (.int .u8 y.o)).setCell ⟨g, k * 5 + 1, none⟩ (.int .u8 y.a)).setCell ⟨g, k * 5 + 2, none⟩ (.int .u8 y.b)).setCell ⟨g, k * 5 + 3, none⟩ (.int .u8 y.c)).setCell ⟨g, k * 5 + 4, none⟩ (.int .i32 y.n) = w2 at OWN2 K2 ⊢
      clear c0 c1 c2 c3 c4 hf d0 d1 d2 d3 d4
      have X2 := K2.out.at' X1 hq
      obtain ⟨x0, x1, x2, x3, x4⟩ := cellsX X2
      obtain ⟨d0, d1, d2, d3, d4, hf⟩ := row5 OWN2.out (i := j) (by rw [List.length_set, HLL.out]; omega)
      have OWN3 : Hid ((((((w2.setCell ⟨g, j * 5, none⟩ (.int .u8 x.o)).setCell ⟨g, j * 5 + 1, none⟩ (.int .u8 x.a)).setCell ⟨g, j * 5 + 2, none⟩ (.int .u8 x.b)).setCell ⟨g, j * 5 + 3, none⟩ (.int .u8 x.c)).setCell ⟨g, j * 5 + 4, none⟩ (.int .i32 x.n)).ownsRow 0 30 5 (.slice (some ⟨g, 0, none⟩) n0 cap) n0 (icL ((L.set k y).set j x))) := owns_lay5 OWN2.out (by rw [List.length_set, HLL.out]; omega) x
      have K3 : Hid (Kept (fun k => k = g) w2 (((((w2.setCell ⟨g, j * 5, none⟩ (.int .u8 x.o)).setCell ⟨g, j * 5 + 1, none⟩ (.int .u8 x.a)).setCell ⟨g, j * 5 + 2, none⟩ (.int .u8 x.b)).setCell ⟨g, j * 5 + 3, none⟩ (.int .u8 x.c)).setCell ⟨g, j * 5 + 4, none⟩ (.int .i32 x.n))) := kept_lay5 w2 g j x
      have HTN3 : Hid (Tn6 w (((((w2.setCell ⟨g, j * 5, none⟩ (.int .u8 x.o)).setCell ⟨g, j * 5 + 1, none⟩ (.int .u8 x.a)).setCell ⟨g, j * 5 + 2, none⟩ (.int .u8 x.b)).setCell ⟨g, j * 5 + 3, none⟩ (.int .u8 x.c)).setCell ⟨g, j * 5 + 4, none⟩ (.int .i32 x.n)) g cap n0 gm capm m0) := by
        have kk := ((K1.trans K2.out (fun k e => .inl (.inl e))).trans K3.out (fun k e => .inl (.inl e)))
        obtain ⟨K, hK, h6, ownm⟩ := HTN.out.mem
        refine ⟨HTN.out.kept.trans kk (fun k e => .inl e), ⟨(L.set k y).set j x, by rw [List.length_set, List.length_set]; exact HLL.out, ?_, OWN3.out⟩, ⟨K, hK, h6, ?_⟩⟩
        · intro z hz
          rcases List.mem_or_eq_of_mem_set hz with h | h
          · rcases List.mem_or_eq_of_mem_set h with h | h
            · exact HOK.out z h
            · subst h; exact OX.out.2
          · subst h; exact OX.out.1
        · have k2 : Kept (fun k => k = g) wr (((((w2.setCell ⟨g, j * 5, none⟩ (.int .u8 x.o)).setCell ⟨g, j * 5 + 1, none⟩ (.int .u8 x.a)).setCell ⟨g, j * 5 + 2, none⟩ (.int .u8 x.b)).setCell ⟨g, j * 5 + 3, none⟩ (.int .u8 x.c)).setCell ⟨g, j * 5 + 4, none⟩ (.int .i32 x.n)) := ⟨kk.os, kk.tape, kk.output, kk.size, fun i hi hn => ?_⟩
          · exact k2.owns ownm (fun g' hg' e => by simp [Value.ownBlock] at hg'; omega)
          · have h1 : w1.heap[i]? = wr.heap[i]? := HALL.out i hi
            exact ((K3.out.block i (Nat.lt_of_lt_of_le hi (Nat.le_trans K1.size K2.out.size)) hn).trans (K2.out.block i (Nat.lt_of_lt_of_le hi K1.size) hn)).trans h1
      clear OWN3 K3
      go_wp2
      go_roundw
      case rel => exact ⟨k + 1, by omega, by go_num, HTN3.out⟩
      case measure => simp [intOf]; omega
    · have hkn : k = n / 2 := by omega
      subst hkn
      clear ht own
      go_wp2
      go_loopw [6] (fun i wr => ∃ k : Nat, k ≤ mn ∧ i = .int .i64 k ∧ Tn6 w wr g cap n0 gm capm m0) (fun i _ => mn - (intOf i).toNat)
      case atStart => exact ⟨0, by omega, rfl, HTN.out⟩
      case round =>
        obtain ⟨k, hk2, rfl, ht2⟩ := hrel
        have HT2 : Hid (Tn6 w wr g cap n0 gm capm m0) := ht2
        by_cases hlt2 : k < mn
        · obtain ⟨K, hK, h6, ownm⟩ := ht2.mem
          have H66 : Hid (∀ z ∈ K, I6 z) := h6
          clear h6
          obtain ⟨zz, z1⟩ := owns_ati ownm (g := gm) rfl (i := k) (by omega)
          generalize K.getD k 0 = z at zz
          have z0 : wr.cell? ⟨gm, k, none⟩ = some (.int .i64 z) := zz
          clear zz
          have HN : Hid (Tn6 w (wr.setCell ⟨gm, k, none⟩ (.int .i64 (wrap64 (-1 - z)))) g cap n0 gm capm m0) := by
            have kk : Kept (fun k => k = gm) wr (wr.setCell ⟨gm, k, none⟩ (.int .i64 (wrap64 (-1 - z)))) := Kept.setCell (p := ⟨gm, k, none⟩) (Kept.refl (fun k => k = gm) wr) (.inl rfl) _
            obtain ⟨L, hL, hok, own⟩ := HT2.out.code
            exact ⟨HT2.out.kept.trans kk (fun k e => .inl (.inr e)), ⟨L, hL, hok, kk.owns own (fun g' hg' e => by simp [Value.ownBlock] at hg'; omega)⟩, ⟨K.set k (wrap64 (-1 - z)), by rw [List.length_set]; exact hK, (fun y hy => by
              rcases List.mem_or_eq_of_mem_set hy with h | h
              · exact H66.out y h
              · rw [h]; exact w6 _), owns_seti ownm rfl (by omega) _⟩⟩
          clear ownm ht2 hK
          go_wp2
          go_roundw
          case rel => exact ⟨k + 1, by omega, by go_num, HN.out⟩
          case measure => simp [intOf]; omega
        · have hkm : k = mn := by omega
          subst hkm
          clear ht2
          go_wp2
          refine bodyPost_end (results_none rfl _ _ _) rfl ?_
          exact ⟨rfl, HT2.out⟩

theorem Sp.tn6 {W w : World} {C M : Value} {fx : Int} {R : Nat → Int} {pc : Int} {g cap n gm capm mn : Nat} {L : List Ins} {K : List Int} (h : Sp W w C M fx R pc g cap n gm capm mn L K) (h6 : ∀ z ∈ K, I6 z) : Tn6 w w g cap (n + 64) gm capm (mn + 64) :=
  ⟨Kept.refl _ w, ⟨L, h.ll, h.ok, h.code⟩, ⟨K, h.kl, h6, h.mem⟩⟩
theorem Sp.turn6 {W w w' : World} {C M : Value} {fx : Int} {R : Nat → Int} {pc : Int} {g cap n gm capm mn : Nat} {L : List Ins} {K : List Int} (h : Sp W w C M fx R pc g cap n gm capm mn L K) (t : Tn6 w w' g cap (n + 64) gm capm (mn + 64)) : ∃ L' K', Sp W w' C M fx R pc g cap n gm capm mn L' K' ∧ ∀ z ∈ K', I6 z := by
  obtain ⟨L', hl, hok, hc⟩ := t.code
  obtain ⟨K', hk, h6, hm⟩ := t.mem
  have k := t.kept
  have h0 := h.g0
  have h1 := h.g1
  exact ⟨L', K', ⟨⟨k.os.trans h.bel.os, k.tape.trans h.bel.tape, k.output.trans h.bel.output, Nat.le_trans h.bel.size k.size, fun i hi => (k.block i (Nat.lt_of_lt_of_le hi h.bel.size) (by omega)).trans (h.bel.block i hi)⟩, (k.block _ (heap_lt h.mac) (by omega)).trans h.mac, h0, h1, h.ne, hl, hk, hok, hc, hm⟩, h6⟩
theorem sx6_mac {W w : World} {C M : Value} {fx : Int} {R : Nat → Int} {pc : Int} {g cap n gm capm mn : Nat} (h : ∃ L K, Sp W w C M fx R pc g cap n gm capm mn L K ∧ ∀ z ∈ K, I6 z) : w.heap[W.heap.size]? = some (.cells (macC C M fx R pc) 36) := by
  obtain ⟨L, K, h, _⟩ := h
  exact h.mac

end Go.Proofs.YtijeaonldhccmaaDoor

namespace Go.Proofs.YtijeaonldhccmaaDoor
open Go.RowKit
set_option linter.unusedVariables false

section
variable {o : Oper} {a : Act} {w : World}
theorem er_ext0 (x : Operand) (ho : o.op = .extract x 0) (u v z : Value) (hx : a.eval x = .tuple #[u, v, z]) : (execOp a.eval o).run Tryd.prog w = .ok (.value u) w := by
  simp only [execOp, ho, hx]; simp [Instr.extract]
theorem er_ext1 (x : Operand) (ho : o.op = .extract x 1) (u v z : Value) (hx : a.eval x = .tuple #[u, v, z]) : (execOp a.eval o).run Tryd.prog w = .ok (.value v) w := by
  simp only [execOp, ho, hx]; simp [Instr.extract]
theorem er_ext2 (x : Operand) (ho : o.op = .extract x 2) (u v z : Value) (hx : a.eval x = .tuple #[u, v, z]) : (execOp a.eval o).run Tryd.prog w = .ok (.value z) w := by
  simp only [execOp, ho, hx]; simp [Instr.extract]
theorem er_ne3 (x y : Operand) (t : TypeId) (ho : o.op = .binOp .neq 3 x y t) (k : Int) (hx : a.eval x = .int .i64 k) (hy : a.eval y = .int .i64 k) : (execOp a.eval o).run Tryd.prog w = .ok (.value (.bool false)) w := by
  simp only [execOp, ho, hx, hy]; simp [go_sem]
theorem er_eq3 (x y : Operand) (t : TypeId) (ho : o.op = .binOp .eql 3 x y t) (k : Int) (hx : a.eval x = .int .i64 k) (hy : a.eval y = .int .i64 k) : (execOp a.eval o).run Tryd.prog w = .ok (.value (.bool true)) w := by
  simp only [execOp, ho, hx, hy]; simp [go_sem]
theorem er_add3 (x y : Operand) (t : TypeId) (ho : o.op = .binOp .add 3 x y t) (k l r : Int) (hx : a.eval x = .int .i64 k) (hy : a.eval y = .int .i64 l) (hr : wrap64 (k + l) = r) : (execOp a.eval o).run Tryd.prog w = .ok (.value (.int .i64 r)) w := by
  subst hr
  simp only [execOp, ho, hx, hy]; simp [go_sem, w64i]
theorem er_pickT (c x y : Operand) (ho : o.op = .pick c x y) (hx : a.eval c = .bool true) : (execOp a.eval o).run Tryd.prog w = .ok (.value (a.eval x)) w := by
  simp only [execOp, ho, hx]; rfl
theorem er_mv (x : Operand) (ho : o.op = .move x) (v : Value) (hx : a.eval x = v) : (execOp a.eval o).run Tryd.prog w = .ok (.value v) w := by simp only [execOp, ho, hx]; rfl
theorem er_as (x : Operand) (ho : o.op = .assign x) (v : Value) (hx : a.eval x = v) : (execOp a.eval o).run Tryd.prog w = .ok (.value v) w := by simp only [execOp, ho, hx]; rfl
theorem er_nt (x : Operand) (ho : o.op = .unOp .not 4 x) (hx : a.eval x = .bool true) : (execOp a.eval o).run Tryd.prog w = .ok (.value (.bool false)) w := by
  simp only [execOp, ho, hx]; simp [go_sem]
theorem er_pk (c x y : Operand) (ho : o.op = .pick c x y) (v : Value) (hc : a.eval c = .bool false) (hy : a.eval y = v) : (execOp a.eval o).run Tryd.prog w = .ok (.value v) w := by
  subst hy; simp only [execOp, ho, hc]; rfl
theorem er_pt (c x y : Operand) (ho : o.op = .pick c x y) (v : Value) (hc : a.eval c = .bool true) (hx : a.eval x = v) : (execOp a.eval o).run Tryd.prog w = .ok (.value v) w := by
  subst hx; simp only [execOp, ho, hc]; rfl
theorem er_call_cpu_Run (x0 x1 x2 x3 x4 x5 : Operand) (ts : Array TypeId) (ho : o.op = .call { callee := .value (.func 17), args := #[x0, x1, x2, x3, x4, x5], argTypes := ts }) : (execOp a.eval o).run Tryd.prog w = .ok (.enter 17 #[a.eval x0, a.eval x1, a.eval x2, a.eval x3, a.eval x4, a.eval x5]) w := by
  simp [execOp, ho, go_sem, Act.eval]
theorem er_call_ref_Run (x0 x1 x2 x3 x4 x5 : Operand) (ts : Array TypeId) (ho : o.op = .call { callee := .value (.func 24), args := #[x0, x1, x2, x3, x4, x5], argTypes := ts }) : (execOp a.eval o).run Tryd.prog w = .ok (.enter 24 #[a.eval x0, a.eval x1, a.eval x2, a.eval x3, a.eval x4, a.eval x5]) w := by
  simp [execOp, ho, go_sem, Act.eval]
end

section
variable {P : Program} {ops : Array Oper} {Q : Exit → Act → World → Prop} {rest : List Oper} {op : Oper} {a : Act} {w : World}
theorem l_take (k : Nat) {v : Value} (hd : op.dst = some k) (hw : Region.wanted op (yielded ops a.tmps) = true) (hr : (execOp a.eval op).run P w = .ok (.value v) w) (h : wpList P ops Q rest (a.put (some k) v) w) : wpList P ops Q (op :: rest) a w :=
  wg_val hw hr (by rw [hd]; exact h)
theorem l_make (k : Nat) {v : Value} {w' : World} (hd : op.dst = some k) (hw : Region.wanted op (yielded ops a.tmps) = true) (hr : (execOp a.eval op).run P w = .ok (.value v) w') (h : wpList P ops Q rest (a.put (some k) v) w') : wpList P ops Q (op :: rest) a w :=
  wg_val hw hr (by rw [hd]; exact h)
theorem l_turn {w' : World} (hd : op.dst = none) (hw : Region.wanted op (yielded ops a.tmps) = true) (hr : (execOp a.eval op).run P w = .ok .skip w') (h : wpList P ops Q rest a w') : wpList P ops Q (op :: rest) a w :=
  BigFrame.wpList_want hw fun K hK => by unfold Oper.wp; rw [hr]; exact hK _ _ (by rw [hd]; exact h)
theorem l_call (k : Nat) {f : FuncId} {args : Array Value} {R : Ending → World → Prop} (hd : op.dst = some k) (hw : Region.wanted op (yielded ops a.tmps) = true) (hr : (execOp a.eval op).run P w = .ok (.enter f args) w) (hc : Calls P f args w R)
    (h : ∀ e w', R e w' → ∃ v, e = .returned v ∧ wpList P ops Q rest (a.put (some k) v) w') : wpList P ops Q (op :: rest) a w :=
  BigFrame.wpList_want hw fun K hK => by
    unfold Oper.wp
    rw [hr]
    refine hc.mono ?_
    intro e w' he
    obtain ⟨v, rfl, h2⟩ := h e w' he
    exact hK _ _ (by rw [hd]; exact h2)
end

section
variable {P : Program} {md : Region.Mode} {ops : Array Oper} {Q : Exit → Act → World → Prop} {S : World → Prop} {fuel : Nat} {listed : Array Bool} {a : Act} {w : World}
/-- a call whose answer is new and a cell may come up: both orders -/
theorem d_twoN (T : Value → World → Prop) (i k j l : Nat) {oi oj : Oper} {f : FuncId} {args : Array Value} {u : Value} {w' : World} (hr : Region.ready md ops listed = [i, j]) (hi : ops[i]? = some oi) (hj : ops[j]? = some oj) (hd : oi.dst = some k) (hdj : oj.dst = some l) (hw : Region.wanted oi (yielded ops a.tmps) = true) (hwj : Region.wanted oj (yielded ops a.tmps) = true) (hrun : (execOp a.eval oi).run P w = .ok (.enter f args) w) (hrunj : (execOp a.eval oj).run P w = .ok (.value u) w')
    (hc : Calls P f args w fun e w'' => ∃ v, e = .returned v ∧ S w'' ∧ T v w'') (hS : S w') (h : ∀ v w'', S w'' → T v w'' → wpAnyH P md ops Q S fuel (listed.setIfInBounds i true) (a.put (some k) v) w'') (h' : wpAnyH P md ops Q S fuel (listed.setIfInBounds j true) (a.put (some l) u) w') : wpAnyH P md ops Q S (fuel + 1) listed a w := by
  refine wpAnyH_ready hr (by simp) (AllReadyH.cons hi (fun K hK => ?_) (AllReadyH.cons hj (fun K hK => ?_) AllReadyH.nil))
  · rw [if_pos hw]
    unfold Oper.wp
    rw [hrun]
    refine hc.mono ?_
    rintro e w'' ⟨v, rfl, hS, hT⟩
    exact hK.out _ _ hS (fun _ => by rw [hd]; exact h v w'' hS hT)
  · rw [if_pos hwj]
    unfold Oper.wp
    rw [hrunj]
    exact hK.out _ _ hS (fun _ => by rw [hdj]; exact h')
end

/-- the machine and the lists, since a world -/
structure Sq (W wS w : World) (C M : Value) (fx : Int) (R : Nat → Int) (pc : Int) (g cap n gm capm mn : Nat) (L : List Ins) (K : List Int) : Prop where
  sp : Sp W w C M fx R pc g cap n gm capm mn L K
  bel : Below wS.heap.size wS w
  lt : W.heap.size < wS.heap.size ∧ g < wS.heap.size ∧ gm < wS.heap.size
namespace Sq
variable {W wS w w' : World} {C M : Value} {fx : Int} {R : Nat → Int} {pc : Int} {g cap n gm capm mn : Nat} {L : List Ins} {K : List Int}
theorem grow (h : Sq W wS w C M fx R pc g cap n gm capm mn L K) (b : Below w.heap.size w w') : Sq W wS w' C M fx R pc g cap n gm capm mn L K :=
  ⟨h.sp.grow b, h.bel.trans (b.mono h.bel.size), h.lt⟩
theorem start (h : Sp W w C M fx R pc g cap n gm capm mn L K) : Sq W w w.drew C M fx R pc g cap n gm capm mn L K :=
  ⟨h.drew, (Below.refl _ w).drew, h.lts⟩
theorem alloc (h : Sq W wS w C M fx R pc g cap n gm capm mn L K) (o : Obj) : Sq W wS (w.alloc o) C M fx R pc g cap n gm capm mn L K :=
  h.grow ((Below.refl _ w).alloc (Nat.le_refl _) o)
theorem store (h : Sq W wS w C M fx R pc g cap n gm capm mn L K) {q : Nat} (hq : wS.heap.size ≤ q) (cs : Array Value) : Sq W wS (w.setRow q cs) C M fx R pc g cap n gm capm mn L K := by
  obtain ⟨h1, h2, h3⟩ := h.lt
  exact ⟨h.sp.store (by omega) (by omega) (by omega) cs, ⟨h.bel.os, h.bel.tape, h.bel.output, by simpa [World.setRow] using h.bel.size, fun i hi => (setRow_other _ _ _ _ (by omega)).trans (h.bel.block i hi)⟩, h.lt⟩
end Sq

theorem own_new {w : World} {B n : Nat} {u : Value} {xs : List Value} (h : w.ownsRow B 2 1 u n xs) (o : Obj) (cs : Array Value) : ((w.alloc o).setRow w.heap.size cs).ownsRow B 2 1 u n xs :=
  (kept_setRow _ _ _).owns (((Kept.refl No w).alloc _).owns h (fun _ _ h => h)) (fun k hk e => by have := (h.lt k hk).2; omega)
theorem own_row {w : World} {B B' q n : Nat} {u : Value} {xs : List Value} (h : w.ownsRow B 2 1 u n xs) (hq : q < B) (hB : B' ≤ B) (cs : Array Value) : (w.setRow q cs).ownsRow B' 2 1 u n xs :=
  owns_mono ((kept_setRow _ _ _).owns h (fun k hk e => by have := (h.lt k hk).1; omega)) hB
theorem own_below {w w' : World} {B n : Nat} {u : Value} {xs : List Value} (h : w.ownsRow B 2 1 u n xs) (b : Below w.heap.size w w') : w'.ownsRow B 2 1 u n xs :=
  (Kept.of_below (F := No) b).owns h (fun _ _ h => h)
theorem zrow {w : World} {B n : Nat} {a : Option Addr} {c : Nat} {xs : List Int} (h : w.ownsRow B 2 1 (.slice a n c) n (xs.map iv)) : Zs w (fun k => (Value.slice a n c).ownBlock = some k) a n c xs := by
  have hl : xs.length = n := by have := h.1; simpa using this
  subst hl
  obtain ⟨a', c', hv, hz⟩ := Zs.of_owns h
  injection hv with q1 q2 q3
  subst q1 q3
  exact hz

theorem run_own (F G : Nat → Prop) (R : Nat → Int) (p m : Option Addr) (n cc mn mc : Nat) (fx pc most : Int) (xs : List Ins) (ms : List Int) (w : World) (hc : Cs w F p n cc xs) (hz : Zs w G m mn mc ms) (hO : Ops w) (hmn : mn ≤ 17592186043904) (hmost : most ≤ 6000) (r : (Ef × List Int) × Nat) (hr : r = runN xs fx most.toNat (⟨R, pc, false, 0, 0, 0, 0⟩, ms)) :
    Calls Tryd.prog 17 #[.slice p n cc, .slice m mn mc, .int .i64 fx, regV R, .int .i64 pc, .int .i64 most] w fun ex w' =>
      ∃ v, ex = .returned (.tuple #[r.1.1.v, v, .int .i64 r.2]) ∧ w'.ownsRow w.heap.size 2 1 v mn (r.1.2.map iv) ∧ Below w.heap.size w w' := by
  subst hr
  exact run_any F G R p m n cc mn mc fx pc most xs ms w hc hz hO hmn hmost

/-- what stands behind the three runs: the machine, the lists, three rows -/
structure Rv (W w : World) (C M : Value) (fx : Int) (R : Nat → Int) (pc : Int) (g cap n gm capm mn : Nat) (L : List Ins) (K : List Int) (u8 u11 u14 : Value) (z : List Int) : Prop where
  sp : Sp W w C M fx R pc g cap n gm capm mn L K
  o8 : w.ownsRow 0 2 1 u8 mn (z.map iv)
  o11 : w.ownsRow 0 2 1 u11 mn (z.map iv)
  o14 : w.ownsRow 0 2 1 u14 mn (z.map iv)
theorem Rv.grow {W w w' : World} {C M : Value} {fx : Int} {R : Nat → Int} {pc : Int} {g cap n gm capm mn : Nat} {L : List Ins} {K : List Int} {u8 u11 u14 : Value} {z : List Int} (h : Rv W w C M fx R pc g cap n gm capm mn L K u8 u11 u14 z) (b : Below w.heap.size w w') : Rv W w' C M fx R pc g cap n gm capm mn L K u8 u11 u14 z :=
  ⟨h.sp.grow b, own_below h.o8 b, own_below h.o11 b, own_below h.o14 b⟩

/-- what stands while the first row is written over and gone on with: the others lie elsewhere -/
structure Rx (W w : World) (C M : Value) (fx : Int) (R : Nat → Int) (pc : Int) (g cap n gm capm mn : Nat) (L : List Ins) (K : List Int) (v u11 u14 : Value) (z : List Int) (k : Nat) : Prop where
  sp : Sp W w C M fx R pc g cap n gm capm mn L K
  o11 : w.ownsRow 0 2 1 u11 mn (z.map iv)
  o14 : w.ownsRow 0 2 1 u14 mn (z.map iv)
  own : ∃ zs : List Int, w.ownsRow 0 2 1 v k (zs.map iv)
  far : ∀ b, v.ownBlock = some b → W.heap.size < b ∧ b ≠ g ∧ b ≠ gm ∧ u11.ownBlock ≠ some b ∧ u14.ownBlock ≠ some b
namespace Rx
variable {W w w' : World} {C M : Value} {fx : Int} {R : Nat → Int} {pc : Int} {g cap n gm capm mn : Nat} {L : List Ins} {K : List Int} {v v' u11 u14 : Value} {z : List Int} {k : Nat}
theorem sp_kept (h : Sp W w C M fx R pc g cap n gm capm mn L K) {F : Nat → Prop} (kp : Kept F w w') (hF : ∀ b, F b → W.heap.size < b ∧ b ≠ g ∧ b ≠ gm) : Sp W w' C M fx R pc g cap n gm capm mn L K := by
  have hl := heap_lt h.mac
  exact ⟨⟨kp.os.trans h.bel.os, kp.tape.trans h.bel.tape, kp.output.trans h.bel.output, Nat.le_trans h.bel.size kp.size, fun i hi => (kp.block i (by omega) (fun e => by have := hF i e; omega)).trans (h.bel.block i hi)⟩, (kp.block _ hl (fun e => by have := hF _ e; omega)).trans h.mac, h.g0, h.g1, h.ne, h.ll, h.kl, h.ok, kp.owns h.code (fun b hb e => by simp [Value.ownBlock] at hb; exact (hF b e).2.1 hb.symm), kp.owns h.mem (fun b hb e => by simp [Value.ownBlock] at hb; exact (hF b e).2.2 hb.symm)⟩
theorem turned (h : Rx W w C M fx R pc g cap n gm capm mn L K v u11 u14 z k) {k' : Nat} (kp : Kept (fun b => v.ownBlock = some b) w w') (ow : ∃ zs : List Int, w'.ownsRow 0 2 1 v' k' (zs.map iv)) (hb : v'.ownBlock = v.ownBlock ∨ ∃ b, v'.ownBlock = some b ∧ w.heap.size ≤ b) : Rx W w' C M fx R pc g cap n gm capm mn L K v' u11 u14 z k' := by
  have hl := h.sp.lts
  refine ⟨sp_kept h.sp kp (fun b e => ⟨(h.far b e).1, (h.far b e).2.1, (h.far b e).2.2.1⟩), kp.owns h.o11 (fun b hb e => (h.far b e).2.2.2.1 hb), kp.owns h.o14 (fun b hb e => (h.far b e).2.2.2.2 hb), ow, ?_⟩
  intro b e
  rcases hb with hb | ⟨b', hb, hge⟩
  · exact h.far b (hb ▸ e)
  · rw [hb] at e
    injection e with e
    subst e
    refine ⟨by omega, by omega, by omega, fun e => ?_, fun e => ?_⟩
    · have := (h.o11.lt _ e).2; omega
    · have := (h.o14.lt _ e).2; omega
end Rx

/-- 'append' onto an own row of words -/
theorem wpList_append_at {w : World} {ops : Array Oper} {rest : List Oper} {o : Oper} {a : Act} {Q : Exit → Act → World → Prop} (hgd : o.guard = none) (s x : Operand)
    (ho : o.op = .call { callee := .builtin .append, args := #[s, x], argTypes := #[34, 34] }) (v : Value) (n : Nat) (xs : List Int) (hs : a.eval s = v) (hown : w.ownsRow 0 2 1 v n (xs.map iv)) (ad : Addr) (c : Nat) (y : Int) (hx : a.eval x = .slice (some ad) 1 c) (hnews : ∀ j u, [iv y][j]? = some u → w.cell? (ad.add j) = some u) (hn : n ≤ 17592186044000)
    (h : ∀ v' w', Hid (∃ zs : List Int, w'.ownsRow 0 2 1 v' (n + 1) (zs.map iv)) → Hid (Kept (fun b => v.ownBlock = some b) w w') → Hid (v'.ownBlock = v.ownBlock ∨ ∃ b, v'.ownBlock = some b ∧ w.heap.size ≤ b) → wpList Tryd.prog ops Q rest (a.put o.dst v') w') : wpList Tryd.prog ops Q (o :: rest) a w := by
  obtain ⟨i0, hi, hz0, hz1, hz2⟩ := info_parts infoW
  obtain ⟨v', w', hr, h2, h3, h4, h5⟩ := run_append_own_at (P := Tryd.prog) (w := w) 0 34 o.type 2 i0 (.int .i64 0) 1 8 Tryd.underlying34 hi hz0 hz1 hz2 rfl (by decide) v n (xs.map iv) hown ad 1 c [iv y] rfl hnews (one_one _ _) (by unfold maxLen; omega) (by omega) (Nat.zero_le _)
  refine wpList_plain hgd fun K hK => ?_
  unfold Oper.wp execOp
  simp only [ho, resolve, invoke, builtin, Sem.run_bind, Sem.run_pure, Result.andThen_ok, List.map_toArray, List.map_cons, List.map_nil, hs, hx, hr]
  refine hK _ _ (h v' w' ⟨xs ++ [y], by rw [List.map_append]; exact h2⟩ ?_ ?_)
  · exact (Kept.refl _ w).grown h3 (fun k e => .inl e)
  · rcases h5 with h5 | h5
    · exact .inl h5
    · exact .inr ⟨_, h5, Nat.le_refl _⟩

end Go.Proofs.YtijeaonldhccmaaDoor
