/-
  One text: SRange, SRound.
-/
import Derived.Test.YtkmpgcgdamcikaaGreatDoorORange
import Derived.RegionIn
import Derived.Deep.RegionHeld
namespace Go.Proofs.YtkmpgcgdamcikaaGreatDoor
open Go.RowKit Go.Shelf
set_option linter.unusedVariables false

def TakesL (P : Program) (l : Nat) (el : Nat → Array Value) (b : Nat) (J Jx : St) : Prop :=
  ∀ (m q : Nat) (W : World) (S : Nat → Prop), J q W S → q < b →
    YieldAt Fence.wide m P l (el q) W (Took J Jx (q + 1) W S)

/-- an iterator that tells the elements from number 0 on and below b; G: the blocks of w that it reads -/
def GivesL (P : Program) (g : Nat) (lb : Array Value) (el : Nat → Array Value) (b : Nat) (w : World) (G : Nat → Prop) : Prop :=
  ∀ (l : Nat) (J Jx : St) (W : World) (S : Nat → Prop), w.heap.size ≤ W.heap.size → (∀ k, G k → W.heap[k]? = w.heap[k]?) → (∀ k, G k → ¬ S k) → Hangs J → Hangs Jx → TakesL P l el b J Jx → J 0 W S →
    Calls P g (#[.func (.yield l) #[] #[]] ++ lb) W fun e W' => (∃ v, e = .returned v) ∧ ∃ S', Kept S W W' ∧ More S W S' ∧ (J b W' S' ∨ ∃ q, Jx q W' S')

theorem range_list {P : Program} {n : Nat} {g : Operand} {ps : Array Tmp} {assign body : Code} {Q : Exit → Act → World → Prop} {a : Act} {w : World}
    {gf : Nat} {lb : Array Value} (hg : a.eval g = .func (.func gf) #[] lb) (eg : ∀ args w, (callFunc gf args).run P w = .ok (.enter gf args) w) (hps : ps.size = 2)
    {el : Nat → Array Value} (hel : ∀ q, (el q).size = 2) {b : Nat} {w0 : World} {G : Nat → Prop} (hseq : GivesL P gf lb el b w0 G) (hw0 : w0.heap.size ≤ w.heap.size) (hG : ∀ k, G k → k < w.heap.size ∧ w.heap[k]? = w0.heap[k]?)
    (I : St) (Ix : Code → St) (hI : Hangs I) (hIx : ∀ c, Hangs (Ix c)) {S0 : Nat → Prop} (h0 : I 0 w S0) (hGS : ∀ k, G k → ¬ S0 k) (ob : Nat → Obj) (a₁ : Nat → Nat → Act)
    (hassign : ∀ (l q : Nat) (W : World) (K : Act → World → Prop), q < b → K (a₁ q W.heap.size) (W.alloc (ob q)) →
      assign.wpIn (Fence.wide.inRound l) n P (Exit.then K (fun _ _ _ => False)) { tmps := (ps.zip (el q)).foldl (fun t (p, v) => t.setIfInBounds p v) a.tmps, defers := [] } W)
    (hbody : ∀ (l q B : Nat) (W : World) (S : Nat → Prop), I q W S → ¬ S B → W.heap[B]? = some (ob q) → q < b → body.wpIn (Fence.wide.inRound l) n P (roundP I Ix (q + 1) W S) (a₁ q B) W)
    (hdone : ∀ (D : Nat) (W : World) (S' : Nat → Prop), Kept S0 w W → More S0 w S' → I b W S' → ¬ S' D → w.heap.size ≤ D → W.heap[D]? = some (.deferred (some [])) → Q .normal { a with defers := { target := .collected D, args := #[] } :: a.defers } W)
    (hstop : ∀ (D : Nat) (c : Code) (q : Nat) (W : World) (S' : Nat → Prop), Kept S0 w W → More S0 w S' → Ix c q W S' → ¬ S' D → w.heap.size ≤ D → W.heap[D]? = some (.deferred (some [])) → c.wpIn Fence.wide n P Q { a with defers := { target := .collected D, args := #[] } :: a.defers } W) :
    (Code.rangeFunc g ps assign body).wpIn Fence.wide n P Q a w := by
  refine wpIn_rangeFunc ?_
  intro fn hfn
  obtain ⟨rec, hrec⟩ : ∃ rec : LoopState → Option Code → Loop, rec = fun st pe => { state := st, pending := pe, fn, tmps := a.tmps, params := ps, assign, body, defers := w.heap.size } := ⟨_, rfl⟩
  obtain ⟨W1, hW1⟩ : ∃ W1, (w.alloc (.deferred (some []))).alloc (.loop (rec .ready none)) = W1 := ⟨_, rfl⟩
  have hL1 : W1.heap[w.heap.size + 1]? = some (.loop (rec .ready none)) := by
    rw [← hW1]; have := World.alloc_heap_new (w.alloc (.deferred (some []))) (.loop (rec .ready none)); rwa [World.size_alloc] at this
  have hK1 : W1.heap[w.heap.size]? = some (.deferred (some [])) := by
    rw [← hW1]; exact (Below.heap_alloc _ _ _ (by simp)).trans (World.alloc_heap_new w _)
  have hk1 : Kept S0 w W1 := by rw [← hW1]; exact ((Kept.refl S0 w).alloc _).alloc _
  have hb1 : ∀ k, k < w.heap.size → W1.heap[k]? = w.heap[k]? := fun k hk => by
    have : Kept No w W1 := by rw [← hW1]; exact ((Kept.refl No w).alloc _).alloc _
    exact this.block k hk (fun h => h)
  have hold := hI.old _ _ _ h0
  have hI1 : I 0 W1 S0 := hI.kept _ w W1 S0 h0 hk1.size (fun k hk => hb1 k (hold k hk))
  have hsz : W1.heap.size = w.heap.size + 2 := by rw [← hW1]; simp
  refine ⟨w.heap.size + 1, [{ target := .collected w.heap.size, args := #[] }], W1, { target := .fn (.func gf) lb, args := #[.func (.yield (w.heap.size + 1)) #[] #[]] }, W1, gf,
    #[.func (.yield (w.heap.size + 1)) #[] #[]] ++ lb, W1, ?_, ?_, ?_, ?_, ?_, ?_⟩
  · rw [← hW1, hrec]; exact run_enterLoop_outer _ _ _ _ _
  · simp only [resolve, hg]
    simp [go_sem]
  · intro f' hf'; trivial
  · simp [invoke, go_sem, eg]
  · intro h; simp [Fence.wide] at h
  · refine callsIn_wide.2 ?_
    refine (hseq (w.heap.size + 1)
      (fun q W S => ∃ S1, S = And2 S1 (w.heap.size + 1) w.heap.size ∧ I q W S1 ∧ ¬ S1 (w.heap.size + 1) ∧ ¬ S1 w.heap.size ∧ W.heap[w.heap.size + 1]? = some (.loop (rec .ready none)) ∧ W.heap[w.heap.size]? = some (.deferred (some [])))
      (fun q W S => ∃ S1 c, S = And2 S1 (w.heap.size + 1) w.heap.size ∧ Ix c q W S1 ∧ ¬ S1 (w.heap.size + 1) ∧ ¬ S1 w.heap.size ∧ W.heap[w.heap.size + 1]? = some (.loop (rec .done (some c))) ∧ W.heap[w.heap.size]? = some (.deferred (some [])))
      W1 (And2 S0 (w.heap.size + 1) w.heap.size) (by omega) (fun k hk => (hb1 k (hG k hk).1).trans (hG k hk).2) ?gs ?j ?jx ?tk ?start).mono ?_
    case gs =>
      rintro k hk (h | h | h)
      · exact hGS k hk h
      · have := (hG k hk).1; omega
      · have := (hG k hk).1; omega
    case start => exact ⟨S0, rfl, hI1, fun h => by have := hold _ h; omega, fun h => by have := hold _ h; omega, hL1, hK1⟩
    case j =>
      refine ⟨?_, ?_⟩
      · rintro q W S ⟨S1, rfl, hi, h1, h2, hl, hd⟩ k (hk | hk | hk)
        · exact hI.old _ _ _ hi k hk
        · subst hk; exact heap_lt hl
        · subst hk; exact heap_lt hd
      · rintro q W W' S ⟨S1, rfl, hi, h1, h2, hl, hd⟩ hs hk
        exact ⟨S1, rfl, hI.kept _ W W' S1 hi hs (fun k h => hk k (.inl h)), h1, h2, (hk _ (.inr (.inl rfl))).trans hl, (hk _ (.inr (.inr rfl))).trans hd⟩
    case jx =>
      refine ⟨?_, ?_⟩
      · rintro q W S ⟨S1, c, rfl, hi, h1, h2, hl, hd⟩ k (hk | hk | hk)
        · exact (hIx c).old _ _ _ hi k hk
        · subst hk; exact heap_lt hl
        · subst hk; exact heap_lt hd
      · rintro q W W' S ⟨S1, c, rfl, hi, h1, h2, hl, hd⟩ hs hk
        exact ⟨S1, c, rfl, (hIx c).kept _ W W' S1 hi hs (fun k h => hk k (.inl h)), h1, h2, (hk _ (.inr (.inl rfl))).trans hl, (hk _ (.inr (.inr rfl))).trans hd⟩
    case tk =>
      rintro m q W S ⟨S1, rfl, hi, h1, h2, hl, hk⟩ hb
      have hlt0 : w.heap.size + 1 < W.heap.size := heap_lt hl
      have hy := run_yield (P := P) (args := (el q)) hl (by rw [hrec]; simp [hps, hel])
      rw [hrec] at hy
      have hold1 := hI.old _ _ _ hi
      have hB0 : ¬ S1 W.heap.size := fun h => by have := hold1 _ h; omega
      have hB1 : (W.alloc (ob q)).heap[W.heap.size]? = some (ob q) := World.alloc_heap_new _ _
      have hka : Kept (And2 S1 (w.heap.size + 1) w.heap.size) W (W.alloc (ob q)) := (Kept.refl _ W).alloc _
      have hia : I q (W.alloc (ob q)) S1 := hI.kept _ W _ S1 hi (by simp) (fun k hs => Below.heap_alloc _ _ _ (hold1 k hs))
      have hla : (W.alloc (ob q)).heap[w.heap.size + 1]? = some (.loop (rec .ready none)) := (Below.heap_alloc _ _ _ hlt0).trans hl
      have hda : (W.alloc (ob q)).heap[w.heap.size]? = some (.deferred (some [])) := (Below.heap_alloc _ _ _ (by omega)).trans hk
      have hWs : W.heap.size ≤ (W.alloc (ob q)).heap.size := by simp
      refine ⟨fn, _, assign, body, hy, RoundIn.any (m := n) (roundIn_of_wpIn hfn (hassign _ q W _ hb ?_))⟩
      clear hy hl hk hi
      generalize hBn : W.heap.size = Bn at *
      generalize hWa : W.alloc (ob q) = Wa at *
      have hlt : w.heap.size + 1 < Wa.heap.size := heap_lt hla
      refine ⟨_, run_beginRound hla (by rw [hrec]), ?_⟩
      have hl2 : (Wa.putObj (w.heap.size + 1) (.loop { rec .ready none with state := .busy })).heap[w.heap.size + 1]? = some (.loop { rec .ready none with state := .busy }) := World.putObj_heap_same hlt
      have hk2 : (Wa.putObj (w.heap.size + 1) (.loop { rec .ready none with state := .busy })).heap[w.heap.size]? = some (.deferred (some [])) := (World.putObj_heap_other (by omega)).trans hda
      refine wpIn_mono (hbody (w.heap.size + 1) q Bn _ S1 (hI.put hia _ h1) hB0 ((World.putObj_heap_other (by omega)).trans hB1) hb) ?_
      have fin : ∀ (jump : Option Code) (W3 : World) (S3 : Nat → Prop), Kept S1 (Wa.putObj (w.heap.size + 1) (.loop { rec .ready none with state := .busy })) W3 → More S1 (Wa.putObj (w.heap.size + 1) (.loop { rec .ready none with state := .busy })) S3 →
          (Instr.endRound (w.heap.size + 1) jump).run P W3 = .ok (.bool jump.isNone) (W3.putObj (w.heap.size + 1) (.loop (rec (if jump.isNone then .ready else .done) jump))) ∧
          (W3.putObj (w.heap.size + 1) (.loop (rec (if jump.isNone then .ready else .done) jump))).heap[w.heap.size + 1]? = some (.loop (rec (if jump.isNone then .ready else .done) jump)) ∧
          (W3.putObj (w.heap.size + 1) (.loop (rec (if jump.isNone then .ready else .done) jump))).heap[w.heap.size]? = some (.deferred (some [])) ∧ ¬ S3 (w.heap.size + 1) ∧ ¬ S3 w.heap.size ∧
          Kept (And2 S1 (w.heap.size + 1) w.heap.size) W (W3.putObj (w.heap.size + 1) (.loop (rec (if jump.isNone then .ready else .done) jump))) ∧ More (And2 S1 (w.heap.size + 1) w.heap.size) W (And2 S3 (w.heap.size + 1) w.heap.size) := fun jump W3 S3 hk3 hm3 => by
        have hl3 := hk3.at' hl2 h1
        have hd3 := hk3.at' hk2 h2
        have hrun := run_endRound (P := P) jump hl3
        have n1 : ¬ S3 (w.heap.size + 1) := fun h => by
          rcases hm3 _ h with h' | h'
          · exact h1 h'
          · simp at h'; omega
        have n2 : ¬ S3 w.heap.size := fun h => by
          rcases hm3 _ h with h' | h'
          · exact h2 h'
          · simp at h'; omega
        have kall : ∀ o, Kept (And2 S1 (w.heap.size + 1) w.heap.size) W (W3.putObj (w.heap.size + 1) o) := fun o => by
          have k1 : Kept (And2 S1 (w.heap.size + 1) w.heap.size) W (Wa.putObj (w.heap.size + 1) (.loop { rec .ready none with state := .busy })) := hka.trans (kept_put (S := And2 S1 (w.heap.size + 1) w.heap.size) _ (.inr (.inl rfl))) (fun k h => .inl h)
          have k2 := k1.trans hk3 (fun k h => .inl (.inl h))
          exact k2.trans (kept_put (S := And2 S1 (w.heap.size + 1) w.heap.size) o (.inr (.inl rfl))) (fun k h => .inl h)
        refine ⟨?_, World.putObj_heap_same (heap_lt hl3), (World.putObj_heap_other (by omega)).trans hd3, n1, n2, kall _, ?_⟩
        · rw [hrec] at hrun ⊢; exact hrun
        · rintro k (h | h | h)
          · rcases hm3 k h with h' | h'
            · exact .inl (.inl h')
            · exact .inr (by simp at h'; omega)
          · exact .inl (.inr (.inl h))
          · exact .inl (.inr (.inr h))
      rintro e a3 W3 hp
      cases e with
      | normal =>
        obtain ⟨S3, hk3, hm3, hi3⟩ := hp
        obtain ⟨hr, hl4, hk4, n1, n2, ka, mo⟩ := fin none W3 S3 hk3 hm3
        exact ⟨_, _, hr, _, ka, mo, .inl ⟨rfl, S3, rfl, hI.put hi3 _ n1, n1, n2, hl4, hk4⟩⟩
      | ret =>
        obtain ⟨S3, hk3, hm3, hi3⟩ := hp
        obtain ⟨hr, hl4, hk4, n1, n2, ka, mo⟩ := fin (some .ret) W3 S3 hk3 hm3
        exact ⟨_, _, hr, _, ka, mo, .inr ⟨rfl, S3, _, rfl, (hIx _).put hi3 _ n1, n1, n2, hl4, hk4⟩⟩
      | exit id =>
        obtain ⟨S3, hk3, hm3, hi3⟩ := hp
        obtain ⟨hr, hl4, hk4, n1, n2, ka, mo⟩ := fin (some (.exit id)) W3 S3 hk3 hm3
        exact ⟨_, _, hr, _, ka, mo, .inr ⟨rfl, S3, _, rfl, (hIx _).put hi3 _ n1, n1, n2, hl4, hk4⟩⟩
      | goto t =>
        obtain ⟨S3, hk3, hm3, hi3⟩ := hp
        obtain ⟨hr, hl4, hk4, n1, n2, ka, mo⟩ := fin (some (.goto t)) W3 S3 hk3 hm3
        exact ⟨_, _, hr, _, ka, mo, .inr ⟨rfl, S3, _, rfl, (hIx _).put hi3 _ n1, n1, n2, hl4, hk4⟩⟩
      | panic ch => exact hp.elim
      | outgrown => exact hp.elim
    · -- behind the iterator
      rintro e W2 ⟨⟨v, rfl⟩, S', hk2, hm2, hj⟩
      have kall : ∀ o, Kept S0 w (W2.putObj (w.heap.size + 1) o) := fun o => by
        have k1 := hk1.trans hk2 (fun k h => by rcases h with h | h | h; exact .inl h; exact .inr (by omega); exact .inr (by omega))
        exact k1.trans (kept_put (S := fun k => k = w.heap.size + 1) o rfl) (fun k h => .inr (by omega))
      have mall : ∀ S1, (∀ k, S1 k → S' k) → More S0 w S1 := fun S1 h k hk => by
        rcases hm2 k (h k hk) with h | h
        · rcases h with h | h | h
          · exact .inl h
          · exact .inr (by omega)
          · exact .inr (by omega)
        · exact .inr (by omega)
      rcases hj with ⟨S1, rfl, hi, h1, h2, hl, hk⟩ | ⟨q, S1, c, rfl, hi, h1, h2, hl, hk⟩
      · exact ⟨none, _, by have := run_endLoop (P := P) hl (by rw [hrec]; simp); rw [hrec] at this; exact this, hdone _ _ S1 (kall _) (mall S1 (fun k h => .inl h)) (hI.put hi _ h1) h2 (Nat.le_refl _) ((World.putObj_heap_other (by omega)).trans hk)⟩
      · exact ⟨some c, _, by have := run_endLoop (P := P) hl (by rw [hrec]; simp); rw [hrec] at this; exact this, hstop _ c q _ S1 (kall _) (mall S1 (fun k h => .inl h)) ((hIx c).put hi _ h1) h2 (Nat.le_refl _) ((World.putObj_heap_other (by omega)).trans hk)⟩
end Go.Proofs.YtkmpgcgdamcikaaGreatDoor

namespace Go.Proofs.YtkmpgcgdamcikaaGreatDoor
open Go.RowKit Go.Shelf
set_option linter.unusedVariables false
set_option maxRecDepth 100000

section
variable {P : Program} {md : Region.Mode} {ops : Array Oper} {Q : Exit → Act → World → Prop} {S : World → Prop} {l n : Nat}
/-- no operation defers -/
def undeferred (ops : Array Oper) : Bool := ops.all fun o => match o.op with | .defer _ => false | _ => true
theorem undeferred_at (h : undeferred ops = true) {i : Nat} {o : Oper} (ho : ops[i]? = some o) : ∀ c, o.op ≠ .defer c := by
  intro c hc
  have h1 := Array.all_eq_true_iff_forall_mem.1 h o (Array.mem_of_getElem? ho)
  rw [hc] at h1
  cases h1
theorem wpOpIn_round (hd : undeferred ops = true) (hL : ¬ LetsOut Q) {i : Nat} {K K' : Act → World → Prop} (hK : ∀ a w, K a w → K' a w) {a : Act} {w : World} (h : wpOp P ops Q i K a w) : wpOpIn (Fence.wide.inRound l) n P ops Q i K' a w := by
  unfold wpOp at h
  unfold wpOpIn
  cases ho : ops[i]? with
  | none => rw [ho] at h; exact hK _ _ h
  | some o =>
    rw [ho] at h
    simp only at h ⊢
    by_cases hw : Region.wanted o (yielded ops a.tmps) = true
    · rw [if_pos hw] at h ⊢
      rcases h with h | h
      · refine ⟨fun _ _ => trivial, ?_⟩
        unfold Oper.wp at h
        rw [Oper.semAt_eq _ _ _ (undeferred_at hd ho)]
        generalize (execOp a.eval o).run P w = r at h
        cases r with
        | ok x w' =>
          cases x with
          | value v => exact hK _ _ h
          | skip => exact hK _ _ h
          | defer d => exact hK _ _ h
          | enter f args =>
            refine ⟨fun hx => (by simp [Fence.wide, Fence.inRound] at hx), CallsIn.inRound l (callsIn_wide.2 (Calls.mono h ?_))⟩
            intro e w'' he
            cases e with
            | returned v => exact hK _ _ he
            | panicked c => exact he
            | outgrown => exact he
          | row r x => exact ⟨fun hx => (by simp [Fence.wide, Fence.inRound] at hx), fun c cs _ => let ⟨v, w3, r3, s3⟩ := h c cs; ⟨v, w3, hK _ _ r3, stepsIn_wide.2 s3⟩⟩
          | _ => exact h.elim
        | halt x w' =>
          cases x with
          | panic v => exact h
          | _ => exact h.elim
      · exact (hL h.2).elim
    · rw [if_neg hw] at h ⊢
      exact ⟨fun _ _ => trivial, hK _ _ h⟩
theorem wpAnyIn_round (hd : undeferred ops = true) (hL : ¬ LetsOut Q) : ∀ (fuel : Nat) (listed : Array Bool) (a : Act) (w : World), wpAny P md ops Q fuel listed a w → wpAnyIn (Fence.wide.inRound l) n P md ops Q fuel listed a w
  | 0, listed, a, w, h => h
  | fuel + 1, listed, a, w, h => ⟨h.1, fun i hi => wpOpIn_round hd hL (fun a w h => wpAnyIn_round hd hL fuel _ a w h) (h.2 i hi)⟩
theorem wpIn_region_round {id : Nat} {a : Act} {w : World} (hm : P.follows .mixedOrders = true) (hd : undeferred ops = true) (hL : ¬ LetsOut Q)
    (h : wpAnyH P .any ops Q S ops.size (Array.replicate ops.size false) a w.drew) : (Code.region id ops true).wpIn (Fence.wide.inRound l) n P Q a w :=
  wpIn_region_any hm (wpAnyIn_round hd hL _ _ _ _ (wpAny_of_held _ _ _ _ h))

variable {fuel : Nat} {listed : Array Bool} {a : Act} {w : World}
theorem r_take (i k : Nat) {oi : Oper} {v : Value} (hi : ops[i]? = some oi) (hd : oi.dst = some k) (hs : Region.noSelect ops = true) (hf : Region.free md ops listed i = true) (hr : (Region.ready md ops listed).contains i = true)
    (hQ : ∀ c a w, Q (.panic c) (a.put (some k) v) w → Q (.panic c) a w) (hw : Region.wanted oi (yielded ops a.tmps) = true) (hv : ∀ w, S w → (execOp a.eval oi).run P w = .ok (.value v) w) (hS : S w)
    (h : wpAnyH P md ops Q S fuel (listed.setIfInBounds i true) (a.put (some k) v) w) : wpAnyH P md ops Q S (fuel + 1) listed a w :=
  wpAnyH_take hi hs hf hr (by rw [hd]; exact hQ) (.inl ⟨hw, hv⟩) hS (by rw [hd]; exact h)
/-- two stores are left, in either order -/
theorem r_stores (i j : Nat) {oi oj : Oper} {wi wj wij wji : World} (hr : Region.ready md ops listed = [i, j]) (hri : Region.ready md ops (listed.setIfInBounds i true) = [j]) (hrj : Region.ready md ops (listed.setIfInBounds j true) = [i])
    (hrij : Region.ready md ops ((listed.setIfInBounds i true).setIfInBounds j true) = []) (hrji : Region.ready md ops ((listed.setIfInBounds j true).setIfInBounds i true) = [])
    (hi : ops[i]? = some oi) (hj : ops[j]? = some oj) (hdi : oi.dst = none) (hdj : oj.dst = none) (hwi : Region.wanted oi (yielded ops a.tmps) = true) (hwj : Region.wanted oj (yielded ops a.tmps) = true)
    (e1 : (execOp a.eval oi).run P w = .ok .skip wi) (e2 : (execOp a.eval oj).run P wi = .ok .skip wij) (e3 : (execOp a.eval oj).run P w = .ok .skip wj) (e4 : (execOp a.eval oi).run P wj = .ok .skip wji)
    (s1 : S wi) (s2 : S wij) (s3 : S wj) (s4 : S wji) (q1 : Q .normal a wij) (q2 : Q .normal a wji) : wpAnyH P md ops Q S (fuel + 1 + 1) listed a w := by
  have ap : a.put none undef = a := rfl
  refine wpAnyH_ready hr (by simp) (AllReadyH.cons hi (fun K hK => ?_) (AllReadyH.cons hj (fun K hK => ?_) AllReadyH.nil))
  · rw [if_pos hwi]
    unfold Oper.wp
    rw [e1]
    refine hK.out _ _ s1 (fun _ => ?_)
    rw [hdi, ap]
    refine wpAnyH_ready hri (by simp) (AllReadyH.cons hj (fun K hK => ?_) AllReadyH.nil)
    rw [if_pos hwj]
    unfold Oper.wp
    rw [e2]
    refine hK.out _ _ s2 (fun _ => ?_)
    rw [hdj, ap]
    exact wpAnyH_done hrij q1 _
  · rw [if_pos hwj]
    unfold Oper.wp
    rw [e3]
    refine hK.out _ _ s3 (fun _ => ?_)
    rw [hdj, ap]
    refine wpAnyH_ready hrj (by simp) (AllReadyH.cons hi (fun K hK => ?_) AllReadyH.nil)
    rw [if_pos hwi]
    unfold Oper.wp
    rw [e4]
    refine hK.out _ _ s4 (fun _ => ?_)
    rw [hdi, ap]
    exact wpAnyH_done hrji q2 _
end
end Go.Proofs.YtkmpgcgdamcikaaGreatDoor
