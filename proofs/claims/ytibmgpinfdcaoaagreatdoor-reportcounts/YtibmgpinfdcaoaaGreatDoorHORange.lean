/-
  One text: ORange.
-/
import Derived.Test.YtibmgpinfdcaoaaGreatDoorG00
import Derived.RangeFuncNested
import Derived.RangeFuncBound
import Derived.RangeFuncCalls
import Derived.RangeFuncLeaves
import Derived.Shelf.Abstract
namespace Go.Proofs.YtibmgpinfdcaoaaGreatDoor
open Go.RowKit Go.Shelf
set_option linter.unusedVariables false

/-- a state of the one who takes: how far it has come, the world, its blocks -/
abbrev St := Nat → World → (Nat → Prop) → Prop

structure Hangs (J : St) : Prop where
  old : ∀ q W S, J q W S → ∀ k, S k → k < W.heap.size
  kept : ∀ q W W' S, J q W S → W.heap.size ≤ W'.heap.size → (∀ k, S k → W'.heap[k]? = W.heap[k]?) → J q W' S

/-- S' is S and what is new since W -/
def More (S : Nat → Prop) (W : World) (S' : Nat → Prop) : Prop := ∀ k, S' k → S k ∨ W.heap.size ≤ k
theorem More.refl (S : Nat → Prop) (W : World) : More S W S := fun _ h => .inl h
theorem More.trans {S S' S'' : Nat → Prop} {W W' : World} (h : More S W S') (k : More S' W' S'') (hw : W.heap.size ≤ W'.heap.size) : More S W S'' := fun i hi => by
  rcases k i hi with h1 | h1
  · exact h i h1
  · exact .inr (by omega)
theorem Kept.more {S S' : Nat → Prop} {W W' W'' : World} (h : Kept S W W') (hm : More S W S') (k : Kept S' W' W'') : Kept S W W'' := h.trans k hm

/-- yield's answer to one slot -/
def Took (J Jx : St) (q : Nat) (W : World) (S : Nat → Prop) (e : Ending) (W' : World) : Prop :=
  ∃ S', Kept S W W' ∧ More S W S' ∧ ((e = .returned (.bool true) ∧ J q W' S') ∨ (e = .returned (.bool false) ∧ Jx q W' S'))

def sv (len : Int) (part : Int) : Value := .agg #[.int .i64 len, .int .i64 part]

def Takes (P : Program) (l : Nat) (f : Nat → Nat) (b : Nat) (J Jx : St) : Prop :=
  ∀ (m q len : Nat) (W : World) (S : Nat → Prop), J q W S → 1 ≤ len → q + len ≤ b → (∀ u, q ≤ u → u < q + len → f u = f q) →
    YieldAt Fence.wide m P l #[.int .i64 q, sv len (f q)] W (Took J Jx (q + len) W S)

/-- an iterator that tells the ticks from a on and below b; G: the blocks of w that it reads -/
def Gives (P : Program) (g : Nat) (lb : Array Value) (f : Nat → Nat) (a b : Nat) (w : World) (G : Nat → Prop) : Prop :=
  ∀ (l : Nat) (J Jx : St) (W : World) (S : Nat → Prop), w.heap.size ≤ W.heap.size → (∀ k, G k → W.heap[k]? = w.heap[k]?) → (∀ k, G k → ¬ S k) → Hangs J → Hangs Jx → Takes P l f b J Jx → J a W S →
    Calls P g (#[.func (.yield l) #[] #[]] ++ lb) W fun e W' => (∃ v, e = .returned v) ∧ ∃ S', Kept S W W' ∧ More S W S' ∧ (J b W' S' ∨ ∃ q, Jx q W' S')

/-- how a round's body may be left -/
def roundP (I : St) (Ix : Code → St) (q : Nat) (W : World) (S : Nat → Prop) : Exit → Act → World → Prop
  | .normal, _, W' => ∃ S', Kept S W W' ∧ More S W S' ∧ I q W' S'
  | .ret, _, W' => ∃ S', Kept S W W' ∧ More S W S' ∧ Ix .ret q W' S'
  | .exit id, _, W' => ∃ S', Kept S W W' ∧ More S W S' ∧ Ix (.exit id) q W' S'
  | .goto t, _, W' => ∃ S', Kept S W W' ∧ More S W S' ∧ Ix (.goto t) q W' S'
  | .panic _, _, _ => False
  | .outgrown, _, _ => False

theorem RoundIn.any {m m' : Nat} {P : Program} {l : Nat} {f : FuncId} {tmps : Array Value} {assign body : Code} {w : World} {R : Ending → World → Prop}
    (h : RoundIn Fence.wide m P l f tmps assign body w R) : RoundIn Fence.wide m' P l f tmps assign body w R := ⟨h.1, fun c cs _ => h.2 c cs (room_wide _)⟩

/-- S and two blocks more -/
def And2 (S : Nat → Prop) (l D : Nat) : Nat → Prop := fun k => S k ∨ k = l ∨ k = D

theorem Hangs.put {J : St} (h : Hangs J) {q : Nat} {W : World} {S : Nat → Prop} (hj : J q W S) {l : Nat} (o : Obj) (hl : ¬ S l) : J q (W.putObj l o) S :=
  h.kept q W _ S hj (by simp) (fun k hk => World.putObj_heap_other (fun e => hl (e ▸ hk)))
theorem kept_put {S : Nat → Prop} {W : World} {l : Nat} (o : Obj) (hl : S l) : Kept S W (W.putObj l o) :=
  ⟨rfl, rfl, rfl, by simp, fun k _ hk => World.putObj_heap_other (fun e => hk (e ▸ hl))⟩

theorem range_gives {P : Program} {n : Nat} {g : Operand} {ps : Array Tmp} {assign body : Code} {Q : Exit → Act → World → Prop} {a : Act} {w : World}
    {gf : Nat} {lb : Array Value} (hg : a.eval g = .func (.func gf) #[] lb) (eg : ∀ args w, (callFunc gf args).run P w = .ok (.enter gf args) w) (hps : ps.size = 2)
    {f : Nat → Nat} {a0 b : Nat} {w0 : World} {G : Nat → Prop} (hseq : Gives P gf lb f a0 b w0 G) (hw0 : w0.heap.size ≤ w.heap.size) (hG : ∀ k, G k → k < w.heap.size ∧ w.heap[k]? = w0.heap[k]?)
    (I : St) (Ix : Code → St) (hI : Hangs I) (hIx : ∀ c, Hangs (Ix c)) {S0 : Nat → Prop} (h0 : I a0 w S0) (hGS : ∀ k, G k → ¬ S0 k) (ob : Nat → Nat → Obj) (a₁ : Nat → Nat → Nat → Act)
    (hassign : ∀ (l q len : Nat) (W : World) (K : Act → World → Prop), K (a₁ q len W.heap.size) (W.alloc (ob q len)) →
      assign.wpIn (Fence.wide.inRound l) n P (Exit.then K (fun _ _ _ => False)) { tmps := (ps.zip #[.int .i64 q, sv len (f q)]).foldl (fun t (p, v) => t.setIfInBounds p v) a.tmps, defers := [] } W)
    (hbody : ∀ (l q len B : Nat) (W : World) (S : Nat → Prop), I q W S → ¬ S B → W.heap[B]? = some (ob q len) → 1 ≤ len → q + len ≤ b → (∀ u, q ≤ u → u < q + len → f u = f q) → body.wpIn (Fence.wide.inRound l) n P (roundP I Ix (q + len) W S) (a₁ q len B) W)
    (hdone : ∀ (D : Nat) (W : World) (S' : Nat → Prop), Kept S0 w W → More S0 w S' → I b W S' → ¬ S' D → w.heap.size ≤ D → W.heap[D]? = some (.deferred (some [])) → Q .normal { a with defers := { target := .collected D, args := #[] } :: a.defers } W)
    (hstop : ∀ (D : Nat) (c : Code) (q : Nat) (W : World) (S' : Nat → Prop), Kept S0 w W → More S0 w S' → Ix c q W S' → ¬ S' D → w.heap.size ≤ D → W.heap[D]? = some (.deferred (some [])) → c.wpIn Fence.wide n P Q { a with defers := { target := .collected D, args := #[] } :: a.defers } W) :
    (Code.rangeFunc g ps assign body).wpIn Fence.wide n P Q a w := by
  refine wpIn_rangeFunc ?_
  intro fn hfn
  obtain ⟨rec, hrec⟩ : ∃ rec : LoopState → Option Code → Loop, rec = fun st pe => { state := st, pending := pe, fn, tmps := a.tmps, params := ps, assign, body, defers := w.heap.size } := ⟨_, rfl⟩
  obtain ⟨W1, hW1⟩ : ∃ W1, (w.alloc (.deferred (some []))).alloc (.loop (rec .ready none)) = W1 := ⟨_, rfl⟩
  have hL1 : W1.heap[w.heap.size + 1]? = some (.loop (rec .ready none)) := by
    rw [← hW1]; have := World.alloc_heap_new (w.alloc (.deferred (some []))) (.loop (rec .ready none)); rwa [World.size_alloc] at this
  have hK1 : W1.heap[w.heap.size]? = some (.deferred (some [])) := by
    rw [← hW1]; exact (Below.heap_alloc _ _ _ (by simp)).trans (World.alloc_heap_new w _)
  have hk1 : Kept S0 w W1 := by rw [← hW1]; exact ((Kept.refl S0 w).alloc _).alloc _
  have hb1 : ∀ k, k < w.heap.size → W1.heap[k]? = w.heap[k]? := fun k hk => by
    have : Kept No w W1 := by rw [← hW1]; exact ((Kept.refl No w).alloc _).alloc _
    exact this.block k hk (fun h => h)
  have hold := hI.old _ _ _ h0
  have hI1 : I a0 W1 S0 := hI.kept _ w W1 S0 h0 hk1.size (fun k hk => hb1 k (hold k hk))
  have hsz : W1.heap.size = w.heap.size + 2 := by rw [← hW1]; simp
  refine ⟨w.heap.size + 1, [{ target := .collected w.heap.size, args := #[] }], W1, { target := .fn (.func gf) lb, args := #[.func (.yield (w.heap.size + 1)) #[] #[]] }, W1, gf,
    #[.func (.yield (w.heap.size + 1)) #[] #[]] ++ lb, W1, ?_, ?_, ?_, ?_, ?_, ?_⟩
  · rw [← hW1, hrec]; exact run_enterLoop_outer _ _ _ _ _
  · simp only [resolve, hg]
    simp [go_sem]
  · intro f' hf'; trivial
  · simp [invoke, go_sem, eg]
  · intro h; simp [Fence.wide] at h
  · refine callsIn_wide.2 ?_
    refine (hseq (w.heap.size + 1)
      (fun q W S => ∃ S1, S = And2 S1 (w.heap.size + 1) w.heap.size ∧ I q W S1 ∧ ¬ S1 (w.heap.size + 1) ∧ ¬ S1 w.heap.size ∧ W.heap[w.heap.size + 1]? = some (.loop (rec .ready none)) ∧ W.heap[w.heap.size]? = some (.deferred (some [])))
      (fun q W S => ∃ S1 c, S = And2 S1 (w.heap.size + 1) w.heap.size ∧ Ix c q W S1 ∧ ¬ S1 (w.heap.size + 1) ∧ ¬ S1 w.heap.size ∧ W.heap[w.heap.size + 1]? = some (.loop (rec .done (some c))) ∧ W.heap[w.heap.size]? = some (.deferred (some [])))
      W1 (And2 S0 (w.heap.size + 1) w.heap.size) (by omega) (fun k hk => (hb1 k (hG k hk).1).trans (hG k hk).2) ?gs ?j ?jx ?tk ?start).mono ?_
    case gs =>
      rintro k hk (h | h | h)
      · exact hGS k hk h
      · have := (hG k hk).1; omega
      · have := (hG k hk).1; omega
    case start => exact ⟨S0, rfl, hI1, fun h => by have := hold _ h; omega, fun h => by have := hold _ h; omega, hL1, hK1⟩
    case j =>
      refine ⟨?_, ?_⟩
      · rintro q W S ⟨S1, rfl, hi, h1, h2, hl, hd⟩ k (hk | hk | hk)
        · exact hI.old _ _ _ hi k hk
        · subst hk; exact heap_lt hl
        · subst hk; exact heap_lt hd
      · rintro q W W' S ⟨S1, rfl, hi, h1, h2, hl, hd⟩ hs hk
        exact ⟨S1, rfl, hI.kept _ W W' S1 hi hs (fun k h => hk k (.inl h)), h1, h2, (hk _ (.inr (.inl rfl))).trans hl, (hk _ (.inr (.inr rfl))).trans hd⟩
    case jx =>
      refine ⟨?_, ?_⟩
      · rintro q W S ⟨S1, c, rfl, hi, h1, h2, hl, hd⟩ k (hk | hk | hk)
        · exact (hIx c).old _ _ _ hi k hk
        · subst hk; exact heap_lt hl
        · subst hk; exact heap_lt hd
      · rintro q W W' S ⟨S1, c, rfl, hi, h1, h2, hl, hd⟩ hs hk
        exact ⟨S1, c, rfl, (hIx c).kept _ W W' S1 hi hs (fun k h => hk k (.inl h)), h1, h2, (hk _ (.inr (.inl rfl))).trans hl, (hk _ (.inr (.inr rfl))).trans hd⟩
    case tk =>
      rintro m q len W S ⟨S1, rfl, hi, h1, h2, hl, hk⟩ hlen hb hc
      have hlt0 : w.heap.size + 1 < W.heap.size := heap_lt hl
      have hy := run_yield (P := P) (args := #[.int .i64 q, sv len (f q)]) hl (by rw [hrec]; simp [hps])
      rw [hrec] at hy
      have hold1 := hI.old _ _ _ hi
      have hB0 : ¬ S1 W.heap.size := fun h => by have := hold1 _ h; omega
      have hB1 : (W.alloc (ob q len)).heap[W.heap.size]? = some (ob q len) := World.alloc_heap_new _ _
      have hka : Kept (And2 S1 (w.heap.size + 1) w.heap.size) W (W.alloc (ob q len)) := (Kept.refl _ W).alloc _
      have hia : I q (W.alloc (ob q len)) S1 := hI.kept _ W _ S1 hi (by simp) (fun k hs => Below.heap_alloc _ _ _ (hold1 k hs))
      have hla : (W.alloc (ob q len)).heap[w.heap.size + 1]? = some (.loop (rec .ready none)) := (Below.heap_alloc _ _ _ hlt0).trans hl
      have hda : (W.alloc (ob q len)).heap[w.heap.size]? = some (.deferred (some [])) := (Below.heap_alloc _ _ _ (by omega)).trans hk
      have hWs : W.heap.size ≤ (W.alloc (ob q len)).heap.size := by simp
      refine ⟨fn, _, assign, body, hy, RoundIn.any (m := n) (roundIn_of_wpIn hfn (hassign _ q len W _ ?_))⟩
      clear hy hl hk hi
      generalize hBn : W.heap.size = Bn at *
      generalize hWa : W.alloc (ob q len) = Wa at *
      have hlt : w.heap.size + 1 < Wa.heap.size := heap_lt hla
      refine ⟨_, run_beginRound hla (by rw [hrec]), ?_⟩
      have hl2 : (Wa.putObj (w.heap.size + 1) (.loop { rec .ready none with state := .busy })).heap[w.heap.size + 1]? = some (.loop { rec .ready none with state := .busy }) := World.putObj_heap_same hlt
      have hk2 : (Wa.putObj (w.heap.size + 1) (.loop { rec .ready none with state := .busy })).heap[w.heap.size]? = some (.deferred (some [])) := (World.putObj_heap_other (by omega)).trans hda
      refine wpIn_mono (hbody (w.heap.size + 1) q len Bn _ S1 (hI.put hia _ h1) hB0 ((World.putObj_heap_other (by omega)).trans hB1) hlen hb hc) ?_
      have fin : ∀ (jump : Option Code) (W3 : World) (S3 : Nat → Prop), Kept S1 (Wa.putObj (w.heap.size + 1) (.loop { rec .ready none with state := .busy })) W3 → More S1 (Wa.putObj (w.heap.size + 1) (.loop { rec .ready none with state := .busy })) S3 →
          (Instr.endRound (w.heap.size + 1) jump).run P W3 = .ok (.bool jump.isNone) (W3.putObj (w.heap.size + 1) (.loop (rec (if jump.isNone then .ready else .done) jump))) ∧
          (W3.putObj (w.heap.size + 1) (.loop (rec (if jump.isNone then .ready else .done) jump))).heap[w.heap.size + 1]? = some (.loop (rec (if jump.isNone then .ready else .done) jump)) ∧
          (W3.putObj (w.heap.size + 1) (.loop (rec (if jump.isNone then .ready else .done) jump))).heap[w.heap.size]? = some (.deferred (some [])) ∧ ¬ S3 (w.heap.size + 1) ∧ ¬ S3 w.heap.size ∧
          Kept (And2 S1 (w.heap.size + 1) w.heap.size) W (W3.putObj (w.heap.size + 1) (.loop (rec (if jump.isNone then .ready else .done) jump))) ∧ More (And2 S1 (w.heap.size + 1) w.heap.size) W (And2 S3 (w.heap.size + 1) w.heap.size) := fun jump W3 S3 hk3 hm3 => by
        have hl3 := hk3.at' hl2 h1
        have hd3 := hk3.at' hk2 h2
        have hrun := run_endRound (P := P) jump hl3
        have n1 : ¬ S3 (w.heap.size + 1) := fun h => by
          rcases hm3 _ h with h' | h'
          · exact h1 h'
          · simp at h'; omega
        have n2 : ¬ S3 w.heap.size := fun h => by
          rcases hm3 _ h with h' | h'
          · exact h2 h'
          · simp at h'; omega
        have kall : ∀ o, Kept (And2 S1 (w.heap.size + 1) w.heap.size) W (W3.putObj (w.heap.size + 1) o) := fun o => by
          have k1 : Kept (And2 S1 (w.heap.size + 1) w.heap.size) W (Wa.putObj (w.heap.size + 1) (.loop { rec .ready none with state := .busy })) := hka.trans (kept_put (S := And2 S1 (w.heap.size + 1) w.heap.size) _ (.inr (.inl rfl))) (fun k h => .inl h)
          have k2 := k1.trans hk3 (fun k h => .inl (.inl h))
          exact k2.trans (kept_put (S := And2 S1 (w.heap.size + 1) w.heap.size) o (.inr (.inl rfl))) (fun k h => .inl h)
        refine ⟨?_, World.putObj_heap_same (heap_lt hl3), (World.putObj_heap_other (by omega)).trans hd3, n1, n2, kall _, ?_⟩
        · rw [hrec] at hrun ⊢; exact hrun
        · rintro k (h | h | h)
          · rcases hm3 k h with h' | h'
            · exact .inl (.inl h')
            · exact .inr (by simp at h'; omega)
          · exact .inl (.inr (.inl h))
          · exact .inl (.inr (.inr h))
      rintro e a3 W3 hp
      cases e with
      | normal =>
        obtain ⟨S3, hk3, hm3, hi3⟩ := hp
        obtain ⟨hr, hl4, hk4, n1, n2, ka, mo⟩ := fin none W3 S3 hk3 hm3
        exact ⟨_, _, hr, _, ka, mo, .inl ⟨rfl, S3, rfl, hI.put hi3 _ n1, n1, n2, hl4, hk4⟩⟩
      | ret =>
        obtain ⟨S3, hk3, hm3, hi3⟩ := hp
        obtain ⟨hr, hl4, hk4, n1, n2, ka, mo⟩ := fin (some .ret) W3 S3 hk3 hm3
        exact ⟨_, _, hr, _, ka, mo, .inr ⟨rfl, S3, _, rfl, (hIx _).put hi3 _ n1, n1, n2, hl4, hk4⟩⟩
      | exit id =>
        obtain ⟨S3, hk3, hm3, hi3⟩ := hp
        obtain ⟨hr, hl4, hk4, n1, n2, ka, mo⟩ := fin (some (.exit id)) W3 S3 hk3 hm3
        exact ⟨_, _, hr, _, ka, mo, .inr ⟨rfl, S3, _, rfl, (hIx _).put hi3 _ n1, n1, n2, hl4, hk4⟩⟩
      | goto t =>
        obtain ⟨S3, hk3, hm3, hi3⟩ := hp
        obtain ⟨hr, hl4, hk4, n1, n2, ka, mo⟩ := fin (some (.goto t)) W3 S3 hk3 hm3
        exact ⟨_, _, hr, _, ka, mo, .inr ⟨rfl, S3, _, rfl, (hIx _).put hi3 _ n1, n1, n2, hl4, hk4⟩⟩
      | panic ch => exact hp.elim
      | outgrown => exact hp.elim
    · -- behind the iterator
      rintro e W2 ⟨⟨v, rfl⟩, S', hk2, hm2, hj⟩
      have kall : ∀ o, Kept S0 w (W2.putObj (w.heap.size + 1) o) := fun o => by
        have k1 := hk1.trans hk2 (fun k h => by rcases h with h | h | h; exact .inl h; exact .inr (by omega); exact .inr (by omega))
        exact k1.trans (kept_put (S := fun k => k = w.heap.size + 1) o rfl) (fun k h => .inr (by omega))
      have mall : ∀ S1, (∀ k, S1 k → S' k) → More S0 w S1 := fun S1 h k hk => by
        rcases hm2 k (h k hk) with h | h
        · rcases h with h | h | h
          · exact .inl h
          · exact .inr (by omega)
          · exact .inr (by omega)
        · exact .inr (by omega)
      rcases hj with ⟨S1, rfl, hi, h1, h2, hl, hk⟩ | ⟨q, S1, c, rfl, hi, h1, h2, hl, hk⟩
      · exact ⟨none, _, by have := run_endLoop (P := P) hl (by rw [hrec]; simp); rw [hrec] at this; exact this, hdone _ _ S1 (kall _) (mall S1 (fun k h => .inl h)) (hI.put hi _ h1) h2 (Nat.le_refl _) ((World.putObj_heap_other (by omega)).trans hk)⟩
      · exact ⟨some c, _, by have := run_endLoop (P := P) hl (by rw [hrec]; simp); rw [hrec] at this; exact this, hstop _ c q _ S1 (kall _) (mall S1 (fun k h => .inl h)) ((hIx c).put hi _ h1) h2 (Nat.le_refl _) ((World.putObj_heap_other (by omega)).trans hk)⟩
end Go.Proofs.YtibmgpinfdcaoaaGreatDoor
