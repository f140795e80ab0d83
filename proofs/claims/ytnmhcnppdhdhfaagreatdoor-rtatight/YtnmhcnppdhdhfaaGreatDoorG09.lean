/-
  One text: ORange, ONext.
-/
import Derived.Test.YtnmhcnppdhdhfaaGreatDoorG00
import Derived.RangeFuncNested
import Derived.RangeFuncBound
import Derived.RangeFuncCalls
import Derived.RangeFuncLeaves
import Derived.Shelf.Abstract
import Derived.Test.YtnmhcnppdhdhfaaGreatDoorG08
namespace Go.Proofs.YtnmhcnppdhdhfaaGreatDoor
open Go.RowKit Go.Shelf
set_option linter.unusedVariables false

/-- a state of the one who takes: how far it has come, the world, its blocks -/
abbrev St := Nat → World → (Nat → Prop) → Prop

structure Hangs (J : St) : Prop where
  old : ∀ q W S, J q W S → ∀ k, S k → k < W.heap.size
  kept : ∀ q W W' S, J q W S → W.heap.size ≤ W'.heap.size → (∀ k, S k → W'.heap[k]? = W.heap[k]?) → J q W' S

/-- S' is S and what is new since W -/
def More (S : Nat → Prop) (W : World) (S' : Nat → Prop) : Prop := ∀ k, S' k → S k ∨ W.heap.size ≤ k
theorem More.refl (S : Nat → Prop) (W : World) : More S W S := fun _ h => .inl h
theorem More.trans {S S' S'' : Nat → Prop} {W W' : World} (h : More S W S') (k : More S' W' S'') (hw : W.heap.size ≤ W'.heap.size) : More S W S'' := fun i hi => by
  rcases k i hi with h1 | h1
  · exact h i h1
  · exact .inr (by omega)
theorem Kept.more {S S' : Nat → Prop} {W W' W'' : World} (h : Kept S W W') (hm : More S W S') (k : Kept S' W' W'') : Kept S W W'' := h.trans k hm

/-- yield's answer to one slot -/
def Took (J Jx : St) (q : Nat) (W : World) (S : Nat → Prop) (e : Ending) (W' : World) : Prop :=
  ∃ S', Kept S W W' ∧ More S W S' ∧ ((e = .returned (.bool true) ∧ J q W' S') ∨ (e = .returned (.bool false) ∧ Jx q W' S'))

def sv (len : Int) (part : Int) : Value := .agg #[.int .i64 len, .int .i64 part]

def Takes (P : Program) (l : Nat) (f : Nat → Nat) (b : Nat) (J Jx : St) : Prop :=
  ∀ (m q len : Nat) (W : World) (S : Nat → Prop), J q W S → 1 ≤ len → q + len ≤ b → (∀ u, q ≤ u → u < q + len → f u = f q) →
    YieldAt Fence.wide m P l #[.int .i64 q, sv len (f q)] W (Took J Jx (q + len) W S)

/-- an iterator that tells the ticks from a on and below b; G: the blocks of w that it reads -/
def Gives (P : Program) (g : Nat) (lb : Array Value) (f : Nat → Nat) (a b : Nat) (w : World) (G : Nat → Prop) : Prop :=
  ∀ (l : Nat) (J Jx : St) (W : World) (S : Nat → Prop), w.heap.size ≤ W.heap.size → (∀ k, G k → W.heap[k]? = w.heap[k]?) → (∀ k, G k → ¬ S k) → Hangs J → Hangs Jx → Takes P l f b J Jx → J a W S →
    Calls P g (#[.func (.yield l) #[] #[]] ++ lb) W fun e W' => (∃ v, e = .returned v) ∧ ∃ S', Kept S W W' ∧ More S W S' ∧ (J b W' S' ∨ ∃ q, Jx q W' S')

/-- how a round's body may be left -/
def roundP (I : St) (Ix : Code → St) (q : Nat) (W : World) (S : Nat → Prop) : Exit → Act → World → Prop
  | .normal, _, W' => ∃ S', Kept S W W' ∧ More S W S' ∧ I q W' S'
  | .ret, _, W' => ∃ S', Kept S W W' ∧ More S W S' ∧ Ix .ret q W' S'
  | .exit id, _, W' => ∃ S', Kept S W W' ∧ More S W S' ∧ Ix (.exit id) q W' S'
  | .goto t, _, W' => ∃ S', Kept S W W' ∧ More S W S' ∧ Ix (.goto t) q W' S'
  | .panic _, _, _ => False
  | .outgrown, _, _ => False

theorem RoundIn.any {m m' : Nat} {P : Program} {l : Nat} {f : FuncId} {tmps : Array Value} {assign body : Code} {w : World} {R : Ending → World → Prop}
    (h : RoundIn Fence.wide m P l f tmps assign body w R) : RoundIn Fence.wide m' P l f tmps assign body w R := ⟨h.1, fun c cs _ => h.2 c cs (room_wide _)⟩

/-- S and two blocks more -/
def And2 (S : Nat → Prop) (l D : Nat) : Nat → Prop := fun k => S k ∨ k = l ∨ k = D

theorem Hangs.put {J : St} (h : Hangs J) {q : Nat} {W : World} {S : Nat → Prop} (hj : J q W S) {l : Nat} (o : Obj) (hl : ¬ S l) : J q (W.putObj l o) S :=
  h.kept q W _ S hj (by simp) (fun k hk => World.putObj_heap_other (fun e => hl (e ▸ hk)))
theorem kept_put {S : Nat → Prop} {W : World} {l : Nat} (o : Obj) (hl : S l) : Kept S W (W.putObj l o) :=
  ⟨rfl, rfl, rfl, by simp, fun k _ hk => World.putObj_heap_other (fun e => hk (e ▸ hl))⟩

theorem range_gives {P : Program} {n : Nat} {g : Operand} {ps : Array Tmp} {assign body : Code} {Q : Exit → Act → World → Prop} {a : Act} {w : World}
    {gf : Nat} {lb : Array Value} (hg : a.eval g = .func (.func gf) #[] lb) (eg : ∀ args w, (callFunc gf args).run P w = .ok (.enter gf args) w) (hps : ps.size = 2)
    {f : Nat → Nat} {a0 b : Nat} {w0 : World} {G : Nat → Prop} (hseq : Gives P gf lb f a0 b w0 G) (hw0 : w0.heap.size ≤ w.heap.size) (hG : ∀ k, G k → k < w.heap.size ∧ w.heap[k]? = w0.heap[k]?)
    (I : St) (Ix : Code → St) (hI : Hangs I) (hIx : ∀ c, Hangs (Ix c)) {S0 : Nat → Prop} (h0 : I a0 w S0) (hGS : ∀ k, G k → ¬ S0 k) (ob : Nat → Nat → Obj) (a₁ : Nat → Nat → Nat → Act)
    (hassign : ∀ (l q len : Nat) (W : World) (K : Act → World → Prop), K (a₁ q len W.heap.size) (W.alloc (ob q len)) →
      assign.wpIn (Fence.wide.inRound l) n P (Exit.then K (fun _ _ _ => False)) { tmps := (ps.zip #[.int .i64 q, sv len (f q)]).foldl (fun t (p, v) => t.setIfInBounds p v) a.tmps, defers := [] } W)
    (hbody : ∀ (l q len B : Nat) (W : World) (S : Nat → Prop), I q W S → ¬ S B → W.heap[B]? = some (ob q len) → 1 ≤ len → q + len ≤ b → (∀ u, q ≤ u → u < q + len → f u = f q) → body.wpIn (Fence.wide.inRound l) n P (roundP I Ix (q + len) W S) (a₁ q len B) W)
    (hdone : ∀ (D : Nat) (W : World) (S' : Nat → Prop), Kept S0 w W → More S0 w S' → I b W S' → ¬ S' D → w.heap.size ≤ D → W.heap[D]? = some (.deferred (some [])) → Q .normal { a with defers := { target := .collected D, args := #[] } :: a.defers } W)
    (hstop : ∀ (D : Nat) (c : Code) (q : Nat) (W : World) (S' : Nat → Prop), Kept S0 w W → More S0 w S' → Ix c q W S' → ¬ S' D → w.heap.size ≤ D → W.heap[D]? = some (.deferred (some [])) → c.wpIn Fence.wide n P Q { a with defers := { target := .collected D, args := #[] } :: a.defers } W) :
    (Code.rangeFunc g ps assign body).wpIn Fence.wide n P Q a w := by
  refine wpIn_rangeFunc ?_
  intro fn hfn
  obtain ⟨rec, hrec⟩ : ∃ rec : LoopState → Option Code → Loop, rec = fun st pe => { state := st, pending := pe, fn, tmps := a.tmps, params := ps, assign, body, defers := w.heap.size } := ⟨_, rfl⟩
  obtain ⟨W1, hW1⟩ : ∃ W1, (w.alloc (.deferred (some []))).alloc (.loop (rec .ready none)) = W1 := ⟨_, rfl⟩
  have hL1 : W1.heap[w.heap.size + 1]? = some (.loop (rec .ready none)) := by
    rw [← hW1]; have := World.alloc_heap_new (w.alloc (.deferred (some []))) (.loop (rec .ready none)); rwa [World.size_alloc] at this
  have hK1 : W1.heap[w.heap.size]? = some (.deferred (some [])) := by
    rw [← hW1]; exact (Below.heap_alloc _ _ _ (by simp)).trans (World.alloc_heap_new w _)
  have hk1 : Kept S0 w W1 := by rw [← hW1]; exact ((Kept.refl S0 w).alloc _).alloc _
  have hb1 : ∀ k, k < w.heap.size → W1.heap[k]? = w.heap[k]? := fun k hk => by
    have : Kept No w W1 := by rw [← hW1]; exact ((Kept.refl No w).alloc _).alloc _
    exact this.block k hk (fun h => h)
  have hold := hI.old _ _ _ h0
  have hI1 : I a0 W1 S0 := hI.kept _ w W1 S0 h0 hk1.size (fun k hk => hb1 k (hold k hk))
  have hsz : W1.heap.size = w.heap.size + 2 := by rw [← hW1]; simp
  refine ⟨w.heap.size + 1, [{ target := .collected w.heap.size, args := #[] }], W1, { target := .fn (.func gf) lb, args := #[.func (.yield (w.heap.size + 1)) #[] #[]] }, W1, gf,
    #[.func (.yield (w.heap.size + 1)) #[] #[]] ++ lb, W1, ?_, ?_, ?_, ?_, ?_, ?_⟩
  · rw [← hW1, hrec]; exact run_enterLoop_outer _ _ _ _ _
  · simp only [resolve, hg]
    simp [go_sem]
  · intro f' hf'; trivial
  · simp [invoke, go_sem, eg]
  · intro h; simp [Fence.wide] at h
  · refine callsIn_wide.2 ?_
    refine (hseq (w.heap.size + 1)
      (fun q W S => ∃ S1, S = And2 S1 (w.heap.size + 1) w.heap.size ∧ I q W S1 ∧ ¬ S1 (w.heap.size + 1) ∧ ¬ S1 w.heap.size ∧ W.heap[w.heap.size + 1]? = some (.loop (rec .ready none)) ∧ W.heap[w.heap.size]? = some (.deferred (some [])))
      (fun q W S => ∃ S1 c, S = And2 S1 (w.heap.size + 1) w.heap.size ∧ Ix c q W S1 ∧ ¬ S1 (w.heap.size + 1) ∧ ¬ S1 w.heap.size ∧ W.heap[w.heap.size + 1]? = some (.loop (rec .done (some c))) ∧ W.heap[w.heap.size]? = some (.deferred (some [])))
      W1 (And2 S0 (w.heap.size + 1) w.heap.size) (by omega) (fun k hk => (hb1 k (hG k hk).1).trans (hG k hk).2) ?gs ?j ?jx ?tk ?start).mono ?_
    case gs =>
      rintro k hk (h | h | h)
      · exact hGS k hk h
      · have := (hG k hk).1; omega
      · have := (hG k hk).1; omega
    case start => exact ⟨S0, rfl, hI1, fun h => by have := hold _ h; omega, fun h => by have := hold _ h; omega, hL1, hK1⟩
    case j =>
      refine ⟨?_, ?_⟩
      · rintro q W S ⟨S1, rfl, hi, h1, h2, hl, hd⟩ k (hk | hk | hk)
        · exact hI.old _ _ _ hi k hk
        · subst hk; exact heap_lt hl
        · subst hk; exact heap_lt hd
      · rintro q W W' S ⟨S1, rfl, hi, h1, h2, hl, hd⟩ hs hk
        exact ⟨S1, rfl, hI.kept _ W W' S1 hi hs (fun k h => hk k (.inl h)), h1, h2, (hk _ (.inr (.inl rfl))).trans hl, (hk _ (.inr (.inr rfl))).trans hd⟩
    case jx =>
      refine ⟨?_, ?_⟩
      · rintro q W S ⟨S1, c, rfl, hi, h1, h2, hl, hd⟩ k (hk | hk | hk)
        · exact (hIx c).old _ _ _ hi k hk
        · subst hk; exact heap_lt hl
        · subst hk; exact heap_lt hd
      · rintro q W W' S ⟨S1, c, rfl, hi, h1, h2, hl, hd⟩ hs hk
        exact ⟨S1, c, rfl, (hIx c).kept _ W W' S1 hi hs (fun k h => hk k (.inl h)), h1, h2, (hk _ (.inr (.inl rfl))).trans hl, (hk _ (.inr (.inr rfl))).trans hd⟩
    case tk =>
      rintro m q len W S ⟨S1, rfl, hi, h1, h2, hl, hk⟩ hlen hb hc
      have hlt0 : w.heap.size + 1 < W.heap.size := heap_lt hl
      have hy := run_yield (P := P) (args := #[.int .i64 q, sv len (f q)]) hl (by rw [hrec]; simp [hps])
      rw [hrec] at hy
      have hold1 := hI.old _ _ _ hi
      have hB0 : ¬ S1 W.heap.size := fun h => by have := hold1 _ h; omega
      have hB1 : (W.alloc (ob q len)).heap[W.heap.size]? = some (ob q len) := World.alloc_heap_new _ _
      have hka : Kept (And2 S1 (w.heap.size + 1) w.heap.size) W (W.alloc (ob q len)) := (Kept.refl _ W).alloc _
      have hia : I q (W.alloc (ob q len)) S1 := hI.kept _ W _ S1 hi (by simp) (fun k hs => Below.heap_alloc _ _ _ (hold1 k hs))
      have hla : (W.alloc (ob q len)).heap[w.heap.size + 1]? = some (.loop (rec .ready none)) := (Below.heap_alloc _ _ _ hlt0).trans hl
      have hda : (W.alloc (ob q len)).heap[w.heap.size]? = some (.deferred (some [])) := (Below.heap_alloc _ _ _ (by omega)).trans hk
      have hWs : W.heap.size ≤ (W.alloc (ob q len)).heap.size := by simp
      refine ⟨fn, _, assign, body, hy, RoundIn.any (m := n) (roundIn_of_wpIn hfn (hassign _ q len W _ ?_))⟩
      clear hy hl hk hi
      generalize hBn : W.heap.size = Bn at *
      generalize hWa : W.alloc (ob q len) = Wa at *
      have hlt : w.heap.size + 1 < Wa.heap.size := heap_lt hla
      refine ⟨_, run_beginRound hla (by rw [hrec]), ?_⟩
      have hl2 : (Wa.putObj (w.heap.size + 1) (.loop { rec .ready none with state := .busy })).heap[w.heap.size + 1]? = some (.loop { rec .ready none with state := .busy }) := World.putObj_heap_same hlt
      have hk2 : (Wa.putObj (w.heap.size + 1) (.loop { rec .ready none with state := .busy })).heap[w.heap.size]? = some (.deferred (some [])) := (World.putObj_heap_other (by omega)).trans hda
      refine wpIn_mono (hbody (w.heap.size + 1) q len Bn _ S1 (hI.put hia _ h1) hB0 ((World.putObj_heap_other (by omega)).trans hB1) hlen hb hc) ?_
      have fin : ∀ (jump : Option Code) (W3 : World) (S3 : Nat → Prop), Kept S1 (Wa.putObj (w.heap.size + 1) (.loop { rec .ready none with state := .busy })) W3 → More S1 (Wa.putObj (w.heap.size + 1) (.loop { rec .ready none with state := .busy })) S3 →
          (Instr.endRound (w.heap.size + 1) jump).run P W3 = .ok (.bool jump.isNone) (W3.putObj (w.heap.size + 1) (.loop (rec (if jump.isNone then .ready else .done) jump))) ∧
          (W3.putObj (w.heap.size + 1) (.loop (rec (if jump.isNone then .ready else .done) jump))).heap[w.heap.size + 1]? = some (.loop (rec (if jump.isNone then .ready else .done) jump)) ∧
          (W3.putObj (w.heap.size + 1) (.loop (rec (if jump.isNone then .ready else .done) jump))).heap[w.heap.size]? = some (.deferred (some [])) ∧ ¬ S3 (w.heap.size + 1) ∧ ¬ S3 w.heap.size ∧
          Kept (And2 S1 (w.heap.size + 1) w.heap.size) W (W3.putObj (w.heap.size + 1) (.loop (rec (if jump.isNone then .ready else .done) jump))) ∧ More (And2 S1 (w.heap.size + 1) w.heap.size) W (And2 S3 (w.heap.size + 1) w.heap.size) := fun jump W3 S3 hk3 hm3 => by
        have hl3 := hk3.at' hl2 h1
        have hd3 := hk3.at' hk2 h2
        have hrun := run_endRound (P := P) jump hl3
        have n1 : ¬ S3 (w.heap.size + 1) := fun h => by
          rcases hm3 _ h with h' | h'
          · exact h1 h'
          · simp at h'; omega
        have n2 : ¬ S3 w.heap.size := fun h => by
          rcases hm3 _ h with h' | h'
          · exact h2 h'
          · simp at h'; omega
        have kall : ∀ o, Kept (And2 S1 (w.heap.size + 1) w.heap.size) W (W3.putObj (w.heap.size + 1) o) := fun o => by
          have k1 : Kept (And2 S1 (w.heap.size + 1) w.heap.size) W (Wa.putObj (w.heap.size + 1) (.loop { rec .ready none with state := .busy })) := hka.trans (kept_put (S := And2 S1 (w.heap.size + 1) w.heap.size) _ (.inr (.inl rfl))) (fun k h => .inl h)
          have k2 := k1.trans hk3 (fun k h => .inl (.inl h))
          exact k2.trans (kept_put (S := And2 S1 (w.heap.size + 1) w.heap.size) o (.inr (.inl rfl))) (fun k h => .inl h)
        refine ⟨?_, World.putObj_heap_same (heap_lt hl3), (World.putObj_heap_other (by omega)).trans hd3, n1, n2, kall _, ?_⟩
        · rw [hrec] at hrun ⊢; exact hrun
        · rintro k (h | h | h)
          · rcases hm3 k h with h' | h'
            · exact .inl (.inl h')
            · exact .inr (by simp at h'; omega)
          · exact .inl (.inr (.inl h))
          · exact .inl (.inr (.inr h))
      rintro e a3 W3 hp
      cases e with
      | normal =>
        obtain ⟨S3, hk3, hm3, hi3⟩ := hp
        obtain ⟨hr, hl4, hk4, n1, n2, ka, mo⟩ := fin none W3 S3 hk3 hm3
        exact ⟨_, _, hr, _, ka, mo, .inl ⟨rfl, S3, rfl, hI.put hi3 _ n1, n1, n2, hl4, hk4⟩⟩
      | ret =>
        obtain ⟨S3, hk3, hm3, hi3⟩ := hp
        obtain ⟨hr, hl4, hk4, n1, n2, ka, mo⟩ := fin (some .ret) W3 S3 hk3 hm3
        exact ⟨_, _, hr, _, ka, mo, .inr ⟨rfl, S3, _, rfl, (hIx _).put hi3 _ n1, n1, n2, hl4, hk4⟩⟩
      | exit id =>
        obtain ⟨S3, hk3, hm3, hi3⟩ := hp
        obtain ⟨hr, hl4, hk4, n1, n2, ka, mo⟩ := fin (some (.exit id)) W3 S3 hk3 hm3
        exact ⟨_, _, hr, _, ka, mo, .inr ⟨rfl, S3, _, rfl, (hIx _).put hi3 _ n1, n1, n2, hl4, hk4⟩⟩
      | goto t =>
        obtain ⟨S3, hk3, hm3, hi3⟩ := hp
        obtain ⟨hr, hl4, hk4, n1, n2, ka, mo⟩ := fin (some (.goto t)) W3 S3 hk3 hm3
        exact ⟨_, _, hr, _, ka, mo, .inr ⟨rfl, S3, _, rfl, (hIx _).put hi3 _ n1, n1, n2, hl4, hk4⟩⟩
      | panic ch => exact hp.elim
      | outgrown => exact hp.elim
    · -- behind the iterator
      rintro e W2 ⟨⟨v, rfl⟩, S', hk2, hm2, hj⟩
      have kall : ∀ o, Kept S0 w (W2.putObj (w.heap.size + 1) o) := fun o => by
        have k1 := hk1.trans hk2 (fun k h => by rcases h with h | h | h; exact .inl h; exact .inr (by omega); exact .inr (by omega))
        exact k1.trans (kept_put (S := fun k => k = w.heap.size + 1) o rfl) (fun k h => .inr (by omega))
      have mall : ∀ S1, (∀ k, S1 k → S' k) → More S0 w S1 := fun S1 h k hk => by
        rcases hm2 k (h k hk) with h | h
        · rcases h with h | h | h
          · exact .inl h
          · exact .inr (by omega)
          · exact .inr (by omega)
        · exact .inr (by omega)
      rcases hj with ⟨S1, rfl, hi, h1, h2, hl, hk⟩ | ⟨q, S1, c, rfl, hi, h1, h2, hl, hk⟩
      · exact ⟨none, _, by have := run_endLoop (P := P) hl (by rw [hrec]; simp); rw [hrec] at this; exact this, hdone _ _ S1 (kall _) (mall S1 (fun k h => .inl h)) (hI.put hi _ h1) h2 (Nat.le_refl _) ((World.putObj_heap_other (by omega)).trans hk)⟩
      · exact ⟨some c, _, by have := run_endLoop (P := P) hl (by rw [hrec]; simp); rw [hrec] at this; exact this, hstop _ c q _ S1 (kall _) (mall S1 (fun k h => .inl h)) ((hIx c).put hi _ h1) h2 (Nat.le_refl _) ((World.putObj_heap_other (by omega)).trans hk)⟩
end Go.Proofs.YtnmhcnppdhdhfaaGreatDoor

namespace Go.Proofs.YtnmhcnppdhdhfaaGreatDoor
open Go.RowKit Plain
set_option linter.unusedVariables false
set_option maxRecDepth 100000

structure Bd (s : Rule.Sys) : Prop where
  ok : Rule.Ok s
  per : ∀ i, i < s.n → s.P i ≤ 1048576
  bud : ∀ i, i < s.n → s.B i ≤ 1048576
  num : s.n ≤ 32

theorem Pl.set5 {w : World} {g : Nat} {s : Rule.Sys} {idx rs nx : Nat → Nat} (h : Pl w g s idx rs nx) {k v : Nat} : Pl (w.setCell ⟨g, k * 7 + 5, none⟩ (nv v)) g s idx (Rule.up rs k v) nx := by
  refine ⟨fun j hj => ?_, fun i => by rw [World.frozen?_setCell]; exact h.fz i⟩
  obtain ⟨c0, c1, c2, c4, c5, c6⟩ := h.at' j hj
  refine ⟨?_, ?_, ?_, ?_, ?_, ?_⟩
  · rw [cell_set c0, if_neg (by omega)]
  · rw [cell_set c1, if_neg (by omega)]
  · rw [cell_set c2, if_neg (by omega)]
  · rw [cell_set c4, if_neg (by omega)]
  · rw [cell_set c5]
    by_cases e : j = k
    · subst e; rw [if_pos rfl, Rule.up_same]
    · rw [if_neg (by omega), Rule.up_other _ _ e]
  · rw [cell_set c6, if_neg (by omega)]
theorem Pl.set6 {w : World} {g : Nat} {s : Rule.Sys} {idx rs nx : Nat → Nat} (h : Pl w g s idx rs nx) {k v : Nat} : Pl (w.setCell ⟨g, k * 7 + 6, none⟩ (nv v)) g s idx rs (Rule.up nx k v) := by
  refine ⟨fun j hj => ?_, fun i => by rw [World.frozen?_setCell]; exact h.fz i⟩
  obtain ⟨c0, c1, c2, c4, c5, c6⟩ := h.at' j hj
  refine ⟨?_, ?_, ?_, ?_, ?_, ?_⟩
  · rw [cell_set c0, if_neg (by omega)]
  · rw [cell_set c1, if_neg (by omega)]
  · rw [cell_set c2, if_neg (by omega)]
  · rw [cell_set c4, if_neg (by omega)]
  · rw [cell_set c5, if_neg (by omega)]
  · rw [cell_set c6]
    by_cases e : j = k
    · subst e; rw [if_pos rfl, Rule.up_same]
    · rw [if_neg (by omega), Rule.up_other _ _ e]
theorem Pl.drewN {w : World} {g : Nat} {s : Rule.Sys} {idx rs nx : Nat → Nat} (h : Pl w g s idx rs nx) (q : Nat) : Pl (w.drewN q) g s idx rs nx := h.kept rfl

theorem catch_any {s : Rule.Sys} (hb : Bd s) {w : World} {g : Nat} {idx rs nx : Nat → Nat} {now k : Nat} (hk : k < s.n) (hn : now ≤ 1099511627776) (hp : Pl w g s idx rs nx) (hi : Rule.Inv s idx rs nx now) :
    Calls Tryz.prog 99 #[.pointer (some ⟨g, k * 7, none⟩), .int .i64 now] w fun e w' => (∃ v, e = .returned v) ∧ ∃ rs' nx', Rule.Inv s idx rs' nx' now ∧ Pl w' g s idx rs' nx' ∧ now < nx' k ∧ (∀ j, j ≠ k → rs' j = rs j ∧ nx' j = nx j) ∧ Kept (fun b => b = g) w w' := by
  obtain ⟨c0, c1, c2, c4, c5, c6⟩ := hp.at' k hk
  by_cases hle : nx k ≤ now
  · have hid := hi.lt k hk
    refine (catch_yes g (k * 7) now (nx k) (s.P (idx k)) (s.B (idx k)) (s.O (idx k)) (rs k) w c0 c1 c2 c5 c6 (hp.fz _) (hp.fz _) hle (hb.ok.per _ hid) (hb.per _ hid) (hb.ok.off _ hid) hn).mono ?_
    rintro e w' ⟨hv, q, rfl⟩
    have ha := nextN_after hb.ok (i := idx k) (now := now) hid
    refine ⟨hv, _, _, hi.catchUp hk hle ha, (hp.set5.set6).drewN q, ?_, ?_, ?_⟩
    · rw [Rule.up_same]; exact ha.2.1
    · intro j hj; exact ⟨Rule.up_other _ _ hj, Rule.up_other _ _ hj⟩
    · exact (((Kept.refl (fun b => b = g) w).setCell (p := ⟨g, k * 7 + 5, none⟩) (.inl rfl) _).setCell (p := ⟨g, k * 7 + 6, none⟩) (.inl rfl) _).drewN q
  · refine (catch_no g (k * 7) now (nx k) w c6 (by omega)).mono ?_
    rintro e w' ⟨hv, rfl⟩
    exact ⟨hv, rs, nx, hi, hp, by omega, fun j _ => ⟨rfl, rfl⟩, Kept.refl _ _⟩

theorem if_mn (x y : Nat) : ∃ z : Nat, (if x < y then (x : Int) else (y : Int)) = (z : Int) ∧ z ≤ x ∧ z ≤ y ∧ (z = x ∨ z = y) := by
  by_cases h : x < y
  · exact ⟨x, by rw [if_pos h], by omega, by omega, .inl rfl⟩
  · exact ⟨y, by rw [if_neg h], by omega, by omega, .inr rfl⟩
theorem cells2 {w : World} {g : Nat} {u v : Value} {t : TypeId} (h : w.heap[g]? = some (.cells #[u, v] t)) : w.cell? ⟨g, 0, none⟩ = some u ∧ w.cell? ⟨g, 1, none⟩ = some v ∧ w.frozen? ⟨g, 0, none⟩ = false ∧ w.frozen? ⟨g, 1, none⟩ = false := by
  refine ⟨?_, ?_, ?_, ?_⟩ <;> simp [World.cell?, World.frozen?, h]
theorem if_mn2 (x b n : Nat) (h : n < b) : ∃ z : Nat, (if (x : Int) < (b : Int) - (n : Int) then (x : Int) else (b : Int) - (n : Int)) = (z : Int) ∧ z ≤ x ∧ n + z ≤ b ∧ (z = x ∨ z = b - n) := by
  by_cases h : (x : Int) < (b : Int) - (n : Int)
  · exact ⟨x, by rw [if_pos h], by omega, by omega, .inl rfl⟩
  · exact ⟨b - n, by rw [if_neg h]; omega, by omega, by omega, .inr rfl⟩
theorem set2 {w : World} {g : Nat} {u v x y : Value} {t : TypeId} (h : w.heap[g]? = some (.cells #[u, v] t)) : ((w.setCell ⟨g, 0, none⟩ x).setCell ⟨g, 1, none⟩ y).heap[g]? = some (.cells #[x, y] t) := by
  simp only [World.setCell, Array.getElem?_modify, if_pos, h]
  rfl
/-- what nextSlot has told -/
def Told (s : Rule.Sys) (w : World) (g : Nat) (idx : Nat → Nat) (now below : Nat) (e : Ending) (w' : World) : Prop :=
  ∃ (len part : Nat) (rs' nx' : Nat → Nat), e = .returned (sv len part) ∧ 1 ≤ len ∧ now + len ≤ below ∧ (∀ u, now ≤ u → u < now + len → Rule.occ s u = part) ∧ Rule.Inv s idx rs' nx' (now + len) ∧ Pl w' g s idx rs' nx' ∧ Kept (fun b => b = g) w w'

set_option maxHeartbeats 2000000 in
theorem next_slot {s : Rule.Sys} (hb : Bd s) {w : World} {g c : Nat} {idx rs nx : Nat → Nat} {now below : Nat} (hg : g < w.heap.size) (h1 : now < below) (h2 : below ≤ 1099511627776) (hp : Pl w g s idx rs nx) (hi : Rule.Inv s idx rs nx now) :
    Calls Tryz.prog 60 #[.slice (some ⟨g, 0, none⟩) s.n c, .int .i64 now, .int .i64 below] w (Told s w g idx now below) := by
  have hn := hb.num
  have HB : Hid (Bd s) := hb
  have HA : Hid (Kept (fun b => b = g) w (w.alloc (.cells #[.int .i64 0, .int .i64 0] 75))) := (Kept.refl _ w).alloc _
  have HP0 : Hid (Pl (w.alloc (.cells #[.int .i64 0, .int .i64 0] 75)) g s idx rs nx) := hp.kept (Below.heap_alloc _ _ _ hg)
  have HI0 : Hid (Rule.Inv s idx rs nx now) := hi
  have HG : Hid (g < w.heap.size) := hg
  clear hp hi hb hg
  go_enter Tryz.func60, Tryz.ntmps60
  go_wp2
  go_loopw [2, 12] (fun v x wr => ∃ (k b : Nat) (rs nx : Nat → Nat), k ≤ s.n ∧ x = .int .i64 k ∧ v = .int .i64 b ∧ now < b ∧ b ≤ below ∧ Rule.Inv s idx rs nx now ∧ Pl wr g s idx rs nx ∧ (∀ j, j < k → now < nx j ∧ rs j = 0 ∧ b ≤ nx j) ∧ Kept (fun b => b = g) w wr ∧ wr.heap[w.heap.size]? = some (.cells #[.int .i64 0, .int .i64 0] 75)) (fun _ x _ => s.n - (intOf x).toNat)
  case atStart => exact ⟨0, below, rs, nx, by omega, rfl, rfl, h1, Nat.le_refl _, HI0.out, HP0.out, fun j hj => by omega, HA.out, World.alloc_heap_new _ _⟩
  case round =>
    clear HP0 HI0 HA
    clear rs nx
    obtain ⟨k, b, rs, nx, hk, rfl, rfl, hb1, hb2, hi, hp, hj, hkr, hres⟩ := hrel
    by_cases hlt : k < s.n
    · have hc := catch_any HB.out (k := k) hlt (by omega) hp hi
      have HR : Hid (Kept (fun b => b = g) w wr ∧ wr.heap[w.heap.size]? = some (.cells #[.int .i64 0, .int .i64 0] 75) ∧ (∀ j, j < k → now < nx j ∧ rs j = 0 ∧ b ≤ nx j)) := ⟨hkr, hres, hj⟩
      clear hi hp hj hkr hres
      go_upto_region 6 with (go_at_call 99; refine hc.mono ?_; rintro e w1 ⟨⟨v, rfl⟩, rs', nx', hi1, hp1, hn1, ho1, hk1⟩; clear hc)
      obtain ⟨c0, c1, c2, c4, c5, c6⟩ := hp1.at' k hlt
      have H1 : Hid (Rule.Inv s idx rs' nx' now ∧ Pl w1 g s idx rs' nx' ∧ (∀ (j : Nat), j ≠ k → rs' j = rs j ∧ nx' j = nx j) ∧ Kept (fun b => b = g) wr w1) := ⟨hi1, hp1, ho1, hk1⟩
      clear hi1 ho1 hk1
      have f5 := hp1.fz (k * 7 + 5)
      clear hp1 c0 c1 c2
      unfold nv at c4 c5 c6
      go_upto_region 7 with fail
      obtain ⟨b', eb, q1, q2, q3⟩ := if_mn (nx' k) b
      simp only [eb]
      have HQ : Hid (b' = nx' k ∨ b' = b) := q3
      clear eb q3
      generalize hrk : rs' k = x at *
      have HX : Hid (rs' k = x) := hrk
      have hxb : x ≤ 1048576 := by
        have e1 := (H1.out.1.soon k hlt hn1).1
        have e2 := Rule.rest_le s now (idx k)
        have e3 := HB.out.bud (idx k) (H1.out.1.lt k hlt)
        rw [hrk] at e1
        omega
      clear hrk
      by_cases hx : 0 < x
      · go_upto_region 9 with fail
        obtain ⟨L, eL, p1, p2, p3⟩ := if_mn2 x b' now (by rcases HQ.out with h | h <;> omega)
        simp only [eL]
        have HL : Hid (1 ≤ L) := by show 1 ≤ L; rcases HQ.out with h | h <;> rcases p3 with h' | h' <;> omega
        clear eL p3
        have hne : w.heap.size ≠ g := by have := HG.out; omega
        have hres1 : w1.heap[w.heap.size]? = some (.cells #[.int .i64 0, .int .i64 0] 75) := H1.out.2.2.2.at' HR.out.2.1 hne
        obtain ⟨r0, r1, r2, r3⟩ := cells2 hres1
        have HN : Hid (w.heap.size ≠ g ∧ w1.heap[w.heap.size]? = some (.cells #[.int .i64 0, .int .i64 0] 75)) := ⟨hne, hres1⟩
        clear hres1
        go_upto_region 10 with fail
        have s0 : (w1.setCell ⟨g, k * 7 + 5, none⟩ (.int .i64 (x - L : Int))).cell? ⟨g, k * 7 + 4, none⟩ = some (.int .i64 ((idx k + 1 : Nat) : Int)) := by rw [cell_set c4, if_neg (by omega)]
        have t0 : (w1.setCell ⟨g, k * 7 + 5, none⟩ (.int .i64 (x - L : Int))).heap[w.heap.size]? = some (.cells #[.int .i64 0, .int .i64 0] 75) := (Below.heap_setCell _ _ _ _ hne).trans HN.out.2
        have HS : Hid (w1.setCell ⟨g, k * 7 + 5, none⟩ (.int .i64 (x - L : Int)) = w1.setCell ⟨g, k * 7 + 5, none⟩ (nv (x - L))) := by show _ = _; unfold nv; congr 2; omega
        obtain ⟨r0', r1', r2', r3'⟩ := cells2 t0
        have HT : Hid ((w1.setCell ⟨g, k * 7 + 5, none⟩ (.int .i64 (x - L : Int))).heap[w.heap.size]? = some (.cells #[.int .i64 0, .int .i64 0] 75)) := t0
        clear t0
        clear r0 r1 r2 r3 c4 c5 c6 f5
        generalize w1.setCell ⟨g, k * 7 + 5, none⟩ (.int .i64 (x - L : Int)) = w2 at *
        go_wp2
        have e2 := HS.out
        obtain ⟨hi1, hp1, ho1, hk1⟩ := H1.out
        have hsl := hi1.slot HB.out.ok (L := L) hlt (fun j hj => ?_) (fun j hj => ?_) (by rw [HX.out]; exact p1)
        · obtain ⟨z1, z2⟩ := hsl
          refine bodyPost_ret (results_cell_row rfl _ _ w.heap.size 75 #[.int .i64 L, .int .i64 ((idx k + 1 : Nat) : Int)] (0, 0) _ rfl (set2 HT.out) Tryz.underlying75 rfl (by kernel_rfl)) rfl ?_
          obtain ⟨hr1, hr2, hr3⟩ := HR.out
          rw [HX.out] at z2
          refine ⟨L, idx k + 1, _, nx', rfl, HL.out, by omega, z1, z2, ?_, ?_⟩
          · have hp2 : Pl w2 g s idx (Rule.up rs' k (x - L)) nx' := by rw [e2]; exact hp1.set5
            exact hp2.kept ((Below.heap_setCell _ _ _ _ (Ne.symm HN.out.1)).trans (Below.heap_setCell _ _ _ _ (Ne.symm HN.out.1)))
          · have hk2 : Kept (fun b => b = g) w w2 := by rw [e2]; exact (hr1.trans hk1 (fun _ h => .inl h)).setCell (p := ⟨g, k * 7 + 5, none⟩) (.inl rfl) _
            exact (hk2.setCell (p := ⟨w.heap.size, 0, none⟩) (.inr (Nat.le_refl _)) _).setCell (p := ⟨w.heap.size, 1, none⟩) (.inr (Nat.le_refl _)) _
        · obtain ⟨hr1, hr2, hr3⟩ := HR.out
          by_cases e : j = k
          · subst e; exact ⟨hn1, by omega⟩
          · obtain ⟨o1, o2⟩ := ho1 j e
            obtain ⟨a1, a2, a3⟩ := hr3 j (by omega)
            rw [o2]
            exact ⟨a1, by omega⟩
        · obtain ⟨hr1, hr2, hr3⟩ := HR.out
          obtain ⟨o1, o2⟩ := ho1 j (by omega)
          rw [o1]
          exact (hr3 j (by omega)).2.1
      · have hx0 : x = 0 := by omega
        subst hx0
        go_wp2
        go_roundw
        case rel =>
          obtain ⟨hi1, hp1, ho1, hk1⟩ := H1.out
          obtain ⟨hr1, hr2, hr3⟩ := HR.out
          refine ⟨k + 1, b', rs', nx', by omega, by go_num, rfl, by rcases HQ.out with h | h <;> omega, by omega, hi1, hp1, fun j hj => ?_, hr1.trans hk1 (fun _ h => .inl h), hk1.at' hr2 (by have := HG.out; omega)⟩
          by_cases e : j = k
          · subst e; exact ⟨hn1, HX.out, q1⟩
          · obtain ⟨o1, o2⟩ := ho1 j e
            obtain ⟨a1, a2, a3⟩ := hr3 j (by omega)
            rw [o1, o2]
            exact ⟨a1, a2, by omega⟩
        case measure => simp [intOf]; omega
    · have hke : k = s.n := by omega
      subst hke
      obtain ⟨r0, r1, r2, r3⟩ := cells2 hres
      have H1 : Hid (Rule.Inv s idx rs nx now ∧ Pl wr g s idx rs nx ∧ Kept (fun b => b = g) w wr ∧ ∀ j, j < s.n → now < nx j ∧ rs j = 0 ∧ b ≤ nx j) := ⟨hi, hp, hkr, hj⟩
      clear hi hp hkr hj
      have HRS : Hid (wr.heap[w.heap.size]? = some (.cells #[.int .i64 0, .int .i64 0] 75)) := hres
      clear hres
      go_wp2
      obtain ⟨hi1, hp1, hk1, hj1⟩ := H1.out
      obtain ⟨z1, z2⟩ := hi1.none (L := b - now) (fun j hj => by obtain ⟨a1, a2, a3⟩ := hj1 j hj; exact ⟨a1, a2, by omega⟩)
      have hne : w.heap.size ≠ g := by have := HG.out; omega
      refine bodyPost_ret (results_cell_row rfl _ _ w.heap.size 75 #[.int .i64 (b - now : Int), .int .i64 0] (0, 0) _ rfl (set2 HRS.out) Tryz.underlying75 rfl (by kernel_rfl)) rfl ?_
      have e1 : ((b : Int) - now) = ((b - now : Nat) : Int) := by omega
      refine ⟨b - now, 0, rs, nx, by rw [e1]; rfl, by omega, by omega, z1, z2, ?_, ?_⟩
      · exact hp1.kept ((Below.heap_setCell _ _ _ _ (Ne.symm hne)).trans (Below.heap_setCell _ _ _ _ (Ne.symm hne)))
      · exact (hk1.setCell (p := ⟨w.heap.size, 0, none⟩) (.inr (Nat.le_refl _)) _).setCell (p := ⟨w.heap.size, 1, none⟩) (.inr (Nat.le_refl _)) _
end Go.Proofs.YtnmhcnppdhdhfaaGreatDoor
