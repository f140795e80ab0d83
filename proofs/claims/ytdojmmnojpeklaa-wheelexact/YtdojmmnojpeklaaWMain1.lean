/-
  Two wheels, the documents', and what was told: no block is of two of them.
-/
import Derived.Test.YtdojmmnojpeklaaWPlay0
import Derived.Test.YtdojmmnojpeklaaWShelf
namespace Go.Proofs.Ytdojmmnojpeklaa
open Go.RowKit
set_option linter.unusedVariables false

/-- a wheel and the document's -/
structure Pr where
  b : Nat
  n : Nat
  L : List Fi
  v : Value
structure On (w : World) (F : Nat → Prop) (q : Nat) (p : Pr) : Prop where
  wh : Wh w F p.b p.n p.L
  row : w.ownsRow 0 32 2 p.v p.L.length (fcL p.L)
  box : w.heap[q]? = some (.cells #[.pointer (some ⟨p.b, 0, none⟩), .int .i64 p.n, p.v] 51)
theorem On.kept {w w' : World} {F G : Nat → Prop} {q : Nat} {p : Pr} (h : On w F q p) (k : Kept G w w') (h1 : ∀ j, F j → ¬ G j) (h2 : ∀ g, p.v.ownBlock = some g → ¬ G g) (h3 : ¬ G q) : On w' F q p := ⟨h.wh.kept k h1, k.owns h.row h2, k.at' h.box h3⟩
theorem On.mono {w : World} {F F' : Nat → Prop} {q : Nat} {p : Pr} (h : On w F q p) (hF : ∀ k, F k → F' k) : On w F' q p := ⟨h.wh.mono hF, h.row, h.box⟩
structure Cl (W : World) (c : Nat → Nat) (q1 q2 : Nat) (p1 p2 : Pr) (av : Value) (ls : List Value) (xs1 : List (List Fi)) (wv : Value) (ks : List Value) (xs2 : List (List Fi)) (T U : List Fi) (l k : Value) (w : World) : Prop where
  bel : Below W.heap.size W w
  rng : ∀ j, c j ≠ 0 → W.heap.size ≤ j ∧ j < w.heap.size
  on1 : On w (fun j => c j = 1) q1 p1
  on2 : On w (fun j => c j = 2) q2 p2
  v1 : ∀ g, p1.v.ownBlock = some g → c g = 3
  v2 : ∀ g, p2.v.ownBlock = some g → c g = 4
  b1 : c q1 = 5
  b2 : c q2 = 6
  hs1 : Hs w av ls xs1
  hs2 : Hs w wv ks xs2
  h1 : ∀ g, Fh av ls g → c g = 7
  h2 : ∀ g, Fh wv ks g → c g = 8
  rl : w.ownsRow 0 32 2 l T.length (fcL T)
  rk : w.ownsRow 0 32 2 k U.length (fcL U)
  cl : ∀ g, l.ownBlock = some g → c g = 9
  ck : ∀ g, k.ownBlock = some g → c g = 10
/-- the state, whatever the colours -/
def Mn (W : World) (q1 q2 : Nat) (p1 p2 : Pr) (av : Value) (ls : List Value) (xs1 : List (List Fi)) (wv : Value) (ks : List Value) (xs2 : List (List Fi)) (T U : List Fi) (l k : Value) (w : World) : Prop := ∃ c, Cl W c q1 q2 p1 p2 av ls xs1 wv ks xs2 T U l k w
def sw (x : Nat) : Nat := if x = 1 then 2 else if x = 2 then 1 else if x = 3 then 4 else if x = 4 then 3 else if x = 5 then 6 else if x = 6 then 5 else x
def fl (x : Nat) : Nat := if x = 7 then 8 else if x = 8 then 7 else if x = 9 then 10 else if x = 10 then 9 else x
theorem sw_ne {x : Nat} (h : sw x ≠ 0) : x ≠ 0 := by rintro rfl; exact h rfl
theorem fl_ne {x : Nat} (h : fl x ≠ 0) : x ≠ 0 := by rintro rfl; exact h rfl
section
variable {W w w' : World} {q1 q2 : Nat} {p1 p2 : Pr} {av wv l k : Value} {ls ks : List Value} {xs1 xs2 : List (List Fi)} {T U : List Fi} {c : Nat → Nat}
theorem Mn.swap (h : Mn W q1 q2 p1 p2 av ls xs1 wv ks xs2 T U l k w) : Mn W q2 q1 p2 p1 av ls xs1 wv ks xs2 T U l k w := by
  obtain ⟨c, h⟩ := h
  exact ⟨fun j => sw (c j), h.bel, fun j hj => h.rng j (sw_ne hj), h.on2.mono (fun j e => by rw [e]; rfl), h.on1.mono (fun j e => by rw [e]; rfl), fun g e => (by rw [h.v2 g e]; rfl), fun g e => (by rw [h.v1 g e]; rfl), (by rw [h.b2]; rfl), (by rw [h.b1]; rfl), h.hs1, h.hs2, fun g e => (by rw [h.h1 g e]; rfl), fun g e => (by rw [h.h2 g e]; rfl), h.rl, h.rk, fun g e => (by rw [h.cl g e]; rfl), fun g e => (by rw [h.ck g e]; rfl)⟩
theorem Mn.flip (h : Mn W q1 q2 p1 p2 av ls xs1 wv ks xs2 T U l k w) : Mn W q1 q2 p1 p2 wv ks xs2 av ls xs1 U T k l w := by
  obtain ⟨c, h⟩ := h
  exact ⟨fun j => fl (c j), h.bel, fun j hj => h.rng j (fl_ne hj), h.on1.mono (fun j e => by rw [e]; rfl), h.on2.mono (fun j e => by rw [e]; rfl), fun g e => (by rw [h.v1 g e]; rfl), fun g e => (by rw [h.v2 g e]; rfl), (by rw [h.b1]; rfl), (by rw [h.b2]; rfl), h.hs2, h.hs1, fun g e => (by rw [h.h2 g e]; rfl), fun g e => (by rw [h.h1 g e]; rfl), h.rk, h.rl, fun g e => (by rw [h.ck g e]; rfl), fun g e => (by rw [h.cl g e]; rfl)⟩
theorem Mn.below (h : Mn W q1 q2 p1 p2 av ls xs1 wv ks xs2 T U l k w) (b : Below w.heap.size w w') : Mn W q1 q2 p1 p2 av ls xs1 wv ks xs2 T U l k w' := by
  obtain ⟨c, h⟩ := h
  have kk := Kept.of_below (F := No) b
  exact ⟨c, h.bel.trans (b.mono h.bel.size), fun j hj => ⟨(h.rng j hj).1, Nat.lt_of_lt_of_le (h.rng j hj).2 b.size⟩, h.on1.kept kk (fun _ _ e => e) (fun _ _ e => e) (fun e => e), h.on2.kept kk (fun _ _ e => e) (fun _ _ e => e) (fun e => e), h.v1, h.v2, h.b1, h.b2, h.hs1.below b, h.hs2.below b, h.h1, h.h2, kk.owns h.rl (fun _ _ e => e), kk.owns h.rk (fun _ _ e => e), h.cl, h.ck⟩
/-- new blocks get their colours -/
theorem recolour (c : Nat → Nat) (n : Nat) (P1 P3 P9 P10 : Nat → Prop) (h31 : ∀ j, P3 j → ¬ P1 j) (h91 : ∀ j, P9 j → ¬ P1 j) (h93 : ∀ j, P9 j → ¬ P3 j) (hx1 : ∀ j, P10 j → ¬ P1 j) (hx3 : ∀ j, P10 j → ¬ P3 j) (hx9 : ∀ j, P10 j → ¬ P9 j) :
    ∃ c' : Nat → Nat, (∀ j, j < n → c' j = c j) ∧ (∀ j, n ≤ j → P1 j → c' j = 1) ∧ (∀ j, n ≤ j → P3 j → c' j = 3) ∧ (∀ j, n ≤ j → P9 j → c' j = 9) ∧ (∀ j, n ≤ j → P10 j → c' j = 10) ∧ ∀ j, n ≤ j → c' j ≠ 0 → P1 j ∨ P3 j ∨ P9 j ∨ P10 j := by
  classical
  refine ⟨fun j => if j < n then c j else if P1 j then 1 else if P3 j then 3 else if P9 j then 9 else if P10 j then 10 else 0, fun j hj => if_pos hj, fun j hj h => ?_, fun j hj h => ?_, fun j hj h => ?_, fun j hj h => ?_, fun j hj h => ?_⟩
  · have : ¬ j < n := by omega
    simp [this, h]
  · have : ¬ j < n := by omega
    simp [this, h, h31 j h]
  · have : ¬ j < n := by omega
    simp [this, h, h91 j h, h93 j h]
  · have : ¬ j < n := by omega
    simp [this, h, hx1 j h, hx3 j h, hx9 j h]
  · have h0 : ¬ j < n := by omega
    by_cases e1 : P1 j
    · exact .inl e1
    by_cases e3 : P3 j
    · exact .inr (.inl e3)
    by_cases e9 : P9 j
    · exact .inr (.inr (.inl e9))
    by_cases e10 : P10 j
    · exact .inr (.inr (.inr e10))
    · simp [h0, e1, e3, e9, e10] at h
/-- one call on the first pair, and its box written -/
theorem Mn.play {n' : Nat} {L' : List Fi} {v' : Value} (h : Cl W c q1 q2 p1 p2 av ls xs1 wv ks xs2 [] [] (.slice none 0 0) (.slice none 0 0) w) (hp : Py w (fun j => c j = 1) p1.v p1.b n' L' L' v' T T l k w') :
    Mn W q1 q2 ⟨p1.b, n', L', v'⟩ p2 av ls xs1 wv ks xs2 T T l k (((w'.setCell ⟨q1, 0, none⟩ (.pointer (some ⟨p1.b, 0, none⟩))).setCell ⟨q1, 1, none⟩ (.int .i64 n')).setCell ⟨q1, 2, none⟩ v') := by
  obtain ⟨F', hW, hF1, hF2⟩ := hp.wh
  have kk := hp.kept
  have kq := set3_keptF (q := q1) w' (.pointer (some ⟨p1.b, 0, none⟩)) (.int .i64 n') v'
  have lt : ∀ j, c j ≠ 0 → j < w.heap.size := fun j hj => (h.rng j hj).2
  have hq1 : q1 < w.heap.size := lt q1 (by rw [h.b1]; decide)
  have hq2 : q2 < w.heap.size := lt q2 (by rw [h.b2]; decide)
  obtain ⟨c', e0, e1, e3, e9, e10, eu⟩ := recolour c w.heap.size F' (fun j => v'.ownBlock = some j) (fun j => l.ownBlock = some j) (fun j => k.ownBlock = some j) (fun j hj => hF2 j (.inl hj)) (fun j hj => hF2 j (.inr (.inl hj))) (fun j hj => hp.lv j hj) (fun j hj => hF2 j (.inr (.inr hj))) (fun j hj => hp.kv j hj) (fun j hj e => hp.lk j e hj)
  have old : ∀ j m, m ≠ 0 → c j = m → c' j = m := fun j m hm e => by rw [e0 j (lt j (by rw [e]; exact hm)), e]
  have cF : ∀ j, F' j → c' j = 1 := fun j hj => by
    rcases (hF1 j hj).1 with e | e
    · exact old j 1 (by decide) e
    · exact e1 j (by omega) hj
  have cv : ∀ g, v'.ownBlock = some g → c' g = 3 := fun g hg => by
    rcases hp.nv g hg with e | e
    · exact old g 3 (by decide) (h.v1 g e.1)
    · exact e3 g (by omega) hg
  have cll : ∀ g, l.ownBlock = some g → c' g = 9 := fun g hg => e9 g (by have := (hp.rl.lt g hg).1; omega) hg
  have ckk : ∀ g, k.ownBlock = some g → c' g = 10 := fun g hg => e10 g (by have := (hp.rk.lt g hg).1; omega) hg
  have cq1 : c' q1 = 5 := old q1 5 (by decide) h.b1
  have neq : ∀ j m, c' j = m → m ≠ 5 → ¬ j = q1 := fun j m e hm e2 => by rw [e2, cq1] at e; exact hm e.symm
  have rng' : ∀ j, c' j ≠ 0 → W.heap.size ≤ j ∧ j < w'.heap.size := fun j hj => by
    by_cases hlt : j < w.heap.size
    · rw [e0 j hlt] at hj
      exact ⟨(h.rng j hj).1, Nat.lt_of_lt_of_le hlt kk.size⟩
    · have hb := h.bel.size
      refine ⟨by omega, ?_⟩
      rcases eu j (by omega) hj with e | e | e | e
      · exact (hF1 j e).2
      · exact (hp.row.lt j e).2
      · exact (hp.rl.lt j e).2
      · exact (hp.rk.lt j e).2
  refine ⟨c', ?_, fun j hj => ⟨(rng' j hj).1, Nat.lt_of_lt_of_le (rng' j hj).2 kq.size⟩, ⟨(hW.mono cF).kept kq (fun j e => neq j 1 e (by decide)), kq.owns hp.row (fun g hg => neq g 3 (cv g hg) (by decide)), ?_⟩, ?_, cv, fun g hg => old g 4 (by decide) (h.v2 g hg), cq1, old q2 6 (by decide) h.b2, ?_, ?_, fun g hg => old g 7 (by decide) (h.h1 g hg), fun g hg => old g 8 (by decide) (h.h2 g hg), kq.owns (owns_base hp.rl (Nat.zero_le _)) (fun g hg => neq g 9 (cll g hg) (by decide)), kq.owns (owns_base hp.rk (Nat.zero_le _)) (fun g hg => neq g 10 (ckk g hg) (by decide)), cll, ckk⟩
  · have kA : Kept (fun j => c j = 1 ∨ j = q1) w _ := (kk.mono (fun j e => .inl e)).trans kq (fun j e => .inl (.inr e))
    exact h.bel.trans (kA.below (fun j e => by
      rcases e with e | e
      · exact (h.rng j (by rw [e]; decide)).1
      · rw [e]; exact (h.rng q1 (by rw [h.b1]; decide)).1) h.bel.size)
  · exact set3' (kk.at' h.on1.box (by rw [h.b1]; decide)) _ _ _
  · have o2 := h.on2.kept kk (fun j e e2 => by rw [e2] at e; cases e) (fun g hg e => by rw [h.v2 g hg] at e; cases e) (by rw [h.b2]; decide)
    exact (o2.mono (F' := fun j => c' j = 2) (fun j e => old j 2 (by decide) e)).kept kq (fun j e => neq j 2 e (by decide)) (fun g hg => neq g 4 (old g 4 (by decide) (h.v2 g hg)) (by decide)) (neq q2 6 (old q2 6 (by decide) h.b2) (by decide))
  · exact (h.hs1.kept kk (fun j e e2 => by rw [h.h1 j e] at e2; cases e2)).kept kq (fun j e => neq j 7 (old j 7 (by decide) (h.h1 j e)) (by decide))
  · exact (h.hs2.kept kk (fun j e e2 => by rw [h.h2 j e] at e2; cases e2)).kept kq (fun j e => neq j 8 (old j 8 (by decide) (h.h2 j e)) (by decide))
/-- the list just told is laid behind the others -/
theorem Mn.more {v1 : Value} {oA : Obj} (h : Mn W q1 q2 p1 p2 av ls xs1 wv ks xs2 T U l k w) (own1 : w'.ownsRow 0 22 1 v1 (ls.length + 1) (ls ++ [l])) (gr : (w.alloc oA).grownBy w' av.ownBlock) (at1 : v1.ownBlock = av.ownBlock ∨ v1.ownBlock = some (w.alloc oA).heap.size) : Mn W q1 q2 p1 p2 v1 (ls ++ [l]) (xs1 ++ [T]) wv ks xs2 [] U (.slice none 0 0) k w' := by
  obtain ⟨c, h⟩ := h
  obtain ⟨hs', kk⟩ := h.hs1.more own1 gr h.rl (fun g hg e => by have a1 := h.cl g hg; rw [h.h1 g e] at a1; cases a1)
  have lt : ∀ j, c j ≠ 0 → j < w.heap.size := fun j hj => (h.rng j hj).2
  have c7 : ∀ g, av.ownBlock = some g → c g = 7 := fun g e => h.h1 g (.inl e)
  have hsz : w.heap.size < w'.heap.size := by have := gr.size; rw [World.size_alloc] at this; omega
  have old : ∀ j m, m ≠ 7 → c j = m → ¬ av.ownBlock = some j := fun j m hm e e2 => by rw [c7 j e2] at e; exact hm e.symm
  obtain ⟨d, d1, d2, d3⟩ : ∃ d : Nat → Nat, (∀ j m, m ≠ 0 → m ≠ 9 → c j = m → d j = m) ∧ (∀ j, c j = 9 ∨ v1.ownBlock = some j → d j = 7) ∧ ∀ j, d j ≠ 0 → c j ≠ 0 ∨ v1.ownBlock = some j := by
    classical
    refine ⟨fun j => if c j = 9 ∨ v1.ownBlock = some j then 7 else c j, fun j m h0 h9 e => ?_, fun j e => if_pos e, fun j e => ?_⟩
    · by_cases e2 : v1.ownBlock = some j
      · have : m = 7 := by
          rcases at1 with e3 | e3
          · rw [e3] at e2; rw [← e, c7 j e2]
          · rw [e3] at e2; injection e2 with e2; rw [World.size_alloc] at e2; have := lt j (by rw [e]; exact h0); omega
        subst this
        simp [e2]
      · simp [e, h9, e2]
    · by_cases e2 : v1.ownBlock = some j
      · exact .inr e2
      · by_cases e4 : c j = 9
        · exact .inl (by rw [e4]; decide)
        · simp [e2, e4] at e; exact .inl e
  refine ⟨d, ?_, fun j hj => ?_, (h.on1.mono (F' := fun j => c j = 1) (fun _ e => e)).kept kk (fun j e => old j 1 (by decide) e) (fun g hg => old g 3 (by decide) (h.v1 g hg)) (old q1 5 (by decide) h.b1) |>.mono (fun j e => d1 j 1 (by decide) (by decide) e), (h.on2.mono (F' := fun j => c j = 2) (fun _ e => e)).kept kk (fun j e => old j 2 (by decide) e) (fun g hg => old g 4 (by decide) (h.v2 g hg)) (old q2 6 (by decide) h.b2) |>.mono (fun j e => d1 j 2 (by decide) (by decide) e), fun g hg => d1 g 3 (by decide) (by decide) (h.v1 g hg), fun g hg => d1 g 4 (by decide) (by decide) (h.v2 g hg), d1 q1 5 (by decide) (by decide) h.b1, d1 q2 6 (by decide) (by decide) h.b2, hs', h.hs2.kept kk (fun j e => old j 8 (by decide) (h.h2 j e)), fun g hg => ?_, fun g hg => d1 g 8 (by decide) (by decide) (h.h2 g hg), World.ownsRow_nil _ _ _ _, kk.owns h.rk (fun g hg => old g 10 (by decide) (h.ck g hg)), (fun g e => by cases e), fun g hg => d1 g 10 (by decide) (by decide) (h.ck g hg)⟩
  · exact h.bel.trans (kk.below (fun j e => (h.rng j (by rw [c7 j e]; decide)).1) h.bel.size)
  · rcases d3 j hj with e | e
    · exact ⟨(h.rng j e).1, Nat.lt_trans (lt j e) hsz⟩
    · refine ⟨?_, (own1.lt j e).2⟩
      rcases at1 with e3 | e3
      · rw [e3] at e; exact (h.rng j (by rw [c7 j e]; decide)).1
      · rw [e3] at e; injection e with e; rw [World.size_alloc] at e; have := h.bel.size; omega
  · rcases hg with e | ⟨m, hm, e⟩
    · exact d2 g (.inr e)
    · rcases List.mem_append.1 hm with hm | hm
      · exact d1 g 7 (by decide) (by decide) (h.h1 g (.inr ⟨m, hm, e⟩))
      · rw [List.mem_singleton] at hm; subst hm
        exact d2 g (.inl (h.cl g e))
end
end Go.Proofs.Ytdojmmnojpeklaa
