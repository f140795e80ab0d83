/-
  ProcFair: table and line in memory.
-/
import Derived.Test.YtofkacfchkimiaaPSameI
import Derived.Test.YtofkacfchkimiaaPKnown
import Derived.Test.YtofkacfchkimiaaPMore
import Derived.Test.YtofkacfchkimiaaPJobC
namespace Go.Proofs.Ytofkacfchkimiaa
open Go.RowKit
set_option linter.unusedVariables false
set_option maxRecDepth 100000

/-- no process has words of its own -/
def Nd (T : Tt) : Prop := ∀ i, (T.ps i).da = .slice none 0 0 ∧ (T.ps i).ws = []
theorem Nd.start {T : Tt} (h : Nd T) (i : Nat) : Nd (T.start i 0 0 0 0) := fun j => by
  by_cases e : j = i
  · subst e
    simp [Tt.start, Tt.job, Tt.enter, Tt.behind, Tt.at, Pr.sPri, Pr.sPc, Pr.sRgs, Pr.sSt, Pr.sUn, Pr.sOb, Pr.sAd, Pr.sDa, Pr.sPl, Pr.sRel, Pr.sDl, Pr.sLate]
  · rw [start_oth T 0 0 0 0 e]; exact h j
/-- what turns neither block, where no process has words -/
theorem Tw.keptN {w w' : World} {b g cap : Nat} {T : Tt} {F : Nat → Prop} (h : Tw w b g cap T) (hN : Nd T) (k : Kept F w w') (nb : ¬ F b) (ng : ¬ F g) : Tw w' b g cap T := by
  have hl := h.low
  refine ⟨k.cell h.box nb, k.cell h.cd nb, k.cell h.hd nb, k.cell h.lk nb, k.cell h.pl nb, h.ne, h.one, h.hcap, h.hmax, fun i => ?_, fun i => ?_, fun i hi j hj => k.cell (h.at' i hi j hj) ng, fun i hi => ⟨none, 0, 0, (hN i).1, by rw [(hN i).2]; exact Zs.none _ _⟩⟩
  · have := h.fb i
    simp only [World.frozen?, k.block b hl.1 nb] at this ⊢
    exact this
  · have := h.fg i
    simp only [World.frozen?, k.block g hl.2 ng] at this ⊢
    exact this

def lnV (ls : List Nat) : List Value := ls.map (fun i : Nat => iv ((i : Int) + 1))
/-- the table, and the list of those that were started, in a block of its own -/
structure Ft (w W : World) (b g cap : Nat) (T : Tt) (N : Nat) (ls rl wl : List Nat) (va : Option Addr) (vc : Nat) : Prop where
  tn : Tn w W b g cap T
  fm : Fm T N rl wl
  own : W.ownsRow w.heap.size 3 1 (.slice va ls.length vc) ls.length (lnV ls)
  far : ∀ k, (Value.slice va ls.length vc).ownBlock = some k → k ≠ b ∧ k ≠ g
namespace Ft
variable {w W W' : World} {b g cap : Nat} {T T' : Tt} {N : Nat} {ls rl wl rl' wl' : List Nat} {va : Option Addr} {vc : Nat}
theorem step (h : Ft w W b g cap T N ls rl wl va vc) (t : Tw W' b g cap T') (k : Kept (Bg b g) W W') (f : Fm T' N rl' wl') : Ft w W' b g cap T' N ls rl' wl' va vc :=
  ⟨h.tn.step t k, f, k.owns h.own (fun q e hq => by rcases hq with hq | hq; exact (h.far q e).1 hq; exact (h.far q e).2 hq), h.far⟩
theorem keep (h : Ft w W b g cap T N ls rl wl va vc) (k : Kept No W W') : Ft w W' b g cap T N ls rl wl va vc :=
  ⟨h.tn.keep k, h.fm, k.owns h.own (fun _ _ e => e), h.far⟩
theorem app (h : Ft w W b g cap T N ls rl wl va vc) (hN : Nd T) (k : Kept No W W') {wa : World} {i : Nat} {ya : Option Addr} {yc : Nat} (own1 : wa.ownsRow w.heap.size 3 1 (.slice ya (ls.length + 1) yc) (ls.length + 1) (lnV ls ++ [.int .i64 ((i : Int) + 1)])) (gr : W'.grownBy wa (Value.slice va ls.length vc).ownBlock) (lo : (Value.slice ya (ls.length + 1) yc).ownBlock = (Value.slice va ls.length vc).ownBlock ∨ (Value.slice ya (ls.length + 1) yc).ownBlock = some W'.heap.size) : Ft w wa b g cap T N (ls ++ [i]) rl wl ya yc := by
  have kw : Kept (fun q => (Value.slice va ls.length vc).ownBlock = some q) W wa := (k.mono (fun _ e => e.elim)).grown gr (fun q e => .inl e)
  have tw := h.tn.1.keptN hN kw (fun e => (h.far b e).1 rfl) (fun e => (h.far g e).2 rfl)
  have hl : (ls ++ [i]).length = ls.length + 1 := by simp
  have lw := h.tn.1.low
  refine ⟨⟨tw, h.tn.2.1.trans kw (fun q e => .inr (owns_at h.own e).1), h.tn.2.2⟩, h.fm, ?_, ?_⟩
  · rw [hl]
    have e : lnV (ls ++ [i]) = lnV ls ++ [.int .i64 ((i : Int) + 1)] := by unfold lnV; rw [List.map_append]; rfl
    rw [e]; exact own1
  · rw [hl]
    intro q hq
    rcases lo with e | e
    · rw [e] at hq; exact h.far q hq
    · rw [e] at hq
      injection hq with hq
      have := k.size
      omega
/-- the element at i -/
theorem cell (h : Ft w W b g cap T N ls rl wl va vc) {i : Nat} (hi : i < ls.length) : ∃ gl, va = some ⟨gl, 0, none⟩ ∧ W.cell? ⟨gl, i, none⟩ = some (.int .i64 ((ls.getD i 0 : Int) + 1)) ∧ ls.length ≤ vc ∧ vc ≤ 9223372036854775807 := by
  have hc := h.own
  obtain ⟨hl, ⟨_, h2⟩ | ⟨gl, cc, cur, hv, hb, hg, hn, hm, hs, ht⟩⟩ := h.own
  · omega
  · injection hv with e1 e2 e3
    subst e1 e3
    refine ⟨gl, rfl, ?_, hn, hm⟩
    have h9 := hc.cells (g := gl) rfl i (iv ((ls.getD i 0 : Int) + 1)) (by simp [lnV, List.getD, hi])
    rw [add_none, Nat.zero_add] at h9
    exact h9
end Ft
theorem fm_new (N : Nat) (T : Tt) (hn : T.n = N) (hd : T.hd = 0) (lk : T.lk = 0) (hp : ∀ i, T.ps i = (Ql.pr ⟨0, 0, 0, 0, 0, false⟩)) : Fm T N [] [] := by
  refine ⟨hn, hd, lk, by simp, by simp, fun i hi => by rw [hp]; rfl, fun i hi => by rw [hp]; simp [Ql.pr, dorm], fun i hi => by rw [hp]; simp [Ql.pr, dorm], by simp, fun i hi _ _ => by rw [hp]; rfl, by simp, List.Pairwise.nil, List.Pairwise.nil, by simp⟩

/-! ### make([]api.Proc, n) -/
theorem Try.infoPc : (Try.prog.info? 28).map (fun i => (i.zero, i.size, i.bytes)) = some (some (.agg #[.int .i64 0, .int .i64 0, .int .i64 0, .int .i64 0, .int .i64 0, .bool false]), 6, 48) := by kernel_rfl
def mkP (n : Nat) (W : World) : World := W.alloc (.cells (madeCells (Value.agg #[.int .i64 0, .int .i64 0, .int .i64 0, .int .i64 0, .int .i64 0, .bool false]).cells (n * 6)) 28)
theorem mkP_run (n : Nat) (hn : n ≤ 16) (W : World) : (Instr.makeSlice 29 (.int .i64 n) (.int .i64 n)).run Try.prog W = .ok (.slice (some ⟨W.heap.size, 0, none⟩) n n) (mkP n W) := by
  obtain ⟨i0, hi, hz0, hz1, hz2⟩ := info_parts Try.infoPc
  have hr := run_make (P := Try.prog) W 29 28 i0 _ Try.underlying29 hi hz0 .i64 .i64 n n (by omega) (Int.le_refl _) (by rw [hz2]; omega) (by omega)
  simp only [Int.toNat_natCast] at hr
  rw [hz1] at hr
  exact hr
theorem mkP_pq (n : Nat) (hn : n ≤ 16) (W : World) : Pq (mkP n W) (fun k => k = W.heap.size) (some ⟨W.heap.size, 0, none⟩) n n (fun _ => ⟨0, 0, 0, 0, 0, false⟩) := by
  have hb := alloc_new W (.cells (madeCells (Value.agg #[.int .i64 0, .int .i64 0, .int .i64 0, .int .i64 0, .int .i64 0, .bool false]).cells (n * 6)) 28)
  have e : ∀ i, i < n * 6 → (madeCells (Value.agg #[.int .i64 0, .int .i64 0, .int .i64 0, .int .i64 0, .int .i64 0, .bool false]).cells (n * 6))[i]? = some (#[Value.int .i64 0, .int .i64 0, .int .i64 0, .int .i64 0, .int .i64 0, .bool false][i % 6]!) := fun i hi => by
    unfold madeCells
    rw [Array.getElem?_map, Array.getElem?_range, if_pos hi]
    rfl
  have cell : ∀ i, i < n * 6 → (mkP n W).cell? ⟨W.heap.size, i, none⟩ = some (#[Value.int .i64 0, .int .i64 0, .int .i64 0, .int .i64 0, .int .i64 0, .bool false][i % 6]!) := fun i hi => by
    unfold mkP
    simp only [World.cell?]
    rw [hb]
    simpa using e i hi
  have at' : ∀ i j, i < n → j < 6 → (mkP n W).cell? ⟨W.heap.size, 0 + i * 6 + j, none⟩ = some (#[Value.int .i64 0, .int .i64 0, .int .i64 0, .int .i64 0, .int .i64 0, .bool false][j]!) := fun i j hi hj => by
    have := cell (i * 6 + j) (by omega)
    rw [show (i * 6 + j) % 6 = j by omega] at this
    rw [Nat.zero_add]; exact this
  exact ⟨Nat.le_refl _, by omega, fun i hi => ⟨W.heap.size, 0, rfl, rfl, at' i 0 hi (by omega), at' i 1 hi (by omega), at' i 2 hi (by omega), at' i 3 hi (by omega), at' i 4 hi (by omega), at' i 5 hi (by omega)⟩⟩
end Go.Proofs.Ytofkacfchkimiaa
