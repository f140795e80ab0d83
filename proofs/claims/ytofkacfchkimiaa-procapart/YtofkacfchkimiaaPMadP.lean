/-
  Made: the partition that is made, its lists in memory.
-/
import Derived.Test.YtofkacfchkimiaaPSt28
import Derived.Test.YtofkacfchkimiaaPJobC
import Derived.Test.YtofkacfchkimiaaPNew
namespace Go.Proofs.Ytofkacfchkimiaa
open Go.RowKit
set_option linter.unusedVariables false
set_option linter.unusedSimpArgs false
set_option maxRecDepth 100000

/-- a partition with these lists and this handler -/
def QA (c p : Value) (h : Int) : Array Value := #[.int .i64 0, .int .i64 0, .int .i64 0, .int .i64 0, .int .i64 0, .int .i64 0, .slice none 0 0, c, p, .int .i64 h, .int .i64 0, .int .i64 0, .int .i64 0, .int .i64 0, .int .i64 0, .int .i64 0, .int .i64 0, .int .i64 0, .slice none 0 0, .slice none 0 0, .slice none 0 0]
def Z21 : Array Value := QA (.slice none 0 0) (.slice none 0 0) 0
theorem Try.info21 : (Try.prog.info? 38).map (·.size) = some 21 := by kernel_rfl
theorem built_qa (h : Int) : Try.prog.built 38 [(6, .int .i64 h)] = some (QA (.slice none 0 0) (.slice none 0 0) h) := by kernel_rfl
theorem qa_one (ca pa : Option Addr) (cm cc pm pc : Nat) (h : Int) : (QA (.slice ca cm cc) (.slice pa pm pc) h).all (·.oneCell') = true := by simp [QA, Value.oneCell']
theorem er_alP {w : World} {a : Act} {o : Oper} (ho : o.op = .alloc 38) : (execOp a.eval o).run Try.prog w = .ok (.value (.pointer (some ⟨w.heap.size, 0, none⟩))) (w.alloc (.cells Z21 38)) := by
  simp only [execOp, ho]
  simp [go_sem]
  rfl
/-- a process's cells -/
def qC (q : Ql) : List Value := [.int .i64 q.en, .int .i64 q.pp, .int .i64 q.per, .int .i64 q.lim, .int .i64 q.ca, .bool q.au]
def qL (qs : Nat → Ql) : Nat → List Value
  | 0 => []
  | k + 1 => qL qs k ++ qC (qs k)
theorem qL_len (qs : Nat → Ql) : ∀ k, (qL qs k).length = k * 6
  | 0 => rfl
  | k + 1 => by show (qL qs k ++ qC (qs k)).length = _; rw [List.length_append, qL_len qs k]; simp [qC]; omega
theorem qL_at (qs : Nat → Ql) : ∀ k i j, i < k → j < 6 → (qL qs k)[i * 6 + j]? = (qC (qs i))[j]?
  | 0, i, j, h, _ => by omega
  | k + 1, i, j, h, hj => by
    show (qL qs k ++ qC (qs k))[i * 6 + j]? = _
    by_cases hi : i < k
    · rw [List.getElem?_append_left (by rw [qL_len]; omega)]
      exact qL_at qs k i j hi hj
    · have : i = k := by omega
      subst this
      rw [List.getElem?_append_right (by rw [qL_len]; omega), qL_len, show i * 6 + j - i * 6 = j by omega]
theorem qL_ext (qs rs : Nat → Ql) : ∀ k, (∀ j, j < k → qs j = rs j) → qL qs k = qL rs k
  | 0, _ => rfl
  | k + 1, h => by
    show qL qs k ++ _ = qL rs k ++ _
    rw [qL_ext qs rs k (fun j hj => h j (by omega)), h k (by omega)]
theorem qL_set (qs : Nat → Ql) (k : Nat) {i j : Nat} (hi : i < k) (hj : j < 6) (v : Value) (q' : Ql) (e : (qC (qs i)).set j v = qC q') : (qL qs k).set (i * 6 + j) v = qL (fun x => if x = i then q' else qs x) k := by
  apply List.ext_getElem?
  intro x
  by_cases hx : x < k * 6
  · obtain ⟨a, b, hb, rfl⟩ : ∃ a b, b < 6 ∧ x = a * 6 + b := ⟨x / 6, x % 6, Nat.mod_lt _ (by decide), by omega⟩
    have ha : a < k := by omega
    rw [qL_at _ k a b ha hb, List.getElem?_set]
    by_cases ea : a = i
    · subst ea
      show _ = (qC (if a = a then q' else qs a))[b]?
      rw [if_pos rfl, ← e, List.getElem?_set]
      by_cases eb : j = b
      · subst eb
        rw [if_pos rfl, if_pos (by rw [qL_len]; omega), if_pos rfl, if_pos (by simp [qC]; exact hj)]
      · rw [if_neg (by omega), if_neg eb, qL_at qs k a b ha hb]
    · show _ = (qC (if a = i then q' else qs a))[b]?
      rw [if_neg ea, if_neg (by omega), qL_at qs k a b ha hb]
  · rw [List.getElem?_eq_none (by rw [List.length_set, qL_len]; omega), List.getElem?_eq_none (by rw [qL_len]; omega)]
theorem pq_of {W : World} {B g n pc : Nat} {qs : Nat → Ql} (h : W.ownsRow B 28 6 (.slice (some ⟨g, 0, none⟩) n pc) n (qL qs n)) : Pq W (fun k => k = g) (some ⟨g, 0, none⟩) n pc qs := by
  have hc : n ≤ pc ∧ pc ≤ maxLen := by
    rcases h.2 with ⟨e, _⟩ | ⟨g', cap', cur, e, _, _, h1, h2, _⟩
    · cases e
    · injection e with _ _ e3; subst e3; exact ⟨h1, h2⟩
  have at' : ∀ i, i < n → ∀ j, j < 6 → ∀ v, (qC (qs i))[j]? = some v → W.cell? ⟨g, i * 6 + j, none⟩ = some v := fun i hi j hj v hv => by
    have := h.cells (g := g) rfl (i * 6 + j) v ((qL_at qs n i j hi hj).trans hv)
    rw [add_none, Nat.zero_add] at this
    exact this
  refine ⟨hc.1, by have := hc.2; unfold maxLen at this; omega, fun i hi => ⟨g, 0, rfl, rfl, ?_⟩⟩
  rw [Nat.zero_add]
  exact ⟨at' i hi 0 (by decide) _ rfl, at' i hi 1 (by decide) _ rfl, at' i hi 2 (by decide) _ rfl, at' i hi 3 (by decide) _ rfl, at' i hi 4 (by decide) _ rfl, at' i hi 5 (by decide) _ rfl⟩
/-- what Made sees to of a process -/
def Qk (q : Ql) : Prop := (0 ≤ q.pp ∧ q.pp ≤ 255) ∧ (0 ≤ q.per ∧ q.per < 1099511627776)
/-- a list of instructions that is read -/
structure Ci (w : World) (F : Nat → Prop) (a : Option Addr) (n c : Nat) : Prop where
  cap : n ≤ c
  max : c ≤ 9223372036854775807
  at' : ∀ i, i < n → ∃ b o x0 x1 x2 x3 x4, a = some ⟨b, o, none⟩ ∧ F b ∧ w.cell? ⟨b, o + i * 5, none⟩ = some (.int .u8 x0) ∧ w.cell? ⟨b, o + i * 5 + 1, none⟩ = some (.int .u8 x1) ∧ w.cell? ⟨b, o + i * 5 + 2, none⟩ = some (.int .u8 x2) ∧ w.cell? ⟨b, o + i * 5 + 3, none⟩ = some (.int .u8 x3) ∧ w.cell? ⟨b, o + i * 5 + 4, none⟩ = some (.int .i32 x4)
theorem Ci.keep {w w' : World} {F : Nat → Prop} {a : Option Addr} {n c : Nat} (h : Ci w F a n c) (k : Kept No w w') : Ci w' F a n c :=
  ⟨h.cap, h.max, fun i hi => by obtain ⟨b, o, x0, x1, x2, x3, x4, e, hb, c0, c1, c2, c3, c4⟩ := h.at' i hi; exact ⟨b, o, x0, x1, x2, x3, x4, e, hb, k.cell c0 (fun h => h), k.cell c1 (fun h => h), k.cell c2 (fun h => h), k.cell c3 (fun h => h), k.cell c4 (fun h => h)⟩⟩
theorem Try.infoI5 : (Try.prog.info? 25).map (fun i => (i.zero, i.size, i.bytes)) = some (some (.agg #[.int .u8 0, .int .u8 0, .int .u8 0, .int .u8 0, .int .i32 0]), 5, 8) := by kernel_rfl
theorem Try.infoP6 : (Try.prog.info? 28).map (fun i => (i.zero, i.size, i.bytes)) = some (some (.agg #[.int .i64 0, .int .i64 0, .int .i64 0, .int .i64 0, .int .i64 0, .bool false]), 6, 48) := by kernel_rfl
theorem own_new {W W' : World} {B : Nat} {e : TypeId} {size : Nat} {x : List Value} (hx : x.length = 1 * size) (hB : B ≤ W.heap.size) (k : W'.heap[W.heap.size]? = some (.cells x.toArray e)) : W'.ownsRow B e size (.slice (some ⟨W.heap.size, 0, none⟩) 1 1) 1 x :=
  ⟨hx, .inr ⟨W.heap.size, 1, x.toArray, rfl, hB, k, Nat.le_refl _, by unfold maxLen; omega, by simpa using hx, by rw [← hx]; simp⟩⟩
/-- while it is made: the two lists so far, cn and k long -/
structure Mq (w W : World) (A : Array Value) (cn k : Nat) (ca pa : Option Addr) (cc pc : Nat) (us : List Value) (qs : Nat → Ql) (h : Int) : Prop where
  r0 : W.heap[w.heap.size]? = some (.cells A 38)
  r1 : W.heap[w.heap.size + 1]? = some (.cells Z21 38)
  r2 : W.heap[w.heap.size + 2]? = some (.cells (QA (.slice ca cn cc) (.slice pa k pc) h) 38)
  co : W.ownsRow (w.heap.size + 3) 25 5 (.slice ca cn cc) cn us
  ow : W.ownsRow (w.heap.size + 3) 28 6 (.slice pa k pc) k (qL qs k)
  hk : Kept No w W
  us1 : ∀ u ∈ us, u.oneCell' = true
namespace Mq
variable {w W W' : World} {A : Array Value} {cn k : Nat} {ca pa : Option Addr} {cc pc : Nat} {us : List Value} {qs : Nat → Ql} {h : Int}
theorem keep (m : Mq w W A cn k ca pa cc pc us qs h) (q : Kept No W W') : Mq w W' A cn k ca pa cc pc us qs h :=
  ⟨q.at' m.r0 (fun e => e), q.at' m.r1 (fun e => e), q.at' m.r2 (fun e => e), q.owns m.co (fun _ _ e => e), q.owns m.ow (fun _ _ e => e), m.hk.trans q (fun _ e => .inl e), m.us1⟩
theorem low (m : Mq w W A cn k ca pa cc pc us qs h) : w.heap.size + 2 < W.heap.size := heap_lt m.r2
/-- an instruction more -/
theorem code (m : Mq w W A cn k ca pa cc pc us qs h) (hc : cn ≤ 1024) (x : List Value) (hx : x.length = 5) (h1 : ∀ u ∈ x, u.oneCell' = true) : ∃ ya yc wa, (Builtin.append_ #[26, 26] 26 #[.slice ca cn cc, .slice (some ⟨W.heap.size, 0, none⟩) 1 1]).run Try.prog (W.alloc (.cells x.toArray 25)) = .ok (.slice ya (cn + 1) yc) wa ∧ wa.cell? ⟨w.heap.size + 2, 7, none⟩ = some (.slice ca cn cc) ∧ wa.frozen? ⟨w.heap.size + 2, 7, none⟩ = false ∧ wa.heap[w.heap.size]? = some (.cells A 38) ∧ Kept (fun j => (Value.slice ca cn cc).ownBlock = some j) W wa ∧ Mq w (wa.setCell ⟨w.heap.size + 2, 7, none⟩ (.slice ya (cn + 1) yc)) A (cn + 1) k ya pa yc pc (us ++ x) qs h := by
  obtain ⟨i0, hi0, hz0, hz1, hz2⟩ := info_parts Try.infoI5
  have hlow := m.low
  have hnews : ∀ j u, x[j]? = some u → (W.alloc (.cells x.toArray 25)).cell? ((⟨W.heap.size, 0, none⟩ : Addr).add j) = some u := by
    intro j u hu
    rw [add_none, Nat.zero_add]
    exact cell_row (alloc_new W _) (by simpa using hu)
  obtain ⟨v1, wa, r1, r2, r3, _, _⟩ := run_append_own_at (P := Try.prog) (W.alloc (.cells x.toArray 25)) (w.heap.size + 3) 26 26 25 i0 _ 5 8 Try.underlying26 hi0 hz0 hz1 hz2 rfl (by decide) (.slice ca cn cc) cn us (m.co.alloc _) ⟨W.heap.size, 0, none⟩ 1 1 x (by rw [hx]) hnews h1 (by unfold maxLen; omega) (by omega) (by rw [World.size_alloc]; omega)
  obtain ⟨ya, yn, yc, rfl⟩ := own_slice r2
  have hyn : yn = cn + 1 := by
    obtain ⟨_, ⟨_, h2⟩ | ⟨g, cap, cur, h2, _⟩⟩ := r2
    · omega
    · injection h2
  subst hyn
  have ka : Kept (fun j => (Value.slice ca cn cc).ownBlock = some j) W wa := ((Kept.refl _ W).alloc _).grown r3 (fun j e => .inl e)
  have lo := m.co.lt
  have nb : ∀ j, j < w.heap.size + 3 → ¬ (Value.slice ca cn cc).ownBlock = some j := fun j hj e => by have := lo _ e; omega
  have b0 := ka.at' m.r0 (nb _ (by omega))
  have b1 := ka.at' m.r1 (nb _ (by omega))
  have b2 := ka.at' m.r2 (nb _ (by omega))
  have op := ka.owns m.ow (fun j hj e => own_ne m.co m.ow (by decide) e hj)
  have ks : Kept (fun j => j = w.heap.size + 2) wa (wa.setCell ⟨w.heap.size + 2, 7, none⟩ (.slice ya (cn + 1) yc)) := (Kept.refl (fun j => j = w.heap.size + 2) wa).setCell (p := ⟨w.heap.size + 2, 7, none⟩) (.inl rfl) _
  refine ⟨ya, yc, wa, r1, cell_row b2 rfl, fzc b2 7, b0, ka, ⟨ks.at' b0 (by omega), ks.at' b1 (by omega), setC 7 _ b2, ks.owns r2 (fun j hj e => by have := r2.lt j hj; omega), ks.owns op (fun j hj e => by have := op.lt j hj; omega), ?_, fun u hu => ?_⟩⟩
  · exact (m.hk.trans ka (fun j e => .inr (by have := lo _ e; omega))).setCell (.inr (by simp)) _
  · rcases List.mem_append.1 hu with e | e
    · exact m.us1 u e
    · exact h1 u e
/-- a process more -/
theorem proc (m : Mq w W A cn k ca pa cc pc us qs h) (hc : k ≤ 1024) (q : Ql) : ∃ ya yc wa, (Builtin.append_ #[29, 29] 29 #[.slice pa k pc, .slice (some ⟨W.heap.size, 0, none⟩) 1 1]).run Try.prog (W.alloc (.cells #[.int .i64 q.en, .int .i64 q.pp, .int .i64 q.per, .int .i64 q.lim, .int .i64 q.ca, .bool q.au] 28)) = .ok (.slice ya (k + 1) yc) wa ∧ wa.cell? ⟨w.heap.size + 2, 8, none⟩ = some (.slice pa k pc) ∧ wa.frozen? ⟨w.heap.size + 2, 8, none⟩ = false ∧ Mq w (wa.setCell ⟨w.heap.size + 2, 8, none⟩ (.slice ya (k + 1) yc)) A cn (k + 1) ca ya cc yc us (fun j => if j = k then q else qs j) h := by
  obtain ⟨i0, hi0, hz0, hz1, hz2⟩ := info_parts Try.infoP6
  have hlow := m.low
  obtain ⟨v1, wa, r1, r2, r3, _, _⟩ := run_append_own_at (P := Try.prog) (W.alloc (.cells #[.int .i64 q.en, .int .i64 q.pp, .int .i64 q.per, .int .i64 q.lim, .int .i64 q.ca, .bool q.au] 28)) (w.heap.size + 3) 29 29 28 i0 _ 6 48 Try.underlying29 hi0 hz0 hz1 hz2 rfl (by decide) (.slice pa k pc) k (qL qs k) (m.ow.alloc _) ⟨W.heap.size, 0, none⟩ 1 1 (qC q) rfl new_cells (by simp [qC, Value.oneCell']) (by unfold maxLen; omega) (by omega) (by rw [World.size_alloc]; omega)
  obtain ⟨ya, yn, yc, rfl⟩ := own_slice r2
  have hyn : yn = k + 1 := by
    obtain ⟨_, ⟨_, h2⟩ | ⟨g, cap, cur, h2, _⟩⟩ := r2
    · omega
    · injection h2
  subst hyn
  have ka : Kept (fun j => (Value.slice pa k pc).ownBlock = some j) W wa := ((Kept.refl _ W).alloc _).grown r3 (fun j e => .inl e)
  have lo := m.ow.lt
  have nb : ∀ j, j < w.heap.size + 3 → ¬ (Value.slice pa k pc).ownBlock = some j := fun j hj e => by have := lo _ e; omega
  have b0 := ka.at' m.r0 (nb _ (by omega))
  have b1 := ka.at' m.r1 (nb _ (by omega))
  have b2 := ka.at' m.r2 (nb _ (by omega))
  have op := ka.owns m.co (fun j hj e => own_ne m.ow m.co (by decide) e hj)
  have ks : Kept (fun j => j = w.heap.size + 2) wa (wa.setCell ⟨w.heap.size + 2, 8, none⟩ (.slice ya (k + 1) yc)) := (Kept.refl (fun j => j = w.heap.size + 2) wa).setCell (p := ⟨w.heap.size + 2, 8, none⟩) (.inl rfl) _
  have e1 : qL (fun j => if j = k then q else qs j) (k + 1) = qL qs k ++ qC q := by
    show qL (fun j => if j = k then q else qs j) k ++ qC (if k = k then q else qs k) = _
    rw [if_pos rfl, qL_ext _ qs k (fun j hj => by show (if j = k then _ else _) = _; rw [if_neg (by omega)])]
  refine ⟨ya, yc, wa, r1, cell_row b2 rfl, fzc b2 8, ⟨ks.at' b0 (by omega), ks.at' b1 (by omega), setC 8 _ b2, ks.owns op (fun j hj e => by have := op.lt j hj; omega), ?_, ?_, m.us1⟩⟩
  · rw [e1]
    exact ks.owns r2 (fun j hj e => by have := r2.lt j hj; omega)
  · exact (m.hk.trans ka (fun j e => .inr (by have := lo _ e; omega))).setCell (.inr (by simp)) _
/-- one instruction in the list's place -/
theorem code1 (m : Mq w W A cn k ca pa cc pc us qs h) (x : List Value) (hx : x.length = 5) (h1 : ∀ u ∈ x, u.oneCell' = true) : (W.alloc (.cells x.toArray 25)).cell? ⟨w.heap.size + 2, 7, none⟩ = some (.slice ca cn cc) ∧ (W.alloc (.cells x.toArray 25)).frozen? ⟨w.heap.size + 2, 7, none⟩ = false ∧ Mq w ((W.alloc (.cells x.toArray 25)).setCell ⟨w.heap.size + 2, 7, none⟩ (.slice (some ⟨W.heap.size, 0, none⟩) 1 1)) A 1 k (some ⟨W.heap.size, 0, none⟩) pa 1 pc x qs h := by
  have hlow := m.low
  have ka : Kept No W (W.alloc (.cells x.toArray 25)) := (Kept.refl No W).alloc _
  have b0 := ka.at' m.r0 (fun e => e)
  have b1 := ka.at' m.r1 (fun e => e)
  have b2 := ka.at' m.r2 (fun e => e)
  have op := ka.owns m.ow (fun _ _ e => e)
  have ks : Kept (fun j => j = w.heap.size + 2) (W.alloc (.cells x.toArray 25)) ((W.alloc (.cells x.toArray 25)).setCell ⟨w.heap.size + 2, 7, none⟩ (.slice (some ⟨W.heap.size, 0, none⟩) 1 1)) := (Kept.refl (fun j => j = w.heap.size + 2) _).setCell (p := ⟨w.heap.size + 2, 7, none⟩) (.inl rfl) _
  refine ⟨cell_row b2 rfl, fzc b2 7, ⟨ks.at' b0 (by omega), ks.at' b1 (by omega), setC 7 _ b2, own_new (by omega) (by omega) (ks.at' (alloc_new W _) (by omega)), ks.owns op (fun j hj e => by have := op.lt j hj; omega), ?_, h1⟩⟩
  exact (m.hk.alloc _).setCell (.inr (by simp)) _
/-- one process in the list's place -/
theorem proc1 (m : Mq w W A cn k ca pa cc pc us qs h) (q : Ql) : (W.alloc (.cells #[.int .i64 q.en, .int .i64 q.pp, .int .i64 q.per, .int .i64 q.lim, .int .i64 q.ca, .bool q.au] 28)).cell? ⟨w.heap.size + 2, 8, none⟩ = some (.slice pa k pc) ∧ (W.alloc (.cells #[.int .i64 q.en, .int .i64 q.pp, .int .i64 q.per, .int .i64 q.lim, .int .i64 q.ca, .bool q.au] 28)).frozen? ⟨w.heap.size + 2, 8, none⟩ = false ∧ Mq w ((W.alloc (.cells #[.int .i64 q.en, .int .i64 q.pp, .int .i64 q.per, .int .i64 q.lim, .int .i64 q.ca, .bool q.au] 28)).setCell ⟨w.heap.size + 2, 8, none⟩ (.slice (some ⟨W.heap.size, 0, none⟩) 1 1)) A cn 1 ca (some ⟨W.heap.size, 0, none⟩) cc 1 us (fun _ => q) h := by
  have hlow := m.low
  have ka : Kept No W (W.alloc (.cells #[.int .i64 q.en, .int .i64 q.pp, .int .i64 q.per, .int .i64 q.lim, .int .i64 q.ca, .bool q.au] 28)) := (Kept.refl No W).alloc _
  have b0 := ka.at' m.r0 (fun e => e)
  have b1 := ka.at' m.r1 (fun e => e)
  have b2 := ka.at' m.r2 (fun e => e)
  have op := ka.owns m.co (fun _ _ e => e)
  have ks : Kept (fun j => j = w.heap.size + 2) (W.alloc (.cells #[.int .i64 q.en, .int .i64 q.pp, .int .i64 q.per, .int .i64 q.lim, .int .i64 q.ca, .bool q.au] 28)) ((W.alloc (.cells #[.int .i64 q.en, .int .i64 q.pp, .int .i64 q.per, .int .i64 q.lim, .int .i64 q.ca, .bool q.au] 28)).setCell ⟨w.heap.size + 2, 8, none⟩ (.slice (some ⟨W.heap.size, 0, none⟩) 1 1)) := (Kept.refl (fun j => j = w.heap.size + 2) _).setCell (p := ⟨w.heap.size + 2, 8, none⟩) (.inl rfl) _
  refine ⟨cell_row b2 rfl, fzc b2 8, ⟨ks.at' b0 (by omega), ks.at' b1 (by omega), setC 8 _ b2, ks.owns op (fun j hj e => by have := op.lt j hj; omega), own_new (x := qC q) (by simp [qC]) (by omega) (ks.at' (alloc_new W _) (by omega)), ?_, m.us1⟩⟩
  exact (m.hk.alloc _).setCell (.inr (by simp)) _
/-- the handler's number is set -/
theorem hand (m : Mq w W A cn k ca pa cc pc us qs h) (h' : Int) : W.cell? ⟨w.heap.size + 2, 9, none⟩ = some (.int .i64 h) ∧ W.frozen? ⟨w.heap.size + 2, 9, none⟩ = false ∧ Mq w (W.setCell ⟨w.heap.size + 2, 9, none⟩ (.int .i64 h')) A cn k ca pa cc pc us qs h' := by
  have ks : Kept (fun j => j = w.heap.size + 2) W (W.setCell ⟨w.heap.size + 2, 9, none⟩ (.int .i64 h')) := (Kept.refl (fun j => j = w.heap.size + 2) _).setCell (p := ⟨w.heap.size + 2, 9, none⟩) (.inl rfl) _
  exact ⟨cell_row m.r2 rfl, fzc m.r2 9, ⟨ks.at' m.r0 (by omega), ks.at' m.r1 (by omega), setC 9 _ m.r2, ks.owns m.co (fun j hj e => by have := m.co.lt j hj; omega), ks.owns m.ow (fun j hj e => by have := m.ow.lt j hj; omega), m.hk.setCell (.inr (by simp)) _, m.us1⟩⟩
/-- a cell of a process is set -/
theorem cellp {g : Nat} (m : Mq w W A cn k ca (some ⟨g, 0, none⟩) cc pc us qs h) {i : Nat} (hi : i < k) (j : Nat) (hj : j < 6) (v : Value) (q' : Ql) (e : (qC (qs i)).set j v = qC q') : (∃ u, W.cell? ⟨g, i * 6 + j, none⟩ = some u) ∧ W.frozen? ⟨g, i * 6 + j, none⟩ = false ∧ Mq w (W.setCell ⟨g, i * 6 + j, none⟩ v) A cn k ca (some ⟨g, 0, none⟩) cc pc us (fun x => if x = i then q' else qs x) h := by
  have lo := m.ow.lt g rfl
  have ks : Kept (fun x => x = g) W (W.setCell ⟨g, i * 6 + j, none⟩ v) := (Kept.refl (fun x => x = g) _).setCell (p := ⟨g, i * 6 + j, none⟩) (.inl rfl) _
  obtain ⟨u, hu⟩ : ∃ u, (qC (qs i))[j]? = some u := ⟨_, List.getElem?_eq_getElem (by simp [qC]; exact hj)⟩
  have hcell := m.ow.cells (g := g) rfl (i * 6 + j) u ((qL_at qs k i j hi hj).trans hu)
  rw [add_none, Nat.zero_add] at hcell
  have hfz : W.frozen? ⟨g, i * 6 + j, none⟩ = false := by
    rcases m.ow.2 with ⟨e, _⟩ | ⟨g', cap', cur, e, _, hg, _⟩
    · cases e
    · injection e with e1 _ _
      injection e1 with e1
      injection e1 with e1 _ _
      subst e1
      exact fzc hg _
  refine ⟨⟨u, hcell⟩, hfz, ⟨ks.at' m.r0 (by omega), ks.at' m.r1 (by omega), ks.at' m.r2 (by omega), ks.owns m.co (fun x hx e => own_ne m.co m.ow (by decide) hx (by rw [e]; rfl)), ?_, m.hk.setCell (.inr (by simp; omega)) _, m.us1⟩⟩
  refine ⟨by rw [qL_len], ?_⟩
  rcases m.ow.2 with ⟨e, _⟩ | ⟨g', cap', cur, e2, hb, hg, h1, h2, h3, h4⟩
  · cases e
  · injection e2 with e1 _ e3
    injection e1 with e1
    injection e1 with e1 _ _
    subst e1 e3
    refine .inr ⟨g, pc, cur.setIfInBounds (i * 6 + j) v, rfl, hb, setC (i * 6 + j) v hg, h1, h2, by simpa using h3, ?_⟩
    rw [Array.toList_setIfInBounds]
    rw [List.take_set, h4]
    exact qL_set qs k hi hj v q' e
end Mq
end Go.Proofs.Ytofkacfchkimiaa
