/-
  One text: OGives, OJoinP, OJoin, OAgain0, OAgain1, OAgain2, OAgain.
-/
import Derived.Test.YtibmgpinfdcaoaaGreatDoorG21
import Derived.Test.YtibmgpinfdcaoaaGreatDoorG15
import Derived.Test.YtibmgpinfdcaoaaGreatDoorG16
namespace Go.Proofs.YtibmgpinfdcaoaaGreatDoor
open Go.RowKit Go.Shelf Plain
set_option linter.unusedVariables false
set_option maxRecDepth 100000

theorem Sv.same {w W : World} {F : Nat → Prop} {a : Option Addr} {n c : Nat} {xs : List Srv} (h : Sv w F a n c xs) (hk : ∀ k, F k → W.heap[k]? = w.heap[k]?) : Sv W F a n c xs :=
  ⟨h.len, h.cap, h.max, h.nil, fun i x hx => by
    obtain ⟨ok, b, o, e, hb, h0, h1, h2, h3⟩ := h.at' i x hx
    have e2 : ∀ j, W.cell? ⟨b, j, none⟩ = w.cell? ⟨b, j, none⟩ := fun j => World.cell?_of_block (hk b hb)
    exact ⟨ok, b, o, e, hb, (e2 _).trans h0, (e2 _).trans h1, (e2 _).trans h2, (e2 _).trans h3⟩⟩

theorem heap_alloc2 {w : World} {o1 o2 : Obj} : ((w.alloc o1).alloc o2).heap[w.heap.size]? = some o1 ∧ ((w.alloc o1).alloc o2).heap[w.heap.size + 1]? = some o2 := by
  constructor
  · exact (Below.heap_alloc _ _ _ (by simp)).trans (World.alloc_heap_new w o1)
  · have := World.alloc_heap_new (w.alloc o1) o2; rwa [World.size_alloc] at this

theorem play_any (a : Option Addr) (n c : Nat) (t : Int) (w : World) :
    Calls Tryz.prog 44 #[.slice a n c, .int .i64 t] w fun e w' => e = .returned (.func (.func 57) #[] #[.pointer (some ⟨w.heap.size, 0, none⟩), .pointer (some ⟨w.heap.size + 1, 0, none⟩)]) ∧ w' = (w.alloc (.cells #[.slice a n c] 22)).alloc (.cells #[.int .i64 t] 3) := by
  go_enter Tryz.func44, Tryz.ntmps44
  go_wp2
  go_ret
  exact ⟨rfl, rfl⟩

theorem play_gives {F : Nat → Prop} {a : Option Addr} {c : Nat} {xs : List Srv} {w : World} (hv : Vd xs) (h : Sv w F a xs.length c xs) (hF : ∀ k, F k → k < w.heap.size) (below : Nat) (hb : below ≤ 1099511627776) :
    Gives Tryz.prog 57 #[.pointer (some ⟨w.heap.size, 0, none⟩), .pointer (some ⟨w.heap.size + 1, 0, none⟩)] (Rule.occ (sys xs)) 0 below ((w.alloc (.cells #[.slice a xs.length c] 22)).alloc (.cells #[.int .i64 below] 3)) (fun k => F k ∨ k = w.heap.size ∨ k = w.heap.size + 1) := by
  intro l J Jx W S hsz hsame hGS hJ hJx hT h0
  obtain ⟨e1, e2⟩ := heap_alloc2 (w := w) (o1 := .cells #[.slice a xs.length c] 22) (o2 := .cells #[.int .i64 below] 3)
  have h' : Sv W F a xs.length c xs := h.same (fun k hk => (hsame k (.inl hk)).trans ((Below.heap_alloc _ _ _ (by have := hF k hk; simp; omega)).trans (Below.heap_alloc _ _ _ (hF k hk))))
  exact play_in hv w.heap.size (w.heap.size + 1) below hb l J Jx W S h' (fun k hk => hGS k (.inl hk)) (cell_box ((hsame _ (.inr (.inl rfl))).trans e1)) (cell_box ((hsame _ (.inr (.inr rfl))).trans e2)) (hGS _ (.inr (.inl rfl))) (hGS _ (.inr (.inr rfl))) hJ hJx hT h0

end Go.Proofs.YtibmgpinfdcaoaaGreatDoor

namespace Go.Proofs.YtibmgpinfdcaoaaGreatDoor
namespace Rule
set_option linter.unusedVariables false
set_option linter.unusedSimpArgs false

/-- a slot at the end of a list: its length, its occupant -/
def joinL (L : List (Nat × Nat)) (x : Nat × Nat) : List (Nat × Nat) :=
  match L.getLast? with
  | some y => if y.2 = x.2 then L.dropLast ++ [(y.1 + x.1, x.2)] else L ++ [x]
  | none => [x]
theorem joinL_nil (x : Nat × Nat) : joinL [] x = [x] := rfl
theorem joinL_snoc (L : List (Nat × Nat)) (y x : Nat × Nat) : joinL (L ++ [y]) x = if y.2 = x.2 then L ++ [(y.1 + x.1, x.2)] else L ++ [y] ++ [x] := by
  unfold joinL
  simp only [List.getLast?_append, List.getLast?_singleton, Option.or_some, List.dropLast_concat]
  simp
theorem joinL_two (L : List (Nat × Nat)) (a b p : Nat) : joinL (joinL L (a, p)) (b, p) = joinL L (a + b, p) := by
  rcases List.eq_nil_or_concat L with rfl | ⟨K, y, rfl⟩
  · rw [joinL_nil, joinL_nil]
    show joinL ([] ++ [(a, p)]) (b, p) = _
    rw [joinL_snoc, if_pos rfl]; rfl
  · rw [List.concat_eq_append, joinL_snoc, joinL_snoc]
    by_cases h : y.2 = p
    · rw [if_pos h, if_pos h, joinL_snoc, if_pos rfl, Nat.add_assoc]
    · rw [if_neg h, if_neg h, joinL_snoc, if_pos rfl]

/-- the ticks from a on, m of them, as slots -/
def runsOf (f : Nat → Nat) (a : Nat) : Nat → List (Nat × Nat)
  | 0 => []
  | m + 1 => joinL (runsOf f a m) (1, f (a + m))
theorem runsOf_join (f : Nat → Nat) (a m k p : Nat) (hk : 1 ≤ k) (h : ∀ u, a + m ≤ u → u < a + m + k → f u = p) : runsOf f a (m + k) = joinL (runsOf f a m) (k, p) := by
  induction k with
  | zero => omega
  | succ k ih =>
    by_cases e : k = 0
    · subst e
      show joinL (runsOf f a m) (1, f (a + m)) = _
      rw [h (a + m) (by omega) (by omega)]
    · have := ih (by omega) (fun u x y => h u x (by omega))
      show joinL (runsOf f a (m + k)) (1, f (a + (m + k))) = _
      rw [this, h (a + (m + k)) (by omega) (by omega), joinL_two]

/-- how many ticks the first i slots have -/
def pre (L : List (Nat × Nat)) (i : Nat) : Nat := ((L.take i).map (·.1)).sum
/-- L tells the m ticks of f from a on -/
structure Tile (f : Nat → Nat) (a m : Nat) (L : List (Nat × Nat)) : Prop where
  sum : (L.map (·.1)).sum = m
  pos : ∀ x ∈ L, 1 ≤ x.1
  at' : ∀ i x, L[i]? = some x → ∀ u, pre L i ≤ u → u < pre L i + x.1 → f (a + u) = x.2
theorem pre_all (L : List (Nat × Nat)) : pre L L.length = (L.map (·.1)).sum := by unfold pre; rw [List.take_length]
theorem pre_zero (L : List (Nat × Nat)) : pre L 0 = 0 := rfl
theorem pre_succ {L : List (Nat × Nat)} {i : Nat} {x : Nat × Nat} (h : L[i]? = some x) : pre L (i + 1) = pre L i + x.1 := by
  unfold pre
  rw [List.take_add_one, h]
  simp
theorem pre_app {L K : List (Nat × Nat)} {i : Nat} (h : i ≤ L.length) : pre (L ++ K) i = pre L i := by
  unfold pre
  rw [List.take_append_of_le_length h]
theorem Tile.snoc {f : Nat → Nat} {a m : Nat} {L : List (Nat × Nat)} (h : Tile f a m L) (x : Nat × Nat) (hx : 1 ≤ x.1) (hf : ∀ u, m ≤ u → u < m + x.1 → f (a + u) = x.2) : Tile f a (m + x.1) (L ++ [x]) := by
  refine ⟨by simp [h.sum], fun y hy => ?_, fun i y hy u h1 h2 => ?_⟩
  · rcases List.mem_append.1 hy with h1 | h1
    · exact h.pos y h1
    · simp at h1; subst h1; exact hx
  · by_cases hi : i < L.length
    · rw [List.getElem?_append_left hi] at hy
      rw [pre_app (by omega)] at h1 h2
      exact h.at' i y hy u h1 h2
    · have e : i = L.length := by
        apply Decidable.byContradiction
        intro hn
        rw [List.getElem?_append_right (by omega), List.getElem?_eq_none (by simp; omega)] at hy
        cases hy
      subst e
      simp at hy
      subst hy
      rw [pre_app (Nat.le_refl _), pre_all, h.sum] at h1 h2
      exact hf u h1 h2
theorem Tile.join {f : Nat → Nat} {a m : Nat} {L : List (Nat × Nat)} (h : Tile f a m L) (x : Nat × Nat) (hx : 1 ≤ x.1) (hf : ∀ u, m ≤ u → u < m + x.1 → f (a + u) = x.2) : Tile f a (m + x.1) (joinL L x) := by
  rcases List.eq_nil_or_concat L with rfl | ⟨K, y, rfl⟩
  · rw [joinL_nil]
    exact h.snoc x hx hf
  · rw [List.concat_eq_append] at h ⊢
    rw [joinL_snoc]
    by_cases e : y.2 = x.2
    · rw [if_pos e]
      have hK : (K.map (·.1)).sum + y.1 = m := by have := h.sum; simpa using this
      have hy : (K ++ [y])[K.length]? = some y := by simp
      have hT : Tile f a (K.map (·.1)).sum K := by
        refine ⟨rfl, fun z hz => h.pos z (List.mem_append_left _ hz), fun i z hz u h1 h2 => ?_⟩
        have hi : i < K.length := (List.getElem?_eq_some_iff.1 hz).1
        refine h.at' i z (by rw [List.getElem?_append_left hi]; exact hz) u ?_ ?_
        · rw [pre_app (by omega)]; exact h1
        · rw [pre_app (by omega)]; exact h2
      have := hT.snoc (y.1 + x.1, x.2) (by show 1 ≤ y.1 + x.1; omega) (fun u h1 h2 => by
        by_cases hu : u < m
        · have := h.at' K.length y hy u (by rw [pre_app (Nat.le_refl _), pre_all]; exact h1) (by rw [pre_app (Nat.le_refl _), pre_all]; omega)
          rw [this]; exact e
        · exact hf u (by omega) (by simp only at h2; omega))
      have e2 : (K.map (·.1)).sum + (y.1 + x.1, x.2).1 = m + x.1 := by show (K.map (·.1)).sum + (y.1 + x.1) = m + x.1; omega
      rw [e2] at this
      exact this
    · rw [if_neg e]
      exact h.snoc x hx hf
theorem runsOf_tile (f : Nat → Nat) (a m : Nat) : Tile f a m (runsOf f a m) := by
  induction m with
  | zero => exact ⟨rfl, (fun x hx => by cases hx), (fun i x hx => by simp [runsOf] at hx)⟩
  | succ m ih => exact ih.join (1, f (a + m)) (Nat.le_refl _) (fun u h1 h2 => by
      have : u = m := by simp only at h2; omega
      subst this; rfl)
theorem pre_le {f : Nat → Nat} {a m : Nat} {L : List (Nat × Nat)} (h : Tile f a m L) (i : Nat) : pre L i ≤ m := by
  rw [← h.sum]
  unfold pre
  have : (L.map (·.1)).sum = ((L.take i).map (·.1)).sum + ((L.drop i).map (·.1)).sum := by
    rw [← List.sum_append, ← List.map_append, List.take_append_drop]
  omega
theorem len_le_sum (L : List (Nat × Nat)) (h : ∀ x ∈ L, 1 ≤ x.1) : L.length ≤ (L.map (·.1)).sum := by
  induction L with
  | nil => exact Nat.le_refl _
  | cons x r ih =>
    have h1 := h x (List.mem_cons_self)
    have h2 := ih (fun y hy => h y (List.mem_cons_of_mem _ hy))
    simp only [List.length_cons, List.map_cons, List.sum_cons]
    omega
theorem Tile.len {f : Nat → Nat} {a m : Nat} {L : List (Nat × Nat)} (h : Tile f a m L) : L.length ≤ m := by
  have := len_le_sum L h.pos
  rw [h.sum] at this
  exact this
theorem Tile.elt {f : Nat → Nat} {a m : Nat} {L : List (Nat × Nat)} (h : Tile f a m L) {x : Nat × Nat} (hx : x ∈ L) : x.1 ≤ m := by
  obtain ⟨i, hi, rfl⟩ := List.getElem_of_mem hx
  have h1 := pre_le h (i + 1)
  rw [pre_succ (List.getElem?_eq_getElem hi)] at h1
  omega
end Rule
end Go.Proofs.YtibmgpinfdcaoaaGreatDoor

namespace Go.Proofs.YtibmgpinfdcaoaaGreatDoor
open Go.RowKit Plain
set_option linter.unusedVariables false
set_option linter.unusedSimpArgs false
set_option maxRecDepth 100000

def slL : List (Nat × Nat) → List Value
  | [] => []
  | x :: r => nv x.1 :: nv x.2 :: slL r
theorem slL_len : ∀ L : List (Nat × Nat), (slL L).length = L.length * 2
  | [] => rfl
  | x :: r => by simp only [slL, List.length_cons, slL_len r]; omega
theorem slL_app : ∀ L K : List (Nat × Nat), slL (L ++ K) = slL L ++ slL K
  | [], K => rfl
  | x :: r, K => by simp only [slL, List.cons_append, slL_app r K]
theorem slL_one : ∀ L : List (Nat × Nat), ∀ u ∈ slL L, u.oneCell' = true
  | [], u, h => by cases h
  | x :: r, u, h => by
    simp only [slL, List.mem_cons] at h
    rcases h with rfl | rfl | h
    · rfl
    · rfl
    · exact slL_one r u h
theorem slL_at : ∀ (L : List (Nat × Nat)) (i : Nat) (x : Nat × Nat), L[i]? = some x → (slL L)[i * 2]? = some (nv x.1) ∧ (slL L)[i * 2 + 1]? = some (nv x.2)
  | [], i, x, h => by simp at h
  | y :: r, 0, x, h => by simp at h; subst h; exact ⟨rfl, rfl⟩
  | y :: r, i + 1, x, h => by
    simp at h
    have := slL_at r i x h
    have e : (i + 1) * 2 = i * 2 + 2 := by omega
    rw [e]
    exact this
/-- v is an owned list of slots -/
def Ow (w : World) (base : Nat) (v : Value) (L : List (Nat × Nat)) : Prop := w.ownsRow base 79 2 v L.length (slL L)
theorem Tryz.infoSo : (Tryz.prog.info? 79).map (fun i => (i.zero, i.size, i.bytes)) = some (some (.agg #[.int .i64 0, .int .i64 0]), 2, 16) := by kernel_rfl
theorem cell_two (w : World) (x y : Nat) (t : TypeId) : ∀ j u, (slL [(x, y)])[j]? = some u → (w.alloc (.cells #[.int .i64 x, .int .i64 y] t)).cell? (Addr.add ⟨w.heap.size, 0, none⟩ j) = some u := by
  intro j u hj
  match j, hj with
  | 0, hj => simp [slL] at hj; subst hj; simp [Addr.add, nv]
  | 1, hj => simp [slL] at hj; subst hj; simp [Addr.add, nv]
  | j + 2, hj => simp [slL] at hj

/-- what join leaves -/
def Joined (w : World) (base : Nat) (v : Value) (L : List (Nat × Nat)) (x : Nat × Nat) (e : Ending) (w' : World) : Prop :=
  ∃ v', e = .returned v' ∧ Ow w' base v' (Rule.joinL L x) ∧ Kept (fun k => v.ownBlock = some k) w w' ∧ ∀ k, v'.ownBlock = some k → v.ownBlock = some k ∨ w.heap.size ≤ k

theorem ow_set {w : World} {base g c : Nat} {K : List (Nat × Nat)} {y : Nat × Nat} {z : Nat} (h : Ow w base (.slice (some ⟨g, 0, none⟩) (K.length + 1) c) (K ++ [y])) : Ow (w.drew.setCell ⟨g, K.length * 2, none⟩ (.int .i64 z)) base (.slice (some ⟨g, 0, none⟩) (K.length + 1) c) (K ++ [(z, y.2)]) := by
  obtain ⟨hl, ⟨h1, _⟩ | ⟨g', cap, cur, hv, hb, hg, hn, hm, hs, ht⟩⟩ := h
  · cases h1
  · injection hv with e1 _ e3
    injection e1 with e1
    injection e1 with e1 _ _
    subst e1 e3
    have hll : (K ++ [(z, y.2)]).length = (K ++ [y]).length := by simp
    refine ⟨by rw [slL_len], .inr ⟨g, c, cur.setIfInBounds (K.length * 2) (.int .i64 z), by rw [hll]; simp, hb, ?_, by rw [hll]; exact hn, hm, by simpa using hs, ?_⟩⟩
    · show (w.drew.heap.modify g _)[g]? = _
      rw [Array.getElem?_modify, if_pos rfl, show w.drew.heap = w.heap from rfl, hg]
      rfl
    · rw [hll, slL_app, Array.toList_setIfInBounds, List.take_set, ht, slL_app]
      rw [List.set_append_right _ _ (by rw [slL_len]; omega), slL_len]
      simp [slL, nv]
end Go.Proofs.YtibmgpinfdcaoaaGreatDoor

namespace Go.Proofs.YtibmgpinfdcaoaaGreatDoor
open Go.RowKit Go.Shelf Plain
attribute [local go_sem] Oper.semAt_some
set_option linter.unusedVariables false
set_option maxRecDepth 100000

/-- the slots of one turn, of H ticks; from from on f goes by it -/
structure Turn (f : Nat → Nat) (H from' : Nat) (T : List (Nat × Nat)) : Prop where
  tile : Rule.Tile (fun u => f (from' + u)) 0 H T
  per : ∀ u, f (from' + u) = f (from' + u % H)
  pos : 1 ≤ H

theorem Turn.one {f : Nat → Nat} {H from' : Nat} {x : Nat × Nat} (h : Turn f H from' [x]) (u : Nat) : f (from' + u) = x.2 := by
  have hs : x.1 = H := by have := h.tile.sum; simpa using this
  rw [h.per u]
  have := h.tile.at' 0 x rfl (u % H) (by rw [Rule.pre_zero]; omega) (by rw [Rule.pre_zero, hs]; have := Nat.mod_lt u (show H > 0 from h.pos); omega)
  rw [Nat.zero_add] at this
  exact this
theorem Turn.next {f : Nat → Nat} {H from' : Nat} {T : List (Nat × Nat)} (h : Turn f H from' T) {i k : Nat} {x : Nat × Nat} (hx : T[i]? = some x) : ∀ u, Rule.pre T i ≤ u → u < Rule.pre T i + x.1 → f (from' + k * H + u) = x.2 := by
  intro u h1 h2
  have e1 : from' + k * H + u = from' + (k * H + u) := by omega
  have hle : Rule.pre T i + x.1 ≤ H := by
    have := Rule.pre_le h.tile (i + 1)
    rw [Rule.pre_succ hx] at this
    exact this
  have e2 : (k * H + u) % H = u := by
    rw [Nat.mul_comm, Nat.mul_add_mod]
    exact Nat.mod_eq_of_lt (by omega)
  rw [e1, h.per, e2]
  have := h.tile.at' i x hx u h1 h2
  rw [Nat.zero_add] at this
  exact this

end Go.Proofs.YtibmgpinfdcaoaaGreatDoor

namespace Go.Proofs.YtibmgpinfdcaoaaGreatDoor
open Go.RowKit Go.Shelf Plain
attribute [local go_sem] Oper.semAt_some
set_option linter.unusedVariables false
set_option maxRecDepth 100000

end Go.Proofs.YtibmgpinfdcaoaaGreatDoor

namespace Go.Proofs.YtibmgpinfdcaoaaGreatDoor
open Go.RowKit Go.Shelf Plain
attribute [local go_sem] Oper.semAt_some
set_option linter.unusedVariables false
set_option maxRecDepth 100000

theorem min_nat (x b q : Nat) (h : q ≤ b) : ∃ L : Nat, min (x : Int) ((b : Int) - q) = (L : Int) ∧ L ≤ x ∧ q + L ≤ b ∧ (L = x ∨ L = b - q) := by
  by_cases h1 : (x : Int) ≤ (b : Int) - q
  · exact ⟨x, by rw [Int.min_def, if_pos h1], by omega, by omega, .inl rfl⟩
  · exact ⟨b - q, by rw [Int.min_def, if_neg h1]; omega, by omega, by omega, .inr rfl⟩

end Go.Proofs.YtibmgpinfdcaoaaGreatDoor

namespace Go.Proofs.YtibmgpinfdcaoaaGreatDoor
open Go.RowKit Go.Shelf Plain
set_option linter.unusedVariables false
end Go.Proofs.YtibmgpinfdcaoaaGreatDoor
