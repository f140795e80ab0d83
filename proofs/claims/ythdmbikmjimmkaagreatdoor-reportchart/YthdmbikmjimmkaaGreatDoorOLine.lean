/-
  lineUp, up to the sort.
-/
import Derived.Test.YthdmbikmjimmkaaGreatDoorONext
import Derived.Laws.OwnMore
namespace Go.Proofs.YthdmbikmjimmkaaGreatDoor
open Go.RowKit Plain
set_option linter.unusedVariables false
set_option maxRecDepth 100000

theorem cells4 {w : World} {g : Nat} {u v x y : Value} {t : TypeId} (h : w.heap[g]? = some (.cells #[u, v, x, y] t)) : w.cell? ⟨g, 0, none⟩ = some u ∧ w.cell? ⟨g, 1, none⟩ = some v ∧ w.cell? ⟨g, 2, none⟩ = some x ∧ w.cell? ⟨g, 3, none⟩ = some y := by
  refine ⟨?_, ?_, ?_, ?_⟩ <;> simp [World.cell?, h]
/-- a player -/
structure Plr where
  s : Srv
  t : Int
  r : Int
  n : Int
instance : Inhabited Plr := ⟨⟨⟨0, 0, 0, 0⟩, 0, 0, 0⟩⟩
/-- a player's cells -/
def pc (x : Plr) : List Value := [.int .i64 x.s.p, .int .i64 x.s.b, .int .i64 x.s.o, .int .i64 x.s.q, .int .i64 x.t, .int .i64 x.r, .int .i64 x.n]
def pcL (xs : List Plr) : List Value := xs.flatMap pc
theorem pc_len (x : Plr) : (pc x).length = 7 := rfl
theorem pcL_len (xs : List Plr) : (pcL xs).length = xs.length * 7 := by
  induction xs with
  | nil => rfl
  | cons x xs ih => simp only [pcL, List.flatMap_cons, List.length_append, pc_len, List.length_cons] at ih ⊢; omega
theorem pcL_at (xs : List Plr) (j i : Nat) (x : Plr) (h : xs[j]? = some x) (hi : i < 7) : (pcL xs)[j * 7 + i]? = (pc x)[i]? := by
  induction xs generalizing j with
  | nil => simp at h
  | cons y ys ih =>
    cases j with
    | zero =>
      simp at h; subst h
      simp only [pcL, List.flatMap_cons, Nat.zero_mul, Nat.zero_add]
      rw [List.getElem?_append_left (by rw [pc_len]; exact hi)]
    | succ j =>
      simp at h
      have := ih j h
      simp only [pcL, List.flatMap_cons]
      rw [List.getElem?_append_right (by rw [pc_len]; omega), pc_len]
      have e : (j + 1) * 7 + i - 7 = j * 7 + i := by omega
      rw [e]
      exact this

/-- the players ahead of all releases -/
def pl0 (xs : List Srv) (j : Nat) : Plr := ⟨xs.getD j ⟨0, 0, 0, 0⟩, (j : Int) + 1, 0, (xs.getD j ⟨0, 0, 0, 0⟩).o⟩
structure Fill (w : World) (g n k : Nat) (xs : List Srv) (cur : Array Value) : Prop where
  blk : w.heap[g]? = some (.cells cur 142 (0, 0))
  size : cur.size = n * 7
  at' : ∀ j, j < k → ∀ i, i < 7 → cur[j * 7 + i]? = (pc (pl0 xs j))[i]?

theorem Fill.cell {w : World} {g n k : Nat} {xs : List Srv} {cur : Array Value} (h : Fill w g n k xs cur) {i : Nat} (hi : i < n * 7) : ∃ v, w.cell? ⟨g, i, none⟩ = some v ∧ w.frozen? ⟨g, i, none⟩ = false := by
  refine ⟨cur[i]'(by rw [h.size]; exact hi), ?_, ?_⟩
  · simp [World.cell?, h.blk, h.size, hi]
  · simp [World.frozen?, h.blk]

def set7 (cur : Array Value) (o : Nat) (x : Plr) : Array Value :=
  ((((((cur.setIfInBounds o (.int .i64 x.s.p)).setIfInBounds (o + 1) (.int .i64 x.s.b)).setIfInBounds (o + 2) (.int .i64 x.s.o)).setIfInBounds (o + 3) (.int .i64 x.s.q)).setIfInBounds (o + 4) (.int .i64 x.t)).setIfInBounds (o + 5) (.int .i64 x.r)).setIfInBounds (o + 6) (.int .i64 x.n)
def put7 (w : World) (g o : Nat) (x : Plr) : World :=
  ((((((w.setCell ⟨g, o, none⟩ (.int .i64 x.s.p)).setCell ⟨g, o + 1, none⟩ (.int .i64 x.s.b)).setCell ⟨g, o + 2, none⟩ (.int .i64 x.s.o)).setCell ⟨g, o + 3, none⟩ (.int .i64 x.s.q)).setCell ⟨g, o + 4, none⟩ (.int .i64 x.t)).setCell ⟨g, o + 5, none⟩ (.int .i64 x.r)).setCell ⟨g, o + 6, none⟩ (.int .i64 x.n)
theorem set1_blk {w : World} {g : Nat} {cur : Array Value} {t : TypeId} (o : Nat) (v : Value) (h : w.heap[g]? = some (.cells cur t (0, 0))) : (w.setCell ⟨g, o, none⟩ v).heap[g]? = some (.cells (cur.setIfInBounds o v) t (0, 0)) := by
  simp only [World.setCell, Array.getElem?_modify, if_pos, h]
  rfl
theorem put7_blk {w : World} {g o : Nat} {cur : Array Value} {t : TypeId} (x : Plr) (h : w.heap[g]? = some (.cells cur t (0, 0))) : (put7 w g o x).heap[g]? = some (.cells (set7 cur o x) t (0, 0)) := by
  exact set1_blk _ _ (set1_blk _ _ (set1_blk _ _ (set1_blk _ _ (set1_blk _ _ (set1_blk _ _ (set1_blk _ _ h))))))
theorem put7_kept {F : Nat → Prop} {w0 w : World} {g o : Nat} (x : Plr) (h : Kept F w0 w) (hg : F g ∨ w0.heap.size ≤ g) : Kept F w0 (put7 w g o x) :=
  ((((((h.setCell (p := ⟨g, o, none⟩) hg _).setCell (p := ⟨g, o + 1, none⟩) hg _).setCell (p := ⟨g, o + 2, none⟩) hg _).setCell (p := ⟨g, o + 3, none⟩) hg _).setCell (p := ⟨g, o + 4, none⟩) hg _).setCell (p := ⟨g, o + 5, none⟩) hg _).setCell (p := ⟨g, o + 6, none⟩) hg _
theorem set7_size (cur : Array Value) (o : Nat) (x : Plr) : (set7 cur o x).size = cur.size := by simp [set7]
theorem set7_other (cur : Array Value) (o i : Nat) (x : Plr) (h : i < o ∨ o + 7 ≤ i) : (set7 cur o x)[i]? = cur[i]? := by
  unfold set7
  repeat rw [Array.getElem?_setIfInBounds_ne (by omega)]
theorem set7_at (cur : Array Value) (o i : Nat) (x : Plr) (hi : i < 7) (hs : o + 7 ≤ cur.size) : (set7 cur o x)[o + i]? = (pc x)[i]? := by
  unfold set7
  match i, hi with
  | 0, _ => repeat rw [Array.getElem?_setIfInBounds_ne (by omega)]
            rw [Nat.add_zero, Array.getElem?_setIfInBounds_self_of_lt (by first | omega | (simp; omega))]; rfl
  | 1, _ => repeat rw [Array.getElem?_setIfInBounds_ne (by omega)]
            rw [Array.getElem?_setIfInBounds_self_of_lt (by first | omega | (simp; omega))]; rfl
  | 2, _ => repeat rw [Array.getElem?_setIfInBounds_ne (by omega)]
            rw [Array.getElem?_setIfInBounds_self_of_lt (by first | omega | (simp; omega))]; rfl
  | 3, _ => repeat rw [Array.getElem?_setIfInBounds_ne (by omega)]
            rw [Array.getElem?_setIfInBounds_self_of_lt (by first | omega | (simp; omega))]; rfl
  | 4, _ => repeat rw [Array.getElem?_setIfInBounds_ne (by omega)]
            rw [Array.getElem?_setIfInBounds_self_of_lt (by first | omega | (simp; omega))]; rfl
  | 5, _ => repeat rw [Array.getElem?_setIfInBounds_ne (by omega)]
            rw [Array.getElem?_setIfInBounds_self_of_lt (by first | omega | (simp; omega))]; rfl
  | 6, _ => rw [Array.getElem?_setIfInBounds_self_of_lt (by first | omega | (simp; omega))]; rfl
theorem Fill.next {w : World} {g n k : Nat} {xs : List Srv} {cur : Array Value} (h : Fill w g n k xs cur) (hk : k < n) : Fill (put7 w g (k * 7) (pl0 xs k)) g n (k + 1) xs (set7 cur (k * 7) (pl0 xs k)) := by
  refine ⟨put7_blk _ h.blk, by rw [set7_size]; exact h.size, fun j hj i hi => ?_⟩
  by_cases e : j = k
  · subst e
    exact set7_at _ _ _ _ hi (by rw [h.size]; omega)
  · rw [set7_other _ _ _ _ (by omega)]
    exact h.at' j (by omega) i hi
theorem Fill.owns {w : World} {g n : Nat} {xs : List Srv} {cur : Array Value} (h : Fill w g n n xs cur) (hn : n ≤ 32) : w.ownsRow 0 142 7 (.slice (some ⟨g, 0, none⟩) n n) n (pcL ((List.range n).map (pl0 xs))) := by
  refine ⟨by rw [pcL_len]; simp, .inr ⟨g, n, cur, rfl, Nat.zero_le _, h.blk, Nat.le_refl _, by unfold maxLen; omega, h.size, ?_⟩⟩
  apply List.ext_getElem?
  intro i
  rw [List.getElem?_take]
  by_cases hi : i < n * 7
  · rw [if_pos hi]
    have e : i = (i / 7) * 7 + i % 7 := by omega
    have hj : i / 7 < n := by omega
    rw [e, pcL_at _ (i / 7) (i % 7) (pl0 xs (i / 7)) (by rw [List.getElem?_map, List.getElem?_range hj]; rfl) (by omega)]
    rw [Array.getElem?_toList]
    exact h.at' _ hj _ (by omega)
  · rw [if_neg hi, List.getElem?_eq_none (by rw [pcL_len]; simp; omega)]

theorem Tryz.infoPl : (Tryz.prog.info? 142).map (fun i => (i.zero, i.size, i.bytes)) = some (some (.agg #[.int .i64 0, .int .i64 0, .int .i64 0, .int .i64 0, .int .i64 0, .int .i64 0, .int .i64 0]), 7, 56) := by kernel_rfl

set_option maxHeartbeats 2000000 in
theorem line_any (F : Nat → Prop) (a : Option Addr) (n c : Nat) (xs : List Srv) (w : World) (h : Sv w F a n c xs) (hn : n ≤ 32)
    (R : Nat → World → Prop) (hs : ∀ w' g cur, Fill w' g n n xs cur → Kept No w w' → w.heap.size ≤ g → Calls Tryz.prog 77 #[.slice (some ⟨g, 0, none⟩) n n, .func (.func 78) #[] #[]] w' fun e w'' => (∃ v, e = .returned v) ∧ R g w'') :
    Calls Tryz.prog 57 #[.slice a n c] w fun e w' => ∃ g, e = .returned (.slice (some ⟨g, 0, none⟩) n n) ∧ R g w' := by
  have H : Hid (Sv w F a n c xs) := h
  have HS : Hid (∀ w' g cur, Fill w' g n n xs cur → Kept No w w' → w.heap.size ≤ g → Calls Tryz.prog 77 #[.slice (some ⟨g, 0, none⟩) n n, .func (.func 78) #[] #[]] w' fun e w'' => (∃ v, e = .returned v) ∧ R g w'') := hs
  clear h hs
  obtain ⟨i0, hi, hz0, hz1, hz2⟩ := info_parts Tryz.infoPl
  obtain ⟨w1, hm, hown, hgrow⟩ := run_makeSlice_full w 0 110 142 i0 _ 7 Tryz.underlying110 hi hz0 hz1 .i64 .i64 n (by omega) (by rw [hz2]; omega) (by unfold maxLen; omega) (Nat.zero_le _)
  have HF : Hid (∃ cur, Fill w1 w.heap.size n 0 xs cur) := by
    obtain ⟨_, ⟨h1, _⟩ | ⟨g, cap, cur, hv, _, hb, _, _, hsz, _⟩⟩ := hown
    · cases h1
    · injection hv with e1 _ e3
      injection e1 with e1
      injection e1 with e1 _ _
      subst e1 e3
      exact ⟨cur, hb, hsz, fun j hj => by omega⟩
  have HK : Hid (Kept No w w1) := (Kept.refl No w).grown hgrow (fun k e => by cases e)
  clear hown hgrow hi hz0 hz1 hz2
  go_enter Tryz.func57, Tryz.ntmps57
  go_wp2
  clear hm
  go_loopw [11] (fun x wr => ∃ (k : Nat) (cur : Array Value), k ≤ n ∧ x = .int .i64 k ∧ Fill wr w.heap.size n k xs cur ∧ Kept No w wr) (fun x _ => n - (intOf x).toNat)
  case atStart =>
    obtain ⟨cur, hf⟩ := HF.out
    exact ⟨0, cur, by omega, rfl, hf, HK.out⟩
  case round =>
    clear HF HK
    obtain ⟨k, cur, hk, rfl, hf, hkr⟩ := hrel
    by_cases hlt : k < n
    · have hx : xs[k]? = some (xs.getD k ⟨0, 0, 0, 0⟩) := by rw [List.getD, List.getElem?_eq_getElem (by rw [H.out.len]; exact hlt)]; rfl
      obtain ⟨hok, b, o, rfl, hb, c0, c1, c2, c3⟩ := (H.out.keep hkr).at' k _ hx
      have HPL : Hid (∀ y, y = xs.getD k ⟨0, 0, 0, 0⟩ → pl0 xs k = ⟨y, (k : Int) + 1, 0, y.o⟩) := fun y hy => by rw [hy]; rfl
      obtain ⟨y, hy⟩ : ∃ y, y = xs.getD k ⟨0, 0, 0, 0⟩ := ⟨_, rfl⟩
      have hpl := HPL.out y hy
      rw [← hy] at c0 c1 c2 c3
      clear hy hx hok HPL
      obtain ⟨yp, yb, yo, yq⟩ := y
      simp only at c0 c1 c2 c3 hpl
      have hne : w.heap.size ≠ wr.heap.size := by have := heap_lt hf.blk; omega
      have hf1 : Fill (wr.alloc (.cells #[.int .i64 yp, .int .i64 yb, .int .i64 yo, .int .i64 yq] 47)) w.heap.size n k xs cur := ⟨(Below.heap_alloc _ _ _ (heap_lt hf.blk)).trans hf.blk, hf.size, hf.at'⟩
      have hk1 : Kept No w (wr.alloc (.cells #[.int .i64 yp, .int .i64 yb, .int .i64 yo, .int .i64 yq] 47)) := hkr.alloc _
      go_upto_region 5 with fail
      have d0 : (wr.alloc (.cells #[.int .i64 yp, .int .i64 yb, .int .i64 yo, .int .i64 yq] 47)).heap[wr.heap.size]? = some (.cells #[.int .i64 yp, .int .i64 yb, .int .i64 yo, .int .i64 yq] 47) := World.alloc_heap_new _ _
      obtain ⟨g0, g1, g2, g3⟩ := cells4 d0
      have F := fun i (hi : i < 7) => hf1.cell (i := k * 7 + i) (by omega)
      obtain ⟨v0, p0, f0⟩ := F 0 (by omega)
      obtain ⟨v1, p1, f1⟩ := F 1 (by omega)
      obtain ⟨v2, p2, f2⟩ := F 2 (by omega)
      obtain ⟨v3, p3, f3⟩ := F 3 (by omega)
      obtain ⟨v4, p4, f4⟩ := F 4 (by omega)
      obtain ⟨v5, p5, f5⟩ := F 5 (by omega)
      obtain ⟨v6, p6, f6⟩ := F 6 (by omega)
      rw [Nat.add_zero] at p0 f0
      have hnx := hf1.next hlt
      rw [hpl] at hnx
      have HN : Hid (Fill (put7 (wr.alloc (.cells #[.int .i64 yp, .int .i64 yb, .int .i64 yo, .int .i64 yq] 47)) w.heap.size (k * 7) ⟨⟨yp, yb, yo, yq⟩, (k : Int) + 1, 0, yo⟩) w.heap.size n (k + 1) xs (set7 cur (k * 7) ⟨⟨yp, yb, yo, yq⟩, (k : Int) + 1, 0, yo⟩)) := hnx
      have HKN : Hid (Kept No w (put7 (wr.alloc (.cells #[.int .i64 yp, .int .i64 yb, .int .i64 yo, .int .i64 yq] 47)) w.heap.size (k * 7) ⟨⟨yp, yb, yo, yq⟩, (k : Int) + 1, 0, yo⟩)) := put7_kept _ hk1 (.inr (Nat.le_refl _))
      clear d0 F hnx hf hf1 hkr hk1 hpl c0 c1 c2 c3
      generalize wr.alloc (.cells #[.int .i64 yp, .int .i64 yb, .int .i64 yo, .int .i64 yq] 47) = w2 at *
      go_wp2
      go_roundw
      case rel => exact ⟨k + 1, _, by omega, by go_num, HN.out, HKN.out⟩
      case measure => simp [intOf]; omega
    · have hke : k = n := by omega
      subst hke
      have hc := HS.out wr w.heap.size cur hf hkr (Nat.le_refl _)
      clear hf hkr
      go_wp2_with (go_at_call 77; refine hc.mono ?_; rintro e w2 ⟨⟨v, rfl⟩, hr⟩; have HR : Hid (R w.heap.size w2) := hr; clear hr)
      go_ret
      exact ⟨_, rfl, HR.out⟩
end Go.Proofs.YthdmbikmjimmkaaGreatDoor
