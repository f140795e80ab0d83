/-
  One text: OLine, OSort.
-/
import Derived.Test.YtibmgpinfdcaoaaGreatDoorHONext
import Derived.Laws.OwnMore
import Derived.Shelf.SlSortCmp.WholeK
import Derived.Shelf.SlSortCmp.InsertionK
import Derived.Shelf.Lay
import Derived.Ground.SlsfProg
import Derived.Ground.NamesProg
import Derived.Shelf.Small.Bits
namespace Go.Proofs.YtibmgpinfdcaoaaGreatDoor
open Go.RowKit Plain
set_option linter.unusedVariables false
set_option maxRecDepth 100000

theorem cells4 {w : World} {g : Nat} {u v x y : Value} {t : TypeId} (h : w.heap[g]? = some (.cells #[u, v, x, y] t)) : w.cell? ⟨g, 0, none⟩ = some u ∧ w.cell? ⟨g, 1, none⟩ = some v ∧ w.cell? ⟨g, 2, none⟩ = some x ∧ w.cell? ⟨g, 3, none⟩ = some y := by
  refine ⟨?_, ?_, ?_, ?_⟩ <;> simp [World.cell?, h]
/-- a player -/
structure Plr where
  s : Srv
  t : Int
  r : Int
  n : Int
instance : Inhabited Plr := ⟨⟨⟨0, 0, 0, 0⟩, 0, 0, 0⟩⟩
/-- a player's cells -/
def pc (x : Plr) : List Value := [.int .i64 x.s.p, .int .i64 x.s.b, .int .i64 x.s.o, .int .i64 x.s.q, .int .i64 x.t, .int .i64 x.r, .int .i64 x.n]
def pcL (xs : List Plr) : List Value := xs.flatMap pc
theorem pc_len (x : Plr) : (pc x).length = 7 := rfl
theorem pcL_len (xs : List Plr) : (pcL xs).length = xs.length * 7 := by
  induction xs with
  | nil => rfl
  | cons x xs ih => simp only [pcL, List.flatMap_cons, List.length_append, pc_len, List.length_cons] at ih ⊢; omega
theorem pcL_at (xs : List Plr) (j i : Nat) (x : Plr) (h : xs[j]? = some x) (hi : i < 7) : (pcL xs)[j * 7 + i]? = (pc x)[i]? := by
  induction xs generalizing j with
  | nil => simp at h
  | cons y ys ih =>
    cases j with
    | zero =>
      simp at h; subst h
      simp only [pcL, List.flatMap_cons, Nat.zero_mul, Nat.zero_add]
      rw [List.getElem?_append_left (by rw [pc_len]; exact hi)]
    | succ j =>
      simp at h
      have := ih j h
      simp only [pcL, List.flatMap_cons]
      rw [List.getElem?_append_right (by rw [pc_len]; omega), pc_len]
      have e : (j + 1) * 7 + i - 7 = j * 7 + i := by omega
      rw [e]
      exact this

/-- the players ahead of all releases -/
def pl0 (xs : List Srv) (j : Nat) : Plr := ⟨xs.getD j ⟨0, 0, 0, 0⟩, (j : Int) + 1, 0, (xs.getD j ⟨0, 0, 0, 0⟩).o⟩
structure Fill (w : World) (g n k : Nat) (xs : List Srv) (cur : Array Value) : Prop where
  blk : w.heap[g]? = some (.cells cur 126 (0, 0))
  size : cur.size = n * 7
  at' : ∀ j, j < k → ∀ i, i < 7 → cur[j * 7 + i]? = (pc (pl0 xs j))[i]?

theorem Fill.cell {w : World} {g n k : Nat} {xs : List Srv} {cur : Array Value} (h : Fill w g n k xs cur) {i : Nat} (hi : i < n * 7) : ∃ v, w.cell? ⟨g, i, none⟩ = some v ∧ w.frozen? ⟨g, i, none⟩ = false := by
  refine ⟨cur[i]'(by rw [h.size]; exact hi), ?_, ?_⟩
  · simp [World.cell?, h.blk, h.size, hi]
  · simp [World.frozen?, h.blk]

def set7 (cur : Array Value) (o : Nat) (x : Plr) : Array Value :=
  ((((((cur.setIfInBounds o (.int .i64 x.s.p)).setIfInBounds (o + 1) (.int .i64 x.s.b)).setIfInBounds (o + 2) (.int .i64 x.s.o)).setIfInBounds (o + 3) (.int .i64 x.s.q)).setIfInBounds (o + 4) (.int .i64 x.t)).setIfInBounds (o + 5) (.int .i64 x.r)).setIfInBounds (o + 6) (.int .i64 x.n)
def put7 (w : World) (g o : Nat) (x : Plr) : World :=
  ((((((w.setCell ⟨g, o, none⟩ (.int .i64 x.s.p)).setCell ⟨g, o + 1, none⟩ (.int .i64 x.s.b)).setCell ⟨g, o + 2, none⟩ (.int .i64 x.s.o)).setCell ⟨g, o + 3, none⟩ (.int .i64 x.s.q)).setCell ⟨g, o + 4, none⟩ (.int .i64 x.t)).setCell ⟨g, o + 5, none⟩ (.int .i64 x.r)).setCell ⟨g, o + 6, none⟩ (.int .i64 x.n)
theorem set1_blk {w : World} {g : Nat} {cur : Array Value} {t : TypeId} (o : Nat) (v : Value) (h : w.heap[g]? = some (.cells cur t (0, 0))) : (w.setCell ⟨g, o, none⟩ v).heap[g]? = some (.cells (cur.setIfInBounds o v) t (0, 0)) := by
  simp only [World.setCell, Array.getElem?_modify, if_pos, h]
  rfl
theorem put7_blk {w : World} {g o : Nat} {cur : Array Value} {t : TypeId} (x : Plr) (h : w.heap[g]? = some (.cells cur t (0, 0))) : (put7 w g o x).heap[g]? = some (.cells (set7 cur o x) t (0, 0)) := by
  exact set1_blk _ _ (set1_blk _ _ (set1_blk _ _ (set1_blk _ _ (set1_blk _ _ (set1_blk _ _ (set1_blk _ _ h))))))
theorem put7_kept {F : Nat → Prop} {w0 w : World} {g o : Nat} (x : Plr) (h : Kept F w0 w) (hg : F g ∨ w0.heap.size ≤ g) : Kept F w0 (put7 w g o x) :=
  ((((((h.setCell (p := ⟨g, o, none⟩) hg _).setCell (p := ⟨g, o + 1, none⟩) hg _).setCell (p := ⟨g, o + 2, none⟩) hg _).setCell (p := ⟨g, o + 3, none⟩) hg _).setCell (p := ⟨g, o + 4, none⟩) hg _).setCell (p := ⟨g, o + 5, none⟩) hg _).setCell (p := ⟨g, o + 6, none⟩) hg _
theorem set7_size (cur : Array Value) (o : Nat) (x : Plr) : (set7 cur o x).size = cur.size := by simp [set7]
theorem set7_other (cur : Array Value) (o i : Nat) (x : Plr) (h : i < o ∨ o + 7 ≤ i) : (set7 cur o x)[i]? = cur[i]? := by
  unfold set7
  repeat rw [Array.getElem?_setIfInBounds_ne (by omega)]
theorem set7_at (cur : Array Value) (o i : Nat) (x : Plr) (hi : i < 7) (hs : o + 7 ≤ cur.size) : (set7 cur o x)[o + i]? = (pc x)[i]? := by
  unfold set7
  match i, hi with
  | 0, _ => repeat rw [Array.getElem?_setIfInBounds_ne (by omega)]
            rw [Nat.add_zero, Array.getElem?_setIfInBounds_self_of_lt (by first | omega | (simp; omega))]; rfl
  | 1, _ => repeat rw [Array.getElem?_setIfInBounds_ne (by omega)]
            rw [Array.getElem?_setIfInBounds_self_of_lt (by first | omega | (simp; omega))]; rfl
  | 2, _ => repeat rw [Array.getElem?_setIfInBounds_ne (by omega)]
            rw [Array.getElem?_setIfInBounds_self_of_lt (by first | omega | (simp; omega))]; rfl
  | 3, _ => repeat rw [Array.getElem?_setIfInBounds_ne (by omega)]
            rw [Array.getElem?_setIfInBounds_self_of_lt (by first | omega | (simp; omega))]; rfl
  | 4, _ => repeat rw [Array.getElem?_setIfInBounds_ne (by omega)]
            rw [Array.getElem?_setIfInBounds_self_of_lt (by first | omega | (simp; omega))]; rfl
  | 5, _ => repeat rw [Array.getElem?_setIfInBounds_ne (by omega)]
            rw [Array.getElem?_setIfInBounds_self_of_lt (by first | omega | (simp; omega))]; rfl
  | 6, _ => rw [Array.getElem?_setIfInBounds_self_of_lt (by first | omega | (simp; omega))]; rfl
theorem Fill.next {w : World} {g n k : Nat} {xs : List Srv} {cur : Array Value} (h : Fill w g n k xs cur) (hk : k < n) : Fill (put7 w g (k * 7) (pl0 xs k)) g n (k + 1) xs (set7 cur (k * 7) (pl0 xs k)) := by
  refine ⟨put7_blk _ h.blk, by rw [set7_size]; exact h.size, fun j hj i hi => ?_⟩
  by_cases e : j = k
  · subst e
    exact set7_at _ _ _ _ hi (by rw [h.size]; omega)
  · rw [set7_other _ _ _ _ (by omega)]
    exact h.at' j (by omega) i hi
theorem Fill.owns {w : World} {g n : Nat} {xs : List Srv} {cur : Array Value} (h : Fill w g n n xs cur) (hn : n ≤ 32) : w.ownsRow 0 126 7 (.slice (some ⟨g, 0, none⟩) n n) n (pcL ((List.range n).map (pl0 xs))) := by
  refine ⟨by rw [pcL_len]; simp, .inr ⟨g, n, cur, rfl, Nat.zero_le _, h.blk, Nat.le_refl _, by unfold maxLen; omega, h.size, ?_⟩⟩
  apply List.ext_getElem?
  intro i
  rw [List.getElem?_take]
  by_cases hi : i < n * 7
  · rw [if_pos hi]
    have e : i = (i / 7) * 7 + i % 7 := by omega
    have hj : i / 7 < n := by omega
    rw [e, pcL_at _ (i / 7) (i % 7) (pl0 xs (i / 7)) (by rw [List.getElem?_map, List.getElem?_range hj]; rfl) (by omega)]
    rw [Array.getElem?_toList]
    exact h.at' _ hj _ (by omega)
  · rw [if_neg hi, List.getElem?_eq_none (by rw [pcL_len]; simp; omega)]

theorem Tryz.infoPl : (Tryz.prog.info? 126).map (fun i => (i.zero, i.size, i.bytes)) = some (some (.agg #[.int .i64 0, .int .i64 0, .int .i64 0, .int .i64 0, .int .i64 0, .int .i64 0, .int .i64 0]), 7, 56) := by kernel_rfl

set_option maxHeartbeats 2000000 in
theorem line_any (F : Nat → Prop) (a : Option Addr) (n c : Nat) (xs : List Srv) (w : World) (h : Sv w F a n c xs) (hn : n ≤ 32)
    (R : Nat → World → Prop) (hs : ∀ w' g cur, Fill w' g n n xs cur → Kept No w w' → w.heap.size ≤ g → Calls Tryz.prog 78 #[.slice (some ⟨g, 0, none⟩) n n, .func (.func 79) #[] #[]] w' fun e w'' => (∃ v, e = .returned v) ∧ R g w'') :
    Calls Tryz.prog 58 #[.slice a n c] w fun e w' => ∃ g, e = .returned (.slice (some ⟨g, 0, none⟩) n n) ∧ R g w' := by
  have H : Hid (Sv w F a n c xs) := h
  have HS : Hid (∀ w' g cur, Fill w' g n n xs cur → Kept No w w' → w.heap.size ≤ g → Calls Tryz.prog 78 #[.slice (some ⟨g, 0, none⟩) n n, .func (.func 79) #[] #[]] w' fun e w'' => (∃ v, e = .returned v) ∧ R g w'') := hs
  clear h hs
  obtain ⟨i0, hi, hz0, hz1, hz2⟩ := info_parts Tryz.infoPl
  obtain ⟨w1, hm, hown, hgrow⟩ := run_makeSlice_full w 0 93 126 i0 _ 7 Tryz.underlying93 hi hz0 hz1 .i64 .i64 n (by omega) (by rw [hz2]; omega) (by unfold maxLen; omega) (Nat.zero_le _)
  have HF : Hid (∃ cur, Fill w1 w.heap.size n 0 xs cur) := by
    obtain ⟨_, ⟨h1, _⟩ | ⟨g, cap, cur, hv, _, hb, _, _, hsz, _⟩⟩ := hown
    · cases h1
    · injection hv with e1 _ e3
      injection e1 with e1
      injection e1 with e1 _ _
      subst e1 e3
      exact ⟨cur, hb, hsz, fun j hj => by omega⟩
  have HK : Hid (Kept No w w1) := (Kept.refl No w).grown hgrow (fun k e => by cases e)
  clear hown hgrow hi hz0 hz1 hz2
  go_enter Tryz.func58, Tryz.ntmps58
  go_wp2
  clear hm
  go_loopw [11] (fun x wr => ∃ (k : Nat) (cur : Array Value), k ≤ n ∧ x = .int .i64 k ∧ Fill wr w.heap.size n k xs cur ∧ Kept No w wr) (fun x _ => n - (intOf x).toNat)
  case atStart =>
    obtain ⟨cur, hf⟩ := HF.out
    exact ⟨0, cur, by omega, rfl, hf, HK.out⟩
  case round =>
    clear HF HK
    obtain ⟨k, cur, hk, rfl, hf, hkr⟩ := hrel
    by_cases hlt : k < n
    · have hx : xs[k]? = some (xs.getD k ⟨0, 0, 0, 0⟩) := by rw [List.getD, List.getElem?_eq_getElem (by rw [H.out.len]; exact hlt)]; rfl
      obtain ⟨hok, b, o, rfl, hb, c0, c1, c2, c3⟩ := (H.out.keep hkr).at' k _ hx
      have HPL : Hid (∀ y, y = xs.getD k ⟨0, 0, 0, 0⟩ → pl0 xs k = ⟨y, (k : Int) + 1, 0, y.o⟩) := fun y hy => by rw [hy]; rfl
      obtain ⟨y, hy⟩ : ∃ y, y = xs.getD k ⟨0, 0, 0, 0⟩ := ⟨_, rfl⟩
      have hpl := HPL.out y hy
      rw [← hy] at c0 c1 c2 c3
      clear hy hx hok HPL
      obtain ⟨yp, yb, yo, yq⟩ := y
      simp only at c0 c1 c2 c3 hpl
      have hne : w.heap.size ≠ wr.heap.size := by have := heap_lt hf.blk; omega
      have hf1 : Fill (wr.alloc (.cells #[.int .i64 yp, .int .i64 yb, .int .i64 yo, .int .i64 yq] 40)) w.heap.size n k xs cur := ⟨(Below.heap_alloc _ _ _ (heap_lt hf.blk)).trans hf.blk, hf.size, hf.at'⟩
      have hk1 : Kept No w (wr.alloc (.cells #[.int .i64 yp, .int .i64 yb, .int .i64 yo, .int .i64 yq] 40)) := hkr.alloc _
      go_upto_region 5 with fail
      have d0 : (wr.alloc (.cells #[.int .i64 yp, .int .i64 yb, .int .i64 yo, .int .i64 yq] 40)).heap[wr.heap.size]? = some (.cells #[.int .i64 yp, .int .i64 yb, .int .i64 yo, .int .i64 yq] 40) := World.alloc_heap_new _ _
      obtain ⟨g0, g1, g2, g3⟩ := cells4 d0
      have F := fun i (hi : i < 7) => hf1.cell (i := k * 7 + i) (by omega)
      obtain ⟨v0, p0, f0⟩ := F 0 (by omega)
      obtain ⟨v1, p1, f1⟩ := F 1 (by omega)
      obtain ⟨v2, p2, f2⟩ := F 2 (by omega)
      obtain ⟨v3, p3, f3⟩ := F 3 (by omega)
      obtain ⟨v4, p4, f4⟩ := F 4 (by omega)
      obtain ⟨v5, p5, f5⟩ := F 5 (by omega)
      obtain ⟨v6, p6, f6⟩ := F 6 (by omega)
      rw [Nat.add_zero] at p0 f0
      have hnx := hf1.next hlt
      rw [hpl] at hnx
      have HN : Hid (Fill (put7 (wr.alloc (.cells #[.int .i64 yp, .int .i64 yb, .int .i64 yo, .int .i64 yq] 40)) w.heap.size (k * 7) ⟨⟨yp, yb, yo, yq⟩, (k : Int) + 1, 0, yo⟩) w.heap.size n (k + 1) xs (set7 cur (k * 7) ⟨⟨yp, yb, yo, yq⟩, (k : Int) + 1, 0, yo⟩)) := hnx
      have HKN : Hid (Kept No w (put7 (wr.alloc (.cells #[.int .i64 yp, .int .i64 yb, .int .i64 yo, .int .i64 yq] 40)) w.heap.size (k * 7) ⟨⟨yp, yb, yo, yq⟩, (k : Int) + 1, 0, yo⟩)) := put7_kept _ hk1 (.inr (Nat.le_refl _))
      clear d0 F hnx hf hf1 hkr hk1 hpl c0 c1 c2 c3
      generalize wr.alloc (.cells #[.int .i64 yp, .int .i64 yb, .int .i64 yo, .int .i64 yq] 40) = w2 at *
      go_wp2
      go_roundw
      case rel => exact ⟨k + 1, _, by omega, by go_num, HN.out, HKN.out⟩
      case measure => simp [intOf]; omega
    · have hke : k = n := by omega
      subst hke
      have hc := HS.out wr w.heap.size cur hf hkr (Nat.le_refl _)
      clear hf hkr
      go_wp2_with (go_at_call 78; refine hc.mono ?_; rintro e w2 ⟨⟨v, rfl⟩, hr⟩; have HR : Hid (R w.heap.size w2) := hr; clear hr)
      go_ret
      exact ⟨_, rfl, HR.out⟩
end Go.Proofs.YtibmgpinfdcaoaaGreatDoor

namespace Go.Proofs.YtibmgpinfdcaoaaGreatDoor
open Go.Shelf Go.RowKit Go.Lib Go.Sort
set_option linter.unusedVariables false
set_option maxRecDepth 100000

shelf_lay_g SlLaysF0.n14 Slsf 14 at Tryz 96 as Tryz.pdqF
shelf_lay Lays.n125 Nm 125 at Tryz as Tryz.bitsLen

theorem flat_pcL (d : Array Plr) : Sort.flatK pc 7 d = (pcL d.toList).toArray := by
  refine Sort.ext_get! (by rw [Sort.size_flatK]; simp [pcL_len]) (fun t ht => ?_)
  rw [Sort.size_flatK] at ht
  rw [Sort.get_flatK _ _ _ _ ht]
  have hd : t / 7 < d.size := by omega
  have hx : d.toList[t / 7]? = some d[t / 7]! := by
    rw [Array.getElem?_toList, getElem!_pos d (t / 7) hd, Array.getElem?_eq_getElem hd]
  have h2 := pcL_at d.toList (t / 7) (t % 7) _ hx (by omega)
  rw [show t / 7 * 7 + t % 7 = t by omega] at h2
  have e1 : (pcL d.toList).toArray[t]! = ((pcL d.toList)[t]?).getD default := by rw [List.getElem!_toArray, List.getElem!_eq_getElem?_getD]
  rw [e1, h2]
  simp
theorem holds_own {w : World} {B g m cap : Nat} {d : Array Plr} (h : w.ownsRow B 126 7 (.slice (some ⟨g, 0, none⟩) m cap) m (pcL d.toList)) : Sort.HoldsK pc 7 w g 0 d := by
  unfold Sort.HoldsK
  rw [flat_pcL]
  intro j hj
  have hc := h.cells (g := g) rfl j _ (by
    show (pcL d.toList)[j]? = some ((pcL d.toList).toArray[j]!)
    rw [getElem!_pos _ j hj]
    simp only [List.size_toArray] at hj
    rw [List.getElem?_eq_getElem hj]
    rfl)
  rw [add_none] at hc
  refine ⟨hc, ?_⟩
  obtain ⟨_, ⟨h1, _⟩ | ⟨g', cap', cur, hv, hb, hg, _⟩⟩ := h
  · cases h1
  · injection hv with e1 _ _
    injection e1 with e1
    injection e1 with e1 _ _
    subst e1
    simp [World.frozen?, hg]
theorem sort_kept (w : World) (g n : Nat) (d : Array Plr) (os : Array Obj) : Kept (fun j => j = g) w (sortWorldK pc 7 w g 0 n d os) := by
  refine ⟨rfl, rfl, rfl, ?_, fun j hj hn => ?_⟩
  · simp [sortWorldK, Sort.grow, Sort.putRowK, Sort.ahead]
  · simp only [sortWorldK, Sort.grow, Sort.putRowK, Sort.putRow, Sort.mapBlock, Sort.ahead]
    rw [Array.getElem?_append_left (by simpa using hj), Array.getElem?_modify, if_neg (fun e => hn e.symm)]
theorem sort_owns {w : World} {B g m cap n : Nat} {xs : List Plr} {d : Array Plr} {os : Array Obj} (h : w.ownsRow B 126 7 (.slice (some ⟨g, 0, none⟩) m cap) m (pcL xs)) (hd : d.size = m) : (sortWorldK pc 7 w g 0 n d os).ownsRow B 126 7 (.slice (some ⟨g, 0, none⟩) m cap) m (pcL d.toList) := by
  obtain ⟨hl, ⟨h1, _⟩ | ⟨g', cap', cur, hv, hb, hg, hn, hm, hs, ht⟩⟩ := h
  · cases h1
  · injection hv with e1 _ e3
    injection e1 with e1
    injection e1 with e1 _ _
    subst e1 e3
    have hlt := heap_lt hg
    refine ⟨by rw [pcL_len]; simp [hd], .inr ⟨g, cap, Sort.putCells id 0 (Sort.flatK pc 7 d) cur, rfl, hb, ?_, hn, hm, by simp [Sort.putCells, hs], ?_⟩⟩
    · simp only [sortWorldK, Sort.grow, Sort.putRowK, Sort.putRow, Sort.mapBlock, Sort.ahead]
      rw [Array.getElem?_append_left (by simpa using hlt), Array.getElem?_modify, if_pos rfl, hg]
      rfl
    · rw [flat_pcL]
      apply List.ext_getElem?
      intro j
      rw [List.getElem?_take]
      by_cases hj : j < m * 7
      · rw [if_pos hj]
        have hjc : j < cur.size := by rw [hs]; have := Nat.mul_le_mul_right 7 hn; omega
        have hjd : j < (pcL d.toList).length := by rw [pcL_len]; simp [hd]; exact hj
        rw [Array.getElem?_toList]
        unfold Sort.putCells
        rw [Array.getElem?_mapIdx, Array.getElem?_eq_getElem hjc]
        simp only [Option.map_some]
        rw [if_pos (by simp; exact hjd), List.getElem?_eq_getElem hjd]
        simp [hjd]
      · rw [if_neg hj, List.getElem?_eq_none (by rw [pcL_len]; simp [hd]; omega)]

/-- comparing priorities, the greater first -/
def cmpI (x y : Plr) : Int := if y.s.q < x.s.q then -1 else if y.s.q > x.s.q then 1 else 0
theorem compare_any (x y : Int) (w : World) : Calls Tryz.prog 42 #[.int .i64 x, .int .i64 y] w fun ex w' => ex = .returned (.int .i64 (if x < y then -1 else if x > y then 1 else 0)) ∧ w' = w := by
  by_cases h1 : x < y
  · rw [if_pos h1]
    go_enter Tryz.func42, Tryz.ntmps42
    go_wp2
    go_ret
    exact ⟨rfl, rfl⟩
  · rw [if_neg h1]
    by_cases h2 : x > y
    · rw [if_pos h2]
      go_enter Tryz.func42, Tryz.ntmps42
      go_wp2
      go_ret
      exact ⟨rfl, rfl⟩
    · rw [if_neg h2]
      go_enter Tryz.func42, Tryz.ntmps42
      go_wp2
      go_ret
      exact ⟨rfl, rfl⟩
theorem closure_any (x y : Plr) (W : World) : Calls Tryz.prog 79 #[.agg (pc x).toArray, .agg (pc y).toArray] W fun e w' => e = .returned (.int .i64 (cmpI x y)) ∧ ∃ q os', w' = Sort.grow (W.drewN q) os' := by
  have hcon := fun W' => compare_any y.s.q x.s.q W'
  unfold cmpI
  generalize (if y.s.q < x.s.q then (-1 : Int) else if y.s.q > x.s.q then 1 else 0) = r at hcon ⊢
  unfold pc
  go_enter Tryz.func79, Tryz.ntmps79
  go_wp2_with (go_at_call 42; refine (hcon _).mono ?_; rintro e w' ⟨rfl, rfl⟩)
  go_ret
  exact ⟨rfl, 0, _, by rw [Sort.alloc_eq_grow, Sort.alloc_eq_grow, Sort.grow_grow]; rfl⟩

theorem ltI (x y : Plr) : ltOf cmpI x y = decide (y.s.q < x.s.q) := by
  unfold ltOf cmpI
  by_cases h1 : y.s.q < x.s.q
  · simp [h1]
  · by_cases h2 : x.s.q < y.s.q <;> simp [h1, h2]
theorem swoI : SWO (ltOf cmpI) where
  irrefl x := by rw [ltI]; simp
  trans x y z h1 h2 := by rw [ltI] at *; simp at *; omega
  ntrans x y z h1 h2 := by rw [ltI] at *; simp at *; omega
theorem cmpLays (blk off size : Nat) (w : World) : CmpLays Tryz.prog 79 #[] pc 7 cmpI blk off size w :=
  fun _ _ _ _ x y => closure_any x y _

theorem owns_len7 {w : World} {g m cap : Nat} {xs : List Plr} (h : w.ownsRow 0 126 7 (.slice (some ⟨g, 0, none⟩) m cap) m (pcL xs)) : xs.length = m := by
  have := h.1
  rw [pcL_len] at this
  omega

set_option maxHeartbeats 1000000 in
theorem sort_any (xs : List Plr) (g m cap : Nat) (w : World) (h : w.ownsRow 0 126 7 (.slice (some ⟨g, 0, none⟩) m cap) m (pcL xs)) (hm : m ≤ 32) :
    Calls Tryz.prog 78 #[.slice (some ⟨g, 0, none⟩) m cap, .func (.func 79) #[] #[]] w fun e w' => (∃ v, e = .returned v) ∧ ∃ A : List Plr, A.Perm xs ∧ A.Pairwise (fun x y => y.s.q ≤ x.s.q) ∧ w'.ownsRow 0 126 7 (.slice (some ⟨g, 0, none⟩) m cap) m (pcL A) ∧ Kept (fun j => j = g) w w' := by
  have hl := owns_len7 h
  have hb := (h.lt g rfl).2
  have eg : ∀ args w, (callFunc 79 args).run Tryz.prog w = .ok (.enter 79 args) w := enters_of Tryz.func79 (by kernel_rfl) rfl
  have hx : xs.toArray.size = m := by simpa using hl
  have hH := holds_own (d := xs.toArray) h
  have hlim : Lib.bitLen xs.toArray.size < 4611686018427387904 := Nat.lt_of_le_of_lt (Lib.bitLen_le xs.toArray.size 62 (by omega) (by omega)) (by omega)
  have hcon := AnyQ.pdqsortCmpFunc_all Tryz.pdqF 7 Tryz.isAgg126 Tryz.sizeOf126 pc cmpI 79 #[] swoI g 0 cap xs.toArray w eg (cmpLays g 0 _ w) ⟨(fun _ => rfl), (fun x v hv => by simp [pc] at hv; rcases hv with rfl | rfl | rfl | rfl | rfl | rfl | rfl <;> rfl), hH, hb⟩ (xs.toArray.size + 1) 0 xs.toArray.size (Lib.bitLen xs.toArray.size) xs.toArray w (by omega) rfl (SWK.start hH) (Nat.zero_le _) (Nat.le_refl _) (by rw [hx]; omega) hlim (Or.inl rfl)
  change Calls Tryz.prog 96 _ _ _ at hcon
  have hlen := Any.bits_Len Tryz.bitsLen (xs.toArray.size : Int) w (by omega) (by omega)
  change Calls Tryz.prog 97 _ _ _ at hlen
  rw [Int.toNat_natCast] at hlen
  have hsrt := pdq_sorts (ltOf cmpI) swoI xs.toArray 0 xs.toArray.size (Lib.bitLen xs.toArray.size) true true (Nat.zero_le _) (Nat.le_refl _) (Or.inl rfl)
  rw [hx] at hcon hlen hsrt
  have wr : IntKind.u64.wrap (m : Int) = m := by simp [IntKind.wrap, IntKind.bits, IntKind.signed]; omega
  have HRES : Hid (∀ n os, ∃ A : List Plr, A.Perm xs ∧ A.Pairwise (fun x y => y.s.q ≤ x.s.q) ∧ (sortWorldK pc 7 w g 0 n (pdq (ltOf cmpI) xs.toArray 0 m (Lib.bitLen m) true true) os).ownsRow 0 126 7 (.slice (some ⟨g, 0, none⟩) m cap) m (pcL A) ∧ Kept (fun j => j = g) w (sortWorldK pc 7 w g 0 n (pdq (ltOf cmpI) xs.toArray 0 m (Lib.bitLen m) true true) os)) := by
    intro n os
    obtain ⟨hp, hs⟩ := hsrt
    generalize pdq (ltOf cmpI) xs.toArray 0 m (Lib.bitLen m) true true = d' at hp hs ⊢
    have hsz : d'.size = m := by rw [hp.1, hx]
    refine ⟨d'.toList, ?_, ?_, sort_owns h hsz, sort_kept w g n d' os⟩
    · have := hp.2.2
      rw [show d'.extract 0 m = d' by rw [← hsz]; simp, show xs.toArray.extract 0 m = xs.toArray by rw [← hx]; simp] at this
      simpa using this
    · rw [List.pairwise_iff_getElem]
      intro i j hi hj hij
      have hj2 : j < d'.size := by simpa using hj
      have hi2 : i < d'.size := by omega
      have := hs i j (Nat.zero_le _) hij (by omega)
      rw [ltI, getElem!_pos d' i hi2, getElem!_pos d' j hj2] at this
      have := of_decide_eq_false this
      rw [Array.getElem_toList, Array.getElem_toList]
      omega
  generalize Lib.bitLen m = lim at hcon hlen HRES
  clear hH hlim hsrt hl hx
  go_enter Tryz.func78, Tryz.ntmps78
  go_wp2_with (first
    | (go_at_call 97; refine hlen.mono ?_; rintro e w' ⟨rfl, rfl⟩)
    | (go_at_call 96; refine hcon.mono ?_; rintro e w' ⟨rfl, n, os, rfl⟩))
  go_end0
  exact ⟨⟨_, rfl⟩, HRES.out n os⟩
end Go.Proofs.YtibmgpinfdcaoaaGreatDoor
