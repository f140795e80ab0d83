/-
  One text: SSame, SApart, SApartW, SMkA.
-/
import Derived.Test.YtkmpgcgdamcikaaGreatDoorGMake
import Derived.Lib.AppendZerosOnto
namespace Go.Proofs.YtkmpgcgdamcikaaGreatDoor
open Go.RowKit Plain
set_option linter.unusedVariables false
set_option maxRecDepth 100000

set_option maxHeartbeats 2000000 in
theorem same_yes {F G : Nat → Prop} {a a2 : Option Addr} {n c c2 : Nat} {L : List (Int × Int)} (w : World) (h : Sl w F a n c L) (h2 : Sl w G a2 n c2 L) :
    Calls Tryz.prog 24 #[.slice a n c, .slice a2 n c2] w fun e w' => e = .returned (.bool true) ∧ Kept No w w' := by
  have HS : Hid (Sl w F a n c L ∧ Sl w G a2 n c2 L) := ⟨h, h2⟩
  have hcap := h.cap
  have hmax := h.max
  have hcap2 := h2.cap
  have hmax2 := h2.max
  clear h h2
  go_enter Tryz.func24, Tryz.ntmps24
  go_wp2
  go_loopw [5] (fun x wr => ∃ k : Nat, k ≤ n ∧ x = .int .i64 k ∧ Kept No w wr) (fun x _ => n - (intOf x).toNat)
  case atStart => exact ⟨0, Nat.zero_le _, rfl, Kept.refl No w⟩
  case round =>
    obtain ⟨k, hk, rfl, hkr⟩ := hrel
    have HKR : Hid (Kept No w wr) := hkr
    clear hkr
    by_cases hlt : k < n
    · have hltz : (k : Int) < (n : Int) := by omega
      obtain ⟨b, o, rfl, _, e0, e1⟩ := HS.out.1.gt hlt
      obtain ⟨b2, o2, rfl, _, d0, d1⟩ := HS.out.2.gt hlt
      generalize (Slt.gt L k).1 = y0 at *
      generalize (Slt.gt L k).2 = y1 at *
      have e0' := HKR.out.cell e0 (fun h => h)
      have e1' := HKR.out.cell e1 (fun h => h)
      have d0' := HKR.out.cell d0 (fun h => h)
      have d1' := HKR.out.cell d1 (fun h => h)
      clear e0 e1 d0 d1
      go_upto_region 6 with fail
      go_quiet (fail)
      clear e0' e1' d0' d1'
      go_wp2
      go_roundw
      case rel => exact ⟨k + 1, by omega, by go_num, HKR.out.drewN _⟩
      case measure => simp [intOf]; omega
    · have hltz : ¬ (k : Int) < (n : Int) := by omega
      clear hk
      go_wp2
      go_ret
      exact ⟨rfl, HKR.out⟩

theorem two_new (w : World) (X Y : Obj) : ((w.alloc X).alloc Y).heap[w.heap.size]? = some X ∧ ((w.alloc X).alloc Y).heap[w.heap.size + 1]? = some Y := by
  constructor
  · exact ((Kept.refl No (w.alloc X)).alloc Y).at' (World.alloc_heap_new w X) (fun h => h)
  · have h := World.alloc_heap_new (w.alloc X) Y
    have e : (w.alloc X).heap.size = w.heap.size + 1 := by unfold World.alloc; exact Array.size_push _
    rw [e] at h
    exact h
set_option maxHeartbeats 2000000 in
theorem sameT_yes {F G F2 G2 : Nat → Prop} {a a2 b b2 : Option Addr} {n c c2 m d d2 : Nat} {L M : List (Int × Int)} (w : World) (h : Sl w F a n c L) (h2 : Sl w G a2 n c2 L) (h3 : Sl w F2 b m d M) (h4 : Sl w G2 b2 m d2 M) :
    Calls Tryz.prog 6 #[.agg #[.slice a n c, .slice b m d], .agg #[.slice a2 n c2, .slice b2 m d2]] w fun e w' => e = .returned (.bool true) ∧ Kept No w w' := by
  have HC : Hid (∀ W, Kept No w W → Calls Tryz.prog 24 #[.slice a n c, .slice a2 n c2] W fun e w' => e = .returned (.bool true) ∧ Kept No w w') := fun W k => (same_yes W (h.keep k) (h2.keep k)).mono (fun _ w' ⟨e, k'⟩ => ⟨e, k.trans k' (fun _ h => h.elim)⟩)
  have HD : Hid (∀ W, Kept No w W → Calls Tryz.prog 24 #[.slice b m d, .slice b2 m d2] W fun e w' => e = .returned (.bool true) ∧ Kept No w w') := fun W k => (same_yes W (h3.keep k) (h4.keep k)).mono (fun _ w' ⟨e, k'⟩ => ⟨e, k.trans k' (fun _ h => h.elim)⟩)
  have k1 : Kept No w ((w.alloc (.cells #[.slice a n c, .slice b m d] 25)).alloc (.cells #[.slice a2 n c2, .slice b2 m d2] 25)) := ((Kept.refl No w).alloc _).alloc _
  obtain ⟨hb1, hb2⟩ := two_new w (.cells #[.slice a n c, .slice b m d] 25) (.cells #[.slice a2 n c2, .slice b2 m d2] 25)
  obtain ⟨x0, x1⟩ := bx2 hb1
  obtain ⟨y0, y1⟩ := bx2 hb2
  have HB : Hid (((w.alloc (.cells #[.slice a n c, .slice b m d] 25)).alloc (.cells #[.slice a2 n c2, .slice b2 m d2] 25)).heap[w.heap.size]? = some (.cells #[.slice a n c, .slice b m d] 25) ∧ ((w.alloc (.cells #[.slice a n c, .slice b m d] 25)).alloc (.cells #[.slice a2 n c2, .slice b2 m d2] 25)).heap[w.heap.size + 1]? = some (.cells #[.slice a2 n c2, .slice b2 m d2] 25)) := ⟨hb1, hb2⟩
  have HC2 : Hid (Calls Tryz.prog 24 #[.slice a n c, .slice a2 n c2] ((w.alloc (.cells #[.slice a n c, .slice b m d] 25)).alloc (.cells #[.slice a2 n c2, .slice b2 m d2] 25)) fun e w' => e = .returned (.bool true) ∧ Kept No w w' ∧ w'.heap[w.heap.size]? = some (.cells #[.slice a n c, .slice b m d] 25) ∧ w'.heap[w.heap.size + 1]? = some (.cells #[.slice a2 n c2, .slice b2 m d2] 25)) :=
    (same_yes _ (h.keep k1) (h2.keep k1)).mono (fun _ w' ⟨e, k'⟩ => ⟨e, k1.trans k' (fun _ h => h.elim), k'.at' hb1 (fun h => h), k'.at' hb2 (fun h => h)⟩)
  have hc := HC2.out
  clear h h2 h3 h4 hb1 hb2 k1 HC
  go_enter Tryz.func6, Tryz.ntmps6
  go_wp2_with (first
    | (go_at_call 24; refine hc.mono ?_; rintro e w2 ⟨rfl, hk2, ha, hb⟩; clear x0 x1 y0 y1 hc; obtain ⟨x0, x1⟩ := bx2 ha; obtain ⟨y0, y1⟩ := bx2 hb; have hd := HD.out _ hk2; clear ha hb hk2)
    | (go_at_call 24; refine hd.mono ?_; rintro e w3 ⟨rfl, hk3⟩; have H3 : Hid (Kept No w w3) := hk3; clear hd hk3 x0 x1 y0 y1))
  go_ret
  exact ⟨rfl, H3.out⟩
end Go.Proofs.YtkmpgcgdamcikaaGreatDoor

namespace Go.Proofs.YtkmpgcgdamcikaaGreatDoor
open Go.RowKit Plain
set_option linter.unusedVariables false
set_option maxRecDepth 100000

/-- the block of a list that begins one -/
def Blk (a : Option Addr) (k : Nat) : Prop := a = some ⟨k, 0, none⟩
/-- a row of slots that may be written -/
structure Rs (w : World) (a : Option Addr) (n : Nat) (f : Nat → Int × Int) : Prop where
  nil : a = none → n = 0
  at' : ∀ i, i < n → ∃ g, a = some ⟨g, 0, none⟩ ∧ g < w.heap.size ∧ w.cell? ⟨g, i * 2, none⟩ = some (.int .i64 (f i).1) ∧ w.cell? ⟨g, i * 2 + 1, none⟩ = some (.int .i64 (f i).2) ∧ ∀ k, w.frozen? ⟨g, k, none⟩ = false
section
variable {w w' : World} {a : Option Addr} {n : Nat} {f : Nat → Int × Int} {G : Nat → Prop}
theorem Rs.kept (h : Rs w a n f) (k : Kept G w w') (hn : ∀ b, Blk a b → ¬ G b) : Rs w' a n f :=
  ⟨h.nil, fun i hi => by
    obtain ⟨g, e, hg, h0, h1, h2⟩ := h.at' i hi
    have hd := hn g e
    refine ⟨g, e, Nat.lt_of_lt_of_le hg k.size, k.cell h0 hd, k.cell h1 hd, fun j => ?_⟩
    have eb := k.block g hg hd
    have := h2 j
    simp only [World.frozen?] at this ⊢
    rw [eb]; exact this⟩
theorem Rs.ext {f' : Nat → Int × Int} (h : Rs w a n f) (e : ∀ i, i < n → f i = f' i) : Rs w a n f' :=
  ⟨h.nil, fun i hi => by rw [← e i hi]; exact h.at' i hi⟩
theorem Rs.set {g : Nat} (h : Rs w (some ⟨g, 0, none⟩) n f) (k : Nat) (x y : Int) : Rs ((w.setCell ⟨g, k * 2, none⟩ (.int .i64 x)).setCell ⟨g, k * 2 + 1, none⟩ (.int .i64 y)) (some ⟨g, 0, none⟩) n (fun i => if i = k then (x, y) else f i) := by
  refine ⟨fun e => (by cases e), fun i hi => ?_⟩
  obtain ⟨g', e, hg, h0, h1, h2⟩ := h.at' i hi
  injection e with e
  injection e with e _ _
  subst e
  have s0 : (w.setCell ⟨g, k * 2, none⟩ (.int .i64 x)).cell? ⟨g, i * 2, none⟩ = some (if i = k then .int .i64 x else .int .i64 (f i).1) := by
    rw [cell_set h0]
    by_cases e : i = k
    · rw [if_pos (by omega), if_pos e]
    · rw [if_neg (by omega), if_neg e]
  have s1 : (w.setCell ⟨g, k * 2, none⟩ (.int .i64 x)).cell? ⟨g, i * 2 + 1, none⟩ = some (.int .i64 (f i).2) := by
    rw [cell_set h1, if_neg (by omega)]
  refine ⟨g, rfl, by simpa [World.setCell] using hg, ?_, ?_, fun j => by rw [World.frozen?_setCell, World.frozen?_setCell]; exact h2 j⟩
  · rw [cell_set s0, if_neg (by omega)]
    by_cases e : i = k
    · rw [if_pos e, if_pos e]
    · rw [if_neg e, if_neg e]
  · rw [cell_set s1]
    by_cases e : i = k
    · rw [if_pos (by omega), if_pos e]
    · rw [if_neg (by omega), if_neg e]
end
theorem Pt.rs {w : World} {base g : Nat} {L : List (Nat × Nat)} (h : Pt w base g L) : ∃ f, Rs w (some ⟨g, 0, none⟩) L.length f := by
  refine ⟨fun i => Slt.gt (zl L) i, fun e => (by cases e), fun i hi => ?_⟩
  obtain ⟨b, o, e, _, h0, h1⟩ := h.sl.gt hi
  injection e with e
  injection e with e1 e2 _
  subst e1 e2
  rw [Nat.zero_add] at h0 h1
  refine ⟨g, rfl, h.hi, h0, h1, fun k => ?_⟩
  obtain ⟨⟨c, _, ⟨h1, _⟩ | ⟨g', cap', cur, hv, hb', hg, _⟩⟩, _, _⟩ := h
  · cases h1
  · injection hv with e1 _ _
    injection e1 with e1
    injection e1 with e1 _ _
    subst e1
    simp [World.frozen?, hg]

/-- n slots of length nought, as cells -/
def prL (x : Int) : Nat → List Value
  | 0 => []
  | n + 1 => .int .i64 0 :: .int .i64 x :: prL x n
theorem prL_len (x : Int) : ∀ n, (prL x n).length = n * 2
  | 0 => rfl
  | n + 1 => by rw [prL, List.length_cons, List.length_cons, prL_len x n]; omega
theorem prL_get (x : Int) : ∀ n i, i < n → (prL x n)[i * 2]? = some (.int .i64 0) ∧ (prL x n)[i * 2 + 1]? = some (.int .i64 x)
  | 0, _, h => (by omega)
  | n + 1, 0, _ => ⟨rfl, rfl⟩
  | n + 1, i + 1, h => by
    have := prL_get x n i (by omega)
    rw [prL, show (i + 1) * 2 = i * 2 + 1 + 1 by omega]
    exact this
theorem zero70 : Builtin.zeroCells (Value.agg #[.int .i64 0, .int .i64 0]).cells 70 = (prL 0 70).toArray := by kernel_rfl

theorem app70 {w : World} {a : Option Addr} {n : Nat} {x : Int} (ty : TypeId) (h : Rs w a n (fun _ => (0, x))) (hn : n ≤ 2097152) :
    ∃ c' w', (Builtin.append_ #[23, 3] ty #[.slice a n n, .int .i64 (70 : Nat)]).run Tryz.prog w = .ok (.slice (some ⟨w.heap.size, 0, none⟩) (n + 70) c') w' ∧ n + 70 ≤ c' ∧ c' ≤ 9223372036854775807 ∧ Kept No w w' ∧ w.heap.size < w'.heap.size ∧ ∀ i, i < n + 70 → w'.cell? ⟨w.heap.size, i * 2 + 1, none⟩ = some (.int .i64 (if i < n then x else 0)) := by
  obtain ⟨i0, hi, hz0, hz1, hz2⟩ := info_parts Tryz.infoSo
  have hold : (Builtin.firstCells i0.size n (.slice a n n)).run Tryz.prog w.drew = .ok (prL x n).toArray w.drew := by
    rw [hz1]
    cases a with
    | none =>
      have := h.nil rfl
      subst this
      exact run_firstCells_none ..
    | some p =>
      by_cases h0 : n = 0
      · subst h0
        exact run_firstCells_some _ 2 0 p 0 0 [] rfl (fun j v e => by simp at e)
      · obtain ⟨g, e, _⟩ := h.at' 0 (by omega)
        injection e with e
        subst e
        refine run_firstCells_some _ 2 n _ n n (prL x n) (prL_len x n) (fun j v e => ?_)
        have hj : j < n * 2 := by
          have := (List.getElem?_eq_some_iff.1 e).1
          rw [prL_len] at this
          exact this
        obtain ⟨g', e', _, q0, q1, _⟩ := h.at' (j / 2) (by omega)
        injection e' with e'
        injection e' with e' _ _
        subst e'
        obtain ⟨r0, r1⟩ := prL_get x n (j / 2) (by omega)
        rcases Nat.mod_two_eq_zero_or_one j with hm | hm
        · have ej : j / 2 * 2 = j := by omega
          rw [ej] at q0 r0
          rw [e] at r0
          injection r0 with r0
          subst r0
          rw [Addr.add_lit]
          rw [Nat.zero_add]
          exact q0
        · have ej : j / 2 * 2 + 1 = j := by omega
          rw [ej] at q1 r1
          rw [e] at r1
          injection r1 with r1
          subst r1
          rw [Addr.add_lit]
          rw [Nat.zero_add]
          exact q1
  have hr := Go.Lib.run_append_grow_zeros (P := Tryz.prog) w 23 3 ty 62 i0 (.agg #[.int .i64 0, .int .i64 0]) .i64 .i64 Tryz.underlying23 Tryz.underlying3 hi hz0 a n n (prL x n) hold 70 (by decide) (by omega) (by omega) (by omega) (by rw [hz2]; decide) (growslice_fits (by omega) (by rw [hz2]; omega))
  rw [zero70] at hr
  have hge := grownCap_ge w (n + 70) n 62
  have hcm : grownCap w (n + 70) n 62 ≤ maxLen := grownCap_le_maxLen w (n + 70) n 62 (by unfold maxLen; omega)
  refine ⟨_, _, hr, hge, hcm, ((Kept.refl No w).drewN 1).alloc _, by rw [World.size_alloc]; exact Nat.lt_succ_self _, fun i hi => ?_⟩
  have hc := heap_alloc_new w.drew (.cells ((prL x n).toArray ++ (prL 0 70).toArray ++ Builtin.zeroCells (Value.agg #[.int .i64 0, .int .i64 0]).cells (grownCap w (n + 70) n 62 - (n + 70))) 62)
  have hg : ((prL x n).toArray ++ (prL 0 70).toArray ++ Builtin.zeroCells (Value.agg #[.int .i64 0, .int .i64 0]).cells (grownCap w (n + 70) n 62 - (n + 70)))[i * 2 + 1]? = some (.int .i64 (if i < n then x else 0)) := by
    rw [Array.getElem?_append_left (by rw [Array.size_append, List.size_toArray, List.size_toArray, prL_len, prL_len]; omega)]
    by_cases e : i < n
    · rw [if_pos e, Array.getElem?_append_left (by rw [List.size_toArray, prL_len]; omega), List.getElem?_toArray]
      exact (prL_get x n i e).2
    · rw [if_neg e, Array.getElem?_append_right (by rw [List.size_toArray, prL_len]; omega), List.getElem?_toArray, List.size_toArray, prL_len, show i * 2 + 1 - n * 2 = (i - n) * 2 + 1 by omega]
      exact (prL_get 0 70 (i - n) (by omega)).2
  generalize ((prL x n).toArray ++ (prL 0 70).toArray ++ Builtin.zeroCells (Value.agg #[.int .i64 0, .int .i64 0]).cells (grownCap w (n + 70) n 62 - (n + 70))) = cs at *
  have hc' : (w.drew.alloc (.cells cs 62)).heap[w.heap.size]? = some (.cells cs 62) := hc
  unfold World.cell?
  simp only [hc']
  exact hg
end Go.Proofs.YtkmpgcgdamcikaaGreatDoor

namespace Go.Proofs.YtkmpgcgdamcikaaGreatDoor
open Go.RowKit Plain
set_option linter.unusedVariables false
set_option maxRecDepth 100000

set_option maxHeartbeats 4000000 in
theorem apart_yes {a0 a1 : Option Addr} {n0 n1 : Nat} {f0 f1 : Nat → Int × Int} (w : World) (h0 : Rs w a0 n0 f0) (h1 : Rs w a1 n1 f1) (hd : ∀ k, Blk a0 k → ¬ Blk a1 k) (hl0 : ∀ k, Blk a0 k → k < w.heap.size) (hl1 : ∀ k, Blk a1 k → k < w.heap.size) (hn0 : n0 ≤ 2097152) (hn1 : n1 ≤ 2097152) :
    Calls Tryz.prog 11 #[.agg #[.slice a0 n0 n0, .slice a1 n1 n1]] w fun e w' => e = .returned (.bool true) ∧ Kept (fun k => Blk a0 k ∨ Blk a1 k) w w' := by
  have ka : Kept No w (w.alloc (.cells #[.slice a0 n0 n0, .slice a1 n1 n1] 25)) := (Kept.refl No w).alloc _
  have hT := World.alloc_heap_new w (.cells #[.slice a0 n0 n0, .slice a1 n1 n1] 25)
  have HD : Hid ((∀ k, Blk a0 k → ¬ Blk a1 k) ∧ (∀ k, Blk a0 k → k < w.heap.size) ∧ (∀ k, Blk a1 k → k < w.heap.size)) := ⟨hd, hl0, hl1⟩
  have HA : Hid (Kept No w (w.alloc (.cells #[.slice a0 n0 n0, .slice a1 n1 n1] 25)) ∧ (w.alloc (.cells #[.slice a0 n0 n0, .slice a1 n1 n1] 25)).heap[w.heap.size]? = some (.cells #[.slice a0 n0 n0, .slice a1 n1 n1] 25) ∧ Rs (w.alloc (.cells #[.slice a0 n0 n0, .slice a1 n1 n1] 25)) a0 n0 f0 ∧ Rs (w.alloc (.cells #[.slice a0 n0 n0, .slice a1 n1 n1] 25)) a1 n1 f1) := ⟨ka, hT, h0.kept ka (fun _ _ h => h), h1.kept ka (fun _ _ h => h)⟩
  have hz0 : (n0 : Int) ≤ 2097152 := by omega
  have hz1 : (n1 : Int) ≤ 2097152 := by omega
  clear h0 h1 hd hl0 hl1 ka hT
  go_enter Tryz.func11, Tryz.ntmps11
  go_upto_region 1 with fail
  generalize (w.alloc (.cells #[.slice a0 n0 n0, .slice a1 n1 n1] 25)) = w1 at *
  go_wp2
  go_loopw [3] (fun x wr => ∃ k : Nat, x = .int .i64 k ∧ k ≤ n0 ∧ Rs wr a0 n0 (fun i => if i < k then (0, -1) else f0 i) ∧ Kept (Blk a0) w1 wr) (fun x _ => n0 - (intOf x).toNat)
  case atStart => exact ⟨0, rfl, Nat.zero_le _, HA.out.2.2.1.ext (fun i hi => by simp), Kept.refl _ _⟩
  case round =>
    obtain ⟨k, rfl, hk, hr, hkr⟩ := hrel
    obtain ⟨d0, d1⟩ := bx2 (hkr.at' HA.out.2.1 (fun h => by have := HD.out.2.1 _ h; omega))
    by_cases hlt : k < n0
    · have hltz : (k : Int) < (n0 : Int) := by omega
      obtain ⟨g, rfl, hg, e0, e1, hf⟩ := hr.at' k hlt
      have HN : Hid (Rs ((wr.setCell ⟨g, k * 2, none⟩ (.int .i64 0)).setCell ⟨g, k * 2 + 1, none⟩ (.int .i64 (-1))) (some ⟨g, 0, none⟩) n0 (fun i => if i < k + 1 then (0, -1) else f0 i) ∧ Kept (Blk (some ⟨g, 0, none⟩)) w1 ((wr.setCell ⟨g, k * 2, none⟩ (.int .i64 0)).setCell ⟨g, k * 2 + 1, none⟩ (.int .i64 (-1)))) := by
        refine ⟨(hr.set k 0 (-1)).ext (fun i hi => ?_), Kept.setCell (p := ⟨g, k * 2 + 1, none⟩) (Kept.setCell (p := ⟨g, k * 2, none⟩) hkr (.inl rfl) _) (.inl rfl) _⟩
        by_cases e : i = k
        · rw [if_pos e, if_pos (by omega)]
        · rw [if_neg e]
          by_cases e2 : i < k
          · rw [if_pos e2, if_pos (by omega)]
          · rw [if_neg e2, if_neg (by omega)]
      have fz := hf (k * 2)
      have fz2 := hf (k * 2 + 1)
      clear hr hkr hg
      rw [if_neg (Nat.lt_irrefl k)] at e0 e1
      generalize f0 k = y at *
      go_wp2
      go_roundw
      case rel => exact ⟨k + 1, by go_num, by omega, HN.out⟩
      case measure => simp [intOf]; omega
    · have hltz : ¬ (k : Int) < (n0 : Int) := by omega
      obtain rfl : k = n0 := by omega
      have H2 : Hid (Rs wr a0 k (fun _ => (0, -1)) ∧ Rs wr a1 n1 f1 ∧ wr.heap[w.heap.size]? = some (.cells #[.slice a0 k k, .slice a1 n1 n1] 25) ∧ Kept (fun j => Blk a0 j ∨ Blk a1 j) w wr) := ⟨hr.ext (fun i hi => by rw [if_pos hi]), HA.out.2.2.2.kept hkr (fun b h1 h0 => HD.out.1 b h0 h1), hkr.at' HA.out.2.1 (fun h => by have := HD.out.2.1 _ h; omega), (HA.out.1.mono (fun _ h => h.elim)).trans hkr (fun j h => .inl (.inl h))⟩
      clear hr hkr HA hlt hk
      go_upto_region 5 with fail
      clear d0 d1 hltz
      rename_i n0
      generalize wr = w2 at *
      go_wp2
      go_loopw [4] (fun x wr => ∃ k : Nat, x = .int .i64 k ∧ k ≤ n1 ∧ Rs wr a1 n1 (fun i => if i < k then (0, -2) else f1 i) ∧ Kept (Blk a1) w2 wr) (fun x _ => n1 - (intOf x).toNat)
      case atStart => exact ⟨0, rfl, Nat.zero_le _, H2.out.2.1.ext (fun i hi => by simp), Kept.refl _ _⟩
      case round =>
        obtain ⟨q, rfl, hq, hr, hkr⟩ := hrel
        obtain ⟨d0, d1⟩ := bx2 (hkr.at' H2.out.2.2.1 (fun h => by have := HD.out.2.2 _ h; omega))
        by_cases hlt : q < n1
        · have hltz : (q : Int) < (n1 : Int) := by omega
          obtain ⟨g, rfl, hg, e0, e1, hf⟩ := hr.at' q hlt
          have HN : Hid (Rs ((wr.setCell ⟨g, q * 2, none⟩ (.int .i64 0)).setCell ⟨g, q * 2 + 1, none⟩ (.int .i64 (-2))) (some ⟨g, 0, none⟩) n1 (fun i => if i < q + 1 then (0, -2) else f1 i) ∧ Kept (Blk (some ⟨g, 0, none⟩)) w2 ((wr.setCell ⟨g, q * 2, none⟩ (.int .i64 0)).setCell ⟨g, q * 2 + 1, none⟩ (.int .i64 (-2)))) := by
            refine ⟨(hr.set q 0 (-2)).ext (fun i hi => ?_), Kept.setCell (p := ⟨g, q * 2 + 1, none⟩) (Kept.setCell (p := ⟨g, q * 2, none⟩) hkr (.inl rfl) _) (.inl rfl) _⟩
            by_cases e : i = q
            · rw [if_pos e, if_pos (by omega)]
            · rw [if_neg e]
              by_cases e2 : i < q
              · rw [if_pos e2, if_pos (by omega)]
              · rw [if_neg e2, if_neg (by omega)]
          have fz := hf (q * 2)
          have fz2 := hf (q * 2 + 1)
          clear hr hkr hg
          rw [if_neg (Nat.lt_irrefl q)] at e0 e1
          generalize f1 q = y at *
          go_wp2
          go_roundw
          case rel => exact ⟨q + 1, by go_num, by omega, HN.out⟩
          case measure => simp [intOf]; omega
        · have hltz : ¬ (q : Int) < (n1 : Int) := by omega
          obtain rfl : q = n1 := by omega
          have H3 : Hid (Rs wr a0 k (fun _ => (0, -1)) ∧ Rs wr a1 q (fun _ => (0, -2)) ∧ wr.heap[w.heap.size]? = some (.cells #[.slice a0 k k, .slice a1 q q] 25) ∧ Kept (fun j => Blk a0 j ∨ Blk a1 j) w wr) := ⟨H2.out.1.kept hkr (fun b h0 h1 => HD.out.1 b h0 h1), hr.ext (fun i hi => by rw [if_pos hi]), hkr.at' H2.out.2.2.1 (fun h => by have := HD.out.2.2 _ h; omega), H2.out.2.2.2.trans hkr (fun j h => .inl (.inr h))⟩
          clear hr hkr H2 hlt hq
          go_upto_region 9 with fail
          clear d0 d1 hltz
          generalize wr = w3 at *
          obtain ⟨cp, w4, hz3, p1, p2, hk4, hs4, hp4⟩ := app70 23 H3.out.1 hn0
          obtain ⟨cq, w5, hz5, p3, p4, hk5, hs5, hp5⟩ := app70 23 (H3.out.2.1.kept hk4 (fun _ _ h => h)) hn1
          have H5 : Hid (Rs w5 a0 k (fun _ => (0, -1)) ∧ Rs w5 a1 q (fun _ => (0, -2)) ∧ w5.heap[w.heap.size]? = some (.cells #[.slice a0 k k, .slice a1 q q] 25) ∧ Kept (fun j => Blk a0 j ∨ Blk a1 j) w w5 ∧ (∀ i, i < k + 70 → w5.cell? ⟨w3.heap.size, i * 2 + 1, none⟩ = some (.int .i64 (if i < k then -1 else 0))) ∧ (∀ i, i < q + 70 → w5.cell? ⟨w4.heap.size, i * 2 + 1, none⟩ = some (.int .i64 (if i < q then -2 else 0)))) :=
            ⟨(H3.out.1.kept hk4 (fun _ _ h => h)).kept hk5 (fun _ _ h => h), (H3.out.2.1.kept hk4 (fun _ _ h => h)).kept hk5 (fun _ _ h => h), hk5.at' (hk4.at' H3.out.2.2.1 (fun h => h)) (fun h => h), (H3.out.2.2.2.trans hk4 (fun _ h => h.elim)).trans hk5 (fun _ h => h.elim), fun i hi => hk5.cell (hp4 i hi) (fun h => h), hp5⟩
          obtain ⟨d0, d1⟩ := bx2 H3.out.2.2.1
          obtain ⟨d2, d3⟩ := bx2 (hk4.at' H3.out.2.2.1 (fun h => h))
          clear hk4 hs4 hp4 hk5 hs5 hp5
          have y1 : ((k + 70 : Nat) : Int) = (k : Int) + 70 := by omega
          have y2 : ((q + 70 : Nat) : Int) = (q : Int) + 70 := by omega
          go_upto_region 11 with (first
            | (at_builtin; refine Go.Lib.wpList_append_run _ rfl _ _ _ _ rfl _ _ rfl rfl _ _ hz3 ?_)
            | (at_builtin; refine Go.Lib.wpList_append_run _ rfl _ _ _ _ rfl _ _ rfl rfl _ _ hz5 ?_))
          clear d0 d1 d2 d3 hz3 hz5 H3
          generalize w3.heap.size = g3 at *
          generalize w4.heap.size = g4 at *
          go_wp2
          go_loopw [7] (fun x wr => ∃ i : Nat, x = .int .i64 i ∧ i ≤ k + 70 ∧ Kept No w5 wr) (fun x _ => k + 70 - (intOf x).toNat)
          case atStart => exact ⟨0, rfl, Nat.zero_le _, Kept.refl _ _⟩
          case round =>
            obtain ⟨i, rfl, hi, hkr⟩ := hrel
            obtain ⟨d0, d1⟩ := bx2 (hkr.at' H5.out.2.2.1 (fun h => h))
            have HK : Hid (Kept No w5 wr) := hkr
            by_cases hlt : i < k + 70
            · have hltz : (i : Int) < (k : Int) + 70 := by omega
              have c1 := hkr.cell (H5.out.2.2.2.2.1 i hlt) (fun h => h)
              by_cases hik : i < k
              · have hikz : (i : Int) < (k : Int) := by omega
                have hikw : ¬ (k : Int) ≤ (i : Int) := by omega
                rw [if_pos hik] at c1
                obtain ⟨g, rfl, _, _, c2, _⟩ := H5.out.1.at' i hik
                have c3 := hkr.cell c2 (fun h => h)
                clear c2 hkr
                go_wp2
                go_roundw
                case rel => exact ⟨i + 1, by go_num, by omega, HK.out⟩
                case measure => simp [intOf]; omega
              · have hikz : ¬ (i : Int) < (k : Int) := by omega
                have hikw : (k : Int) ≤ (i : Int) := by omega
                rw [if_neg hik] at c1
                clear hkr
                go_wp2
                go_roundw
                case rel => exact ⟨i + 1, by go_num, by omega, HK.out⟩
                case measure => simp [intOf]; omega
            · have hltz : ¬ (i : Int) < (k : Int) + 70 := by omega
              have HK : Hid (Kept No w5 wr) := hkr
              clear hkr hi
              go_upto_region 16 with fail
              clear d0 d1 hltz hlt
              generalize wr = w6 at *
              go_wp2
              go_loopw [8] (fun x wr => ∃ i : Nat, x = .int .i64 i ∧ i ≤ q + 70 ∧ Kept No w5 wr) (fun x _ => q + 70 - (intOf x).toNat)
              case atStart => exact ⟨0, rfl, Nat.zero_le _, HK.out⟩
              case round =>
                clear HK
                obtain ⟨i, rfl, hi, hkr⟩ := hrel
                obtain ⟨d0, d1⟩ := bx2 (hkr.at' H5.out.2.2.1 (fun h => h))
                have HK : Hid (Kept No w5 wr) := hkr
                by_cases hlt : i < q + 70
                · have hltz : (i : Int) < (q : Int) + 70 := by omega
                  have c1 := hkr.cell (H5.out.2.2.2.2.2 i hlt) (fun h => h)
                  by_cases hik : i < q
                  · have hikz : (i : Int) < (q : Int) := by omega
                    have hikw : ¬ (q : Int) ≤ (i : Int) := by omega
                    rw [if_pos hik] at c1
                    obtain ⟨g, rfl, _, _, c2, _⟩ := H5.out.2.1.at' i hik
                    have c3 := hkr.cell c2 (fun h => h)
                    clear c2 hkr
                    go_wp2
                    go_roundw
                    case rel => exact ⟨i + 1, by go_num, by omega, HK.out⟩
                    case measure => simp [intOf]; omega
                  · have hikz : ¬ (i : Int) < (q : Int) := by omega
                    have hikw : (q : Int) ≤ (i : Int) := by omega
                    rw [if_neg hik] at c1
                    clear hkr
                    go_wp2
                    go_roundw
                    case rel => exact ⟨i + 1, by go_num, by omega, HK.out⟩
                    case measure => simp [intOf]; omega
                · have hltz : ¬ (i : Int) < (q : Int) + 70 := by omega
                  clear hkr hi
                  go_wp2
                  go_ret
                  exact ⟨rfl, H5.out.2.2.2.1.trans HK.out (fun _ h => h.elim)⟩
end Go.Proofs.YtkmpgcgdamcikaaGreatDoor

namespace Go.Proofs.YtkmpgcgdamcikaaGreatDoor
open Go.RowKit Plain
set_option linter.unusedVariables false
set_option maxRecDepth 100000

def tP (xs : List Srv) : List (Nat × Nat) := match timF xs xs.length with
  | none => Rule.runsOf (Rule.occ (sys xs)) 0 (hyp xs)
  | some _ => []
def tC (xs : List Srv) : List (Nat × Nat) := match timF xs xs.length with
  | none => Rule.runsOf (Rule.occ (sys xs)) (hyp xs) (hyp xs)
  | some _ => []
def tE (xs : List Srv) : Int := match timF xs xs.length with
  | none => 0
  | some p => p.1
theorem tP_le (xs : List Srv) : (tP xs).length ≤ 2097152 := by
  unfold tP
  cases h : timF xs xs.length with
  | none =>
    have := (vd_of h).hyp2
    have := Rule.runsOf_le (Rule.occ (sys xs)) 0 (hyp xs)
    simp only
    omega
  | some p => simp
theorem tC_le (xs : List Srv) : (tC xs).length ≤ 2097152 := by
  unfold tC
  cases h : timF xs xs.length with
  | none =>
    have := (vd_of h).hyp2
    have := Rule.runsOf_le (Rule.occ (sys xs)) (hyp xs) (hyp xs)
    simp only
    omega
  | some p => simp
theorem t_valid {xs : List Srv} (h : tE xs = 0) : hyF (zl (tP xs)) (zl (tC xs)) ≠ 0 := by
  unfold tE at h
  unfold tP tC
  cases ht : timF xs xs.length with
  | none =>
    have hv := vd_of ht
    simp only
    rw [tab_hyF (tab_runs hv)]
    have := hv.hyp1
    omega
  | some p =>
    rw [ht] at h
    exact (tim_ne ht h).elim

/-- a table in blocks from lo on, below hi -/
structure Tq (w : World) (lo hi : Nat) (a0 : Option Addr) (c0 : Nat) (a1 : Option Addr) (c1 : Nat) (P C : List (Nat × Nat)) : Prop where
  p : Sl w (fun k => lo ≤ k ∧ k < hi) a0 P.length c0 (zl P)
  c : Sl w (fun k => lo ≤ k ∧ k < hi) a1 C.length c1 (zl C)
theorem Tq.kept {w w' : World} {lo hi : Nat} {a0 a1 : Option Addr} {c0 c1 : Nat} {P C : List (Nat × Nat)} {G : Nat → Prop} (h : Tq w lo hi a0 c0 a1 c1 P C) (k : Kept G w w') (hd : ∀ b, lo ≤ b → b < hi → ¬ G b) : Tq w' lo hi a0 c0 a1 c1 P C :=
  ⟨h.p.kept k (fun b hb => hd b hb.1 hb.2), h.c.kept k (fun b hb => hd b hb.1 hb.2)⟩
theorem Tq.keep {w w' : World} {lo hi : Nat} {a0 a1 : Option Addr} {c0 c1 : Nat} {P C : List (Nat × Nat)} (h : Tq w lo hi a0 c0 a1 c1 P C) (k : Kept No w w') : Tq w' lo hi a0 c0 a1 c1 P C := h.kept k (fun _ _ _ h => h)
/-- and one that may be written -/
structure Wq (w : World) (lo hi : Nat) (a0 a1 : Option Addr) (n0 n1 : Nat) : Prop where
  p : ∃ f, Rs w a0 n0 f
  c : ∃ f, Rs w a1 n1 f
  b0 : ∀ k, Blk a0 k → lo ≤ k ∧ k < hi
  b1 : ∀ k, Blk a1 k → lo ≤ k ∧ k < hi
  dis : ∀ k, Blk a0 k → ¬ Blk a1 k
theorem Wq.keep {w w' : World} {lo hi : Nat} {a0 a1 : Option Addr} {n0 n1 : Nat} (h : Wq w lo hi a0 a1 n0 n1) (k : Kept No w w') : Wq w' lo hi a0 a1 n0 n1 := by
  obtain ⟨⟨f, hf⟩, ⟨g, hg⟩, h1, h2, h3⟩ := h
  exact ⟨⟨f, hf.kept k (fun _ _ h => h)⟩, ⟨g, hg.kept k (fun _ _ h => h)⟩, h1, h2, h3⟩

theorem sl_nil (w : World) (F : Nat → Prop) : Sl w F none 0 0 [] := ⟨rfl, Nat.le_refl _, by omega, fun _ => rfl, fun i x h => by simp at h⟩
theorem rs_nil (w : World) : Rs w none 0 (fun _ => (0, 0)) := ⟨fun _ => rfl, fun i h => by omega⟩
theorem Pt.tb {w : World} {lo g : Nat} {L : List (Nat × Nat)} {c : Nat} (h : Pt w lo g L) (h1 : L.length ≤ c) (h2 : c ≤ 9223372036854775807) : Sl w (fun k => lo ≤ k ∧ k < w.heap.size) (some ⟨g, 0, none⟩) L.length c (zl L) := by
  have s := h.sl.mono (G := fun k => lo ≤ k ∧ k < w.heap.size) (fun k e => by rw [e]; exact ⟨h.lo, h.hi⟩)
  exact ⟨s.len, h1, h2, fun e => (by cases e), s.at'⟩

theorem make_A {F : Nat → Prop} {a : Option Addr} {c : Nat} {xs : List Srv} (w : World) (hg : Gl w) (h : Sv w F a xs.length c xs) (hF : ∀ k, F k → k < w.heap.size) :
    Calls Tryz.prog 25 #[.slice a xs.length c] w fun e w' => ∃ a0 a1, e = .returned (.tuple #[.agg #[.slice a0 (tP xs).length (tP xs).length, .slice a1 (tC xs).length (tC xs).length], .int .i64 (tE xs)]) ∧ Tq w' w.heap.size w'.heap.size a0 (tP xs).length a1 (tC xs).length (tP xs) (tC xs) ∧ Wq w' w.heap.size w'.heap.size a0 a1 (tP xs).length (tC xs).length ∧ Kept No w w' := by
  unfold tP tC tE
  cases ht : timF xs xs.length with
  | none =>
    refine (make_yes w hg h hF ht).mono ?_
    rintro e w' ⟨g0, g1, rfl, p0, p1, hne, hk⟩
    have l0 := p0.tb (Nat.le_refl _) (by have := Rule.runsOf_le (Rule.occ (sys xs)) 0 (hyp xs); have := (vd_of ht).hyp2; omega)
    have l1 := p1.tb (Nat.le_refl _) (by have := Rule.runsOf_le (Rule.occ (sys xs)) (hyp xs) (hyp xs); have := (vd_of ht).hyp2; omega)
    refine ⟨_, _, rfl, ⟨l0, l1⟩, ⟨p0.rs, p1.rs, fun k e => ?_, fun k e => ?_, fun k e e' => ?_⟩, hk⟩
    · injection e with e; injection e with e _ _; subst e; exact ⟨p0.lo, p0.hi⟩
    · injection e with e; injection e with e _ _; subst e; exact ⟨p1.lo, p1.hi⟩
    · injection e with e; injection e with e _ _; subst e
      injection e' with e'; injection e' with e' _ _; exact hne e'.symm
  | some p =>
    refine (make_no w hg h ht).mono ?_
    rintro e w' ⟨rfl, hk⟩
    exact ⟨none, none, rfl, ⟨sl_nil _ _, sl_nil _ _⟩, ⟨⟨_, rs_nil _⟩, ⟨_, rs_nil _⟩, fun k e => (by cases e), fun k e => (by cases e), fun k e => (by cases e)⟩, hk⟩

end Go.Proofs.YtkmpgcgdamcikaaGreatDoor
