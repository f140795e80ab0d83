/-
  One text: Marks, MarksI, Turned, SameW, Held3, StepsW.
-/
import Derived.Test.YtijeaonldhccmaaDoorHangsP
import Derived.Test.YtijeaonldhccmaaDoorCalls
import Derived.Deep.DeepCutAuto
import Derived.Deep.Cut
import Derived.BigQuiet
import Derived.Deep.QuietTactic
import Derived.Test.YtijeaonldhccmaaDoorRunP
import Derived.Test.YtijeaonldhccmaaDoorRefEG
import Derived.Test.YtijeaonldhccmaaDoorMac
import Derived.WalkSmall
namespace Go.Proofs.YtijeaonldhccmaaDoor
open Go.RowKit
set_option linter.unusedVariables false

def mk7 (j : Nat) : List Int := List.replicate j 777
theorem mk7_succ (j : Nat) : mk7 (j + 1) = mk7 j ++ [777] := by unfold mk7; rw [List.replicate_succ']
def ins77 : Ins := ⟨77, 0, 0, 0, 0⟩
def mkI (j : Nat) : List Ins := List.replicate j ins77
theorem mkI_succ (j : Nat) : mkI (j + 1) = mkI j ++ [ins77] := by unfold mkI; rw [List.replicate_succ']

set_option maxHeartbeats 2000000 in
theorem words_any (G : Nat → Prop) (a : Option Addr) (n c : Nat) (xs : List Int) (w : World) (h : Zs w G a n c xs) (hn : n ≤ 17592186043904) :
    Calls Tryd.prog 20 #[.slice a n c] w fun ex w' => ∃ g cap, ex = .returned (.slice (some ⟨g, 0, none⟩) (n + 64) cap) ∧ w'.ownsRow w.heap.size 2 1 (.slice (some ⟨g, 0, none⟩) (n + 64) cap) (n + 64) ((xs ++ mk7 64).map iv) ∧ Below w.heap.size w w' := by
  obtain ⟨i0, hi, hz0, hz1, hz2⟩ := info_parts infoW
  have hl := h.len
  have HL : Hid (xs.length = n) := hl
  have HB : Hid (Zs w G a n c xs) := h
  clear h hl
  go_enter Tryd.func20, Tryd.ntmps20
  go_upto_region 2 with fail
  go_cut [3] (fun l wx => wx.ownsRow w.heap.size 2 1 l n (xs.map iv) ∧ Below w.heap.size w wx)
  case first =>
    cases a with
    | none =>
      have hc0 := HB.out.nil rfl
      have hn0 : n = 0 := by have := HB.out.cap; omega
      have hx0 : xs = [] := List.eq_nil_of_length_eq_zero (by rw [HL.out]; exact hn0)
      subst hc0 hn0 hx0
      go_wp2_with (at_builtin; refine wpList_append_own_none rfl (.tmp 5) (.tmp 6) 34 rfl w.heap.size 2 i0 1 Tryd.underlying34 hi _ _ _ rfl (World.ownsRow_nil _ _ _ _) rfl ?_)
      go_meet
      case rel => exact ⟨World.ownsRow_nil _ _ _ _, Below.refl _ _⟩
    | some ad =>
      go_wp2_with (at_builtin; refine wpList_append_own _ rfl _ _ 34 rfl w.heap.size 2 i0 (.int .i64 0) 1 8 Tryd.underlying34 hi hz0 hz1 hz2 rfl (by decide) _ 0 [] rfl (World.ownsRow_nil _ _ _ _) ad n c (xs.map iv) rfl (by rw [List.length_map, HL.out]; omega) HB.out.news (iv_one _) (by unfold maxLen; omega) (by omega) (Nat.le_refl _) ?_; intro v1 w1 own1 grow1 _)
      have hb1 : Below w.heap.size w w1 := (Below.refl _ _).grown grow1 (Nat.le_refl _) (fun k hk => by cases hk)
      rw [Nat.zero_add, List.nil_append] at own1
      clear grow1
      go_wp2
      go_meet
      case rel => exact ⟨own1, hb1⟩
  case rest =>
    obtain ⟨hown, hbel⟩ := hcut
    have OWN : Hid (wc.ownsRow w.heap.size 2 1 u3 n (xs.map iv)) := hown
    have BEL : Hid (Below w.heap.size w wc) := hbel
    clear hown hbel
    go_wp2
    go_loopw [3, 4] (fun l i wr => ∃ j : Nat, j ≤ 64 ∧ i = .int .i64 j ∧ wr.ownsRow w.heap.size 2 1 l (n + j) ((xs ++ mk7 j).map iv) ∧ Below w.heap.size w wr) (fun _ i _ => 64 - (intOf i).toNat)
    case atStart => exact ⟨0, by omega, rfl, by simpa [mk7] using OWN.out, BEL.out⟩
    case round =>
      obtain ⟨j, hj, rfl, hown, hbel⟩ := hrel
      have HOW : Hid (wr.ownsRow w.heap.size 2 1 u3 (n + j) ((xs ++ mk7 j).map iv)) := hown
      have hs := hbel.size
      have HBE : Hid (Below w.heap.size w wr) := hbel
      by_cases hlt : j < 64
      · clear hown hbel
        go_wp2_with (at_builtin; refine wpList_append_own _ rfl _ _ 34 rfl w.heap.size 2 i0 (.int .i64 0) 1 8 Tryd.underlying34 hi hz0 hz1 hz2 rfl (by decide) _ _ _ rfl (HOW.out.alloc _) ⟨wr.heap.size, 0, none⟩ 1 1 [.int .i64 777] rfl rfl (cell_one_new _ _ _) (one_one _ _) (by unfold maxLen; omega) (by omega) (by simp; omega) ?_; intro v1 w1 own1 grow1 _)
        have hb1 : Below w.heap.size w w1 := (HBE.out.alloc hs _).grown grow1 (by simp; omega) (fun k hk => (HOW.out.lt k hk).1)
        have own2 : w1.ownsRow w.heap.size 2 1 v1 (n + (j + 1)) ((xs ++ mk7 (j + 1)).map iv) := by
          rw [mk7_succ, ← List.append_assoc, List.map_append]; exact own1
        clear grow1 own1
        go_wp2
        go_roundw
        case rel => exact ⟨j + 1, by omega, by go_num, own2, hb1⟩
        case measure => simp [intOf]; omega
      · have hj70 : j = 64 := by omega
        subst hj70
        rcases owns_cells hown with ⟨_, h0⟩ | ⟨g, cap, rfl, hg1, hg2, hcap, hmax, _, _⟩
        · omega
        · have hmax2 : cap ≤ 9223372036854775807 := hmax
          clear hown hbel hmax
          go_wp2
          go_ret
          exact ⟨g, cap, rfl, HOW.out, HBE.out⟩

end Go.Proofs.YtijeaonldhccmaaDoor

namespace Go.Proofs.YtijeaonldhccmaaDoor
open Go.RowKit
set_option linter.unusedVariables false

set_option maxHeartbeats 2000000 in
theorem instrs_any (G : Nat → Prop) (a : Option Addr) (n c : Nat) (xs : List Ins) (w : World) (h : Cs w G a n c xs) (hn : n ≤ 17592186043904) :
    Calls Tryd.prog 19 #[.slice a n c] w fun ex w' => ∃ g cap, ex = .returned (.slice (some ⟨g, 0, none⟩) (n + 64) cap) ∧ w'.ownsRow w.heap.size 30 5 (.slice (some ⟨g, 0, none⟩) (n + 64) cap) (n + 64) (icL (xs ++ mkI 64)) ∧ Below w.heap.size w w' := by
  obtain ⟨i0, hi, hz0, hz1, hz2⟩ := info_parts infoI
  have hl := h.len
  have HL : Hid (xs.length = n) := hl
  have HB : Hid (Cs w G a n c xs) := h
  clear h hl
  go_enter Tryd.func19, Tryd.ntmps19
  go_upto_region 2 with fail
  go_cut [3] (fun l wx => wx.ownsRow w.heap.size 30 5 l n (icL xs) ∧ Below w.heap.size w wx)
  case first =>
    cases a with
    | none =>
      have hc0 := HB.out.nil rfl
      have hn0 : n = 0 := by have := HB.out.cap; omega
      have hx0 : xs = [] := List.eq_nil_of_length_eq_zero (by rw [HL.out]; exact hn0)
      subst hc0 hn0 hx0
      go_wp2_with (at_builtin; refine wpList_append_own_none rfl (.tmp 5) (.tmp 6) 31 rfl w.heap.size 30 i0 5 Tryd.underlying31 hi _ _ _ rfl (World.ownsRow_nil _ _ _ _) rfl ?_)
      go_meet
      case rel => exact ⟨World.ownsRow_nil _ _ _ _, Below.refl _ _⟩
    | some ad =>
      go_wp2_with (at_builtin; refine wpList_append_own _ rfl _ _ 31 rfl w.heap.size 30 i0 _ 5 8 Tryd.underlying31 hi hz0 hz1 hz2 rfl (by decide) _ 0 [] rfl (World.ownsRow_nil _ _ _ _) ad n c (icL xs) rfl (by rw [icL_length, HL.out]) HB.out.news (icL_cells _) (by unfold maxLen; omega) (by omega) (Nat.le_refl _) ?_; intro v1 w1 own1 grow1 _)
      have hb1 : Below w.heap.size w w1 := (Below.refl _ _).grown grow1 (Nat.le_refl _) (fun k hk => by cases hk)
      rw [Nat.zero_add, List.nil_append] at own1
      clear grow1
      go_wp2
      go_meet
      case rel => exact ⟨own1, hb1⟩
  case rest =>
    obtain ⟨hown, hbel⟩ := hcut
    have OWN : Hid (wc.ownsRow w.heap.size 30 5 u3 n (icL xs)) := hown
    have BEL : Hid (Below w.heap.size w wc) := hbel
    clear hown hbel
    go_wp2
    go_loopw [3, 4] (fun l i wr => ∃ j : Nat, j ≤ 64 ∧ i = .int .i64 j ∧ wr.ownsRow w.heap.size 30 5 l (n + j) (icL (xs ++ mkI j)) ∧ Below w.heap.size w wr) (fun _ i _ => 64 - (intOf i).toNat)
    case atStart => exact ⟨0, by omega, rfl, by simpa [mkI] using OWN.out, BEL.out⟩
    case round =>
      obtain ⟨j, hj, rfl, hown, hbel⟩ := hrel
      have HOW : Hid (wr.ownsRow w.heap.size 30 5 u3 (n + j) (icL (xs ++ mkI j))) := hown
      have hs := hbel.size
      have HBE : Hid (Below w.heap.size w wr) := hbel
      by_cases hlt : j < 64
      · clear hown hbel
        go_wp2_with (at_builtin; refine wpList_append_own _ rfl _ _ 31 rfl w.heap.size 30 i0 _ 5 8 Tryd.underlying31 hi hz0 hz1 hz2 rfl (by decide) _ _ _ rfl (HOW.out.alloc _) ⟨wr.heap.size, 0, none⟩ 1 1 (ic ins77) rfl rfl (new_five _ ins77) (ic_one _) (by unfold maxLen; omega) (by omega) (by simp; omega) ?_; intro v1 w1 own1 grow1 _)
        have hb1 : Below w.heap.size w w1 := (HBE.out.alloc hs _).grown grow1 (by simp; omega) (fun k hk => (HOW.out.lt k hk).1)
        have own2 : w1.ownsRow w.heap.size 30 5 v1 (n + (j + 1)) (icL (xs ++ mkI (j + 1))) := by
          rw [mkI_succ, ← List.append_assoc, icL_append, icL_one]; exact own1
        clear grow1 own1
        go_wp2
        go_roundw
        case rel => exact ⟨j + 1, by omega, by go_num, own2, hb1⟩
        case measure => simp [intOf]; omega
      · have hj70 : j = 64 := by omega
        subst hj70
        rcases owns_cells5 hown with ⟨_, h0⟩ | ⟨g, cap, rfl, hg1, hg2, hcap, hmax, _, _⟩
        · omega
        · have hmax2 : cap ≤ 9223372036854775807 := hmax
          clear hown hbel hmax
          go_wp2
          go_ret
          exact ⟨g, cap, rfl, HOW.out, HBE.out⟩


theorem run_neqIns (w : World) (o a b c n : Int) : (binOp .neq 30 (.agg #[.int .u8 o, .int .u8 a, .int .u8 b, .int .u8 c, .int .i32 n]) (.agg #[.int .u8 o, .int .u8 a, .int .u8 b, .int .u8 c, .int .i32 n])).run Tryd.prog w = .ok (.bool false) w := by
  simp [go_sem]

set_option maxHeartbeats 1000000 in
theorem sameCode_eq (F G : Nat → Prop) (a a' : Option Addr) (n c c' : Nat) (xs : List Ins) (w : World) (hx : Cs w F a n c xs) (hy : Cs w G a' n c' xs) :
    Calls Tryd.prog 22 #[.slice a n c, .slice a' n c'] w fun ex w' => ex = .returned (.bool true) ∧ ∃ k, w' = w.drewN k := by
  have hcx := hx.cap
  have hcy := hy.cap
  have hmx := hx.max
  have HX : Hid (Cs w F a n c xs) := hx
  have HY : Hid (Cs w G a' n c' xs) := hy
  clear hx hy
  go_enter Tryd.func22, Tryd.ntmps22
  go_wp2
  go_loopw [5] (fun i wr => ∃ k : Nat, k ≤ n ∧ i = .int .i64 k ∧ ∃ q, wr = w.drewN q) (fun i _ => n - (intOf i).toNat)
  case atStart => exact ⟨0, by omega, rfl, 0, rfl⟩
  case round =>
    obtain ⟨k, hk, rfl, q, rfl⟩ := hrel
    by_cases hlt : k < n
    · obtain ⟨b, o, rfl, x0, x1, x2, x3, x4⟩ := HX.out.at5 hlt
      obtain ⟨b', o', rfl, y0, y1, y2, y3, y4⟩ := HY.out.at5 hlt
      generalize xs.getD k ins0 = x at x0 x1 x2 x3 x4 y0 y1 y2 y3 y4
      go_wp2
      go_quiet (fail)
      go_wp2
      go_roundw
      case rel => exact ⟨k + 1, by omega, by go_num, _, rfl⟩
      case measure => simp [intOf]; omega
    · have hkn : k = n := by omega
      subst hkn
      go_wp2
      go_ret
      exact ⟨rfl, q, rfl⟩

end Go.Proofs.YtijeaonldhccmaaDoor

namespace Go.Proofs.YtijeaonldhccmaaDoor
open Go.RowKit
set_option linter.unusedVariables false

theorem icL_set : ∀ (L : List Ins) (i : Nat) (x : Ins), i < L.length → (((((icL L).set (i * 5) (.int .u8 x.o)).set (i * 5 + 1) (.int .u8 x.a)).set (i * 5 + 2) (.int .u8 x.b)).set (i * 5 + 3) (.int .u8 x.c)).set (i * 5 + 4) (.int .i32 x.n) = icL (L.set i x)
  | [], i, x, h => by simp at h
  | y :: L, 0, x, h => by simp [icL_cons, ic]
  | y :: L, i + 1, x, h => by
    have ih := icL_set L i x (by simpa using h)
    have e : ∀ t (l : List Value) v, (ic y ++ l).set ((i + 1) * 5 + t) v = ic y ++ l.set (i * 5 + t) v := by
      intro t l v
      rw [List.set_append_right _ _ (by show 5 ≤ _; omega)]
      congr 2
      show (i + 1) * 5 + t - 5 = _
      omega
    have e0 : ∀ (l : List Value) v, (ic y ++ l).set ((i + 1) * 5) v = ic y ++ l.set (i * 5) v := fun l v => e 0 l v
    rw [icL_cons, e0, e 1, e 2, e 3, e 4, ih, List.set_cons_succ, icL_cons]

/-- an instruction laid into a row -/
def lay5 (w : World) (g i : Nat) (x : Ins) : World :=
  ((((w.setCell ⟨g, i * 5, none⟩ (.int .u8 x.o)).setCell ⟨g, i * 5 + 1, none⟩ (.int .u8 x.a)).setCell ⟨g, i * 5 + 2, none⟩ (.int .u8 x.b)).setCell ⟨g, i * 5 + 3, none⟩ (.int .u8 x.c)).setCell ⟨g, i * 5 + 4, none⟩ (.int .i32 x.n)
theorem owns_lay5 {w : World} {B g n cap i : Nat} {L : List Ins} (h : w.ownsRow B 30 5 (.slice (some ⟨g, 0, none⟩) n cap) n (icL L)) (hi : i < L.length) (x : Ins) : (lay5 w g i x).ownsRow B 30 5 (.slice (some ⟨g, 0, none⟩) n cap) n (icL (L.set i x)) := by
  obtain ⟨hl, ⟨h0, _⟩ | ⟨g', cap', cur, hv, hb, hg, hn, hm, hs, ht⟩⟩ := h
  · cases h0
  · injection hv with h1 h2 h3
    injection h1 with h1
    injection h1 with h1 _ _
    subst h1 h3
    refine ⟨by rw [icL_length] at hl ⊢; rw [List.length_set]; exact hl, .inr ⟨g, cap, ((((cur.setIfInBounds (i * 5) (.int .u8 x.o)).setIfInBounds (i * 5 + 1) (.int .u8 x.a)).setIfInBounds (i * 5 + 2) (.int .u8 x.b)).setIfInBounds (i * 5 + 3) (.int .u8 x.c)).setIfInBounds (i * 5 + 4) (.int .i32 x.n), rfl, hb, ?_, hn, hm, by simpa using hs, ?_⟩⟩
    · unfold lay5
      exact heap_setCell_eq (heap_setCell_eq (heap_setCell_eq (heap_setCell_eq (heap_setCell_eq hg _) _) _) _) _
    · simp only [Array.toList_setIfInBounds, List.take_set, ht]
      exact icL_set L i x hi
theorem kept_lay5 (w : World) (g i : Nat) (x : Ins) : Kept (fun k => k = g) w (lay5 w g i x) :=
  (((((Kept.refl (fun k => k = g) w).setCell (p := ⟨g, i * 5, none⟩) (.inl rfl) _).setCell (p := ⟨g, i * 5 + 1, none⟩) (.inl rfl) _).setCell (p := ⟨g, i * 5 + 2, none⟩) (.inl rfl) _).setCell (p := ⟨g, i * 5 + 3, none⟩) (.inl rfl) _).setCell (p := ⟨g, i * 5 + 4, none⟩) (.inl rfl) _

structure Tn (w0 w : World) (g cap n gm capm mn : Nat) : Prop where
  kept : Kept (fun k => k = g ∨ k = gm) w0 w
  code : ∃ L : List Ins, L.length = n ∧ (∀ x ∈ L, x.ok) ∧ w.ownsRow 0 30 5 (.slice (some ⟨g, 0, none⟩) n cap) n (icL L)
  mem : ∃ K : List Int, K.length = mn ∧ w.ownsRow 0 2 1 (.slice (some ⟨gm, 0, none⟩) mn capm) mn (K.map iv)
theorem row5 {w : World} {g cap n : Nat} {L : List Ins} (h : w.ownsRow 0 30 5 (.slice (some ⟨g, 0, none⟩) n cap) n (icL L)) {i : Nat} (hi : i < L.length) :
    w.cell? ⟨g, i * 5, none⟩ = some (.int .u8 (L.getD i ins0).o) ∧ w.cell? ⟨g, i * 5 + 1, none⟩ = some (.int .u8 (L.getD i ins0).a) ∧ w.cell? ⟨g, i * 5 + 2, none⟩ = some (.int .u8 (L.getD i ins0).b) ∧ w.cell? ⟨g, i * 5 + 3, none⟩ = some (.int .u8 (L.getD i ins0).c) ∧ w.cell? ⟨g, i * 5 + 4, none⟩ = some (.int .i32 (L.getD i ins0).n) ∧ ∀ k, w.frozen? ⟨g, k, none⟩ = false := by
  rcases owns_cells5 h with ⟨h0, _⟩ | ⟨g', cap', hv, hb, hg, hn2, hm, hc, hf⟩
  · cases h0
  · injection hv with h1 h2 h3
    injection h1 with h1
    injection h1 with h1 _ _
    subst h1
    exact ⟨hc (i * 5 + 0) _ (icL_at L i 0 hi (by decide)), hc (i * 5 + 1) _ (icL_at L i 1 hi (by decide)), hc (i * 5 + 2) _ (icL_at L i 2 hi (by decide)), hc (i * 5 + 3) _ (icL_at L i 3 hi (by decide)), hc (i * 5 + 4) _ (icL_at L i 4 hi (by decide)), hf⟩

set_option maxHeartbeats 2000000 in
set_option maxRecDepth 100000 in
theorem turned_any (g cap n0 n gm capm m0 mn : Nat) (hn : n ≤ n0) (hmn : mn ≤ m0) (hcap : n0 ≤ cap) (hcapm : m0 ≤ capm) (hmx : cap ≤ 9223372036854775807) (hmxm : capm ≤ 9223372036854775807) (w : World) (hg : g < w.heap.size) (hgm : gm < w.heap.size) (hne : g ≠ gm) (h : Tn w w g cap n0 gm capm m0) :
    Calls Tryd.prog 23 #[.slice (some ⟨g, 0, none⟩) n cap, .slice (some ⟨gm, 0, none⟩) mn capm] w fun ex w' => ex = .returned (.tuple #[]) ∧ Tn w w' g cap n0 gm capm m0 := by
  have HT : Hid (Tn w w g cap n0 gm capm m0) := h
  clear h
  go_enter Tryd.func23, Tryd.ntmps23
  go_wp2
  go_loopw [4] (fun i wr => ∃ k : Nat, k ≤ n / 2 ∧ i = .int .i64 k ∧ Tn w wr g cap n0 gm capm m0) (fun i _ => n / 2 - (intOf i).toNat)
  case atStart => exact ⟨0, by omega, rfl, HT.out⟩
  case round =>
    obtain ⟨k, hk, rfl, ht⟩ := hrel
    obtain ⟨L, hL, hok, own⟩ := ht.code
    have HTN : Hid (Tn w wr g cap n0 gm capm m0) := ht
    have hsz := ht.kept.size
    by_cases hlt : k < n / 2
    · obtain ⟨c0, c1, c2, c3, c4, hf⟩ := row5 own (i := k) (by omega)
      have OWN : Hid (wr.ownsRow 0 30 5 (.slice (some ⟨g, 0, none⟩) n0 cap) n0 (icL L)) := own
      have HOK : Hid (∀ x ∈ L, x.ok) := hok
      have HLL : Hid (L.length = n0) := hL
      have okx : (L.getD k ins0).ok := HOK.out _ (by rw [List.getD_eq_getElem?_getD, List.getElem?_eq_getElem (by omega)]; exact List.getElem_mem _)
      have oky : (L.getD (n - 1 - k) ins0).ok := HOK.out _ (by rw [List.getD_eq_getElem?_getD, List.getElem?_eq_getElem (by omega)]; exact List.getElem_mem _)
      obtain ⟨x, hx⟩ : ∃ x, x = L.getD k ins0 := ⟨_, rfl⟩
      obtain ⟨y, hy⟩ : ∃ y, y = L.getD (n - 1 - k) ins0 := ⟨_, rfl⟩
      rw [← hx] at c0 c1 c2 c3 c4 okx
      rw [← hy] at oky
      have OX : Hid (x.ok ∧ y.ok) := ⟨okx, oky⟩
      have HY : Hid (y = L.getD (n - 1 - k) ins0) := hy
      clear own hok hL ht hx okx oky hy
      go_upto_region 4 with fail
      obtain ⟨j, hj⟩ : ∃ j : Nat, n - 1 - k = j := ⟨_, rfl⟩
      have hji : (n : Int) - 1 - (k : Int) = (j : Int) := by omega
      have hjn : j < n := by omega
      have own1 := OWN.out.alloc (.cells #[.int .u8 x.o, .int .u8 x.a, .int .u8 x.b, .int .u8 x.c, .int .i32 x.n] 30)
      have X1 := heap_alloc_last wr (.cells #[.int .u8 x.o, .int .u8 x.a, .int .u8 x.b, .int .u8 x.c, .int .i32 x.n] 30)
      have K1 : Kept (fun k => k = g ∨ k = gm) wr (wr.alloc (.cells #[.int .u8 x.o, .int .u8 x.a, .int .u8 x.b, .int .u8 x.c, .int .i32 x.n] 30)) := (Kept.refl _ wr).alloc _
      have hq : wr.heap.size ≠ g := by omega
      have HALL : Hid (∀ i, i < wr.heap.size → (wr.alloc (.cells #[.int .u8 x.o, .int .u8 x.a, .int .u8 x.b, .int .u8 x.c, .int .i32 x.n] 30)).heap[i]? = wr.heap[i]?) := (fun i hi => Below.heap_alloc _ _ _ hi)
      clear c0 c1 c2 c3 c4 hf
      generalize wr.alloc (.cells #[.int .u8 x.o, .int .u8 x.a, .int .u8 x.b, .int .u8 x.c, .int .i32 x.n] 30) = w1 at own1 X1 K1 HALL ⊢
      generalize hqq : wr.heap.size = q at X1 hq ⊢
      have HQQ : Hid (wr.heap.size = q) := hqq
      clear hqq
      obtain ⟨c0, c1, c2, c3, c4, hf⟩ := row5 own1 (i := k) (by rw [HLL.out]; omega)
      obtain ⟨d0, d1, d2, d3, d4, _⟩ := row5 own1 (i := j) (by rw [HLL.out]; omega)
      rw [← hj, ← HY.out, hj] at d0 d1 d2 d3 d4
      have OWN2 : Hid ((((((w1.setCell ⟨g, k * 5, none⟩ (.int .u8 y.o)).setCell ⟨g, k * 5 + 1, none⟩ (.int .u8 y.a)).setCell ⟨g, k * 5 + 2, none⟩ (.int .u8 y.b)).setCell ⟨g, k * 5 + 3, none⟩ (.int .u8 y.c)).setCell ⟨g, k * 5 + 4, none⟩ (.int .i32 y.n)).ownsRow 0 30 5 (.slice (some ⟨g, 0, none⟩) n0 cap) n0 (icL (L.set k y))) := owns_lay5 own1 (by rw [HLL.out]; omega) y
      have K2 : Hid (Kept (fun k => k = g) w1 (((((w1.setCell ⟨g, k * 5, none⟩ (.int .u8 y.o)).setCell ⟨g, k * 5 + 1, none⟩ (.int .u8 y.a)).setCell ⟨g, k * 5 + 2, none⟩ (.int .u8 y.b)).setCell ⟨g, k * 5 + 3, none⟩ (.int .u8 y.c)).setCell ⟨g, k * 5 + 4, none⟩ (.int .i32 y.n))) := kept_lay5 w1 g k y
      clear hj HY
      go_upto_region 5 with fail
      generalize ((((w1.setCell ⟨g, k * 5, none⟩ (.int .u8 y.o)).setCell ⟨g, k * 5 + 1, none⟩ (.int .u8 y.a)).setCell ⟨g, k * 5 + 2, none⟩ (.int .u8 y.b)).setCell ⟨g, k * 5 + 3, none⟩ (.int .u8 y.c)).setCell ⟨g, k * 5 + 4, none⟩ (.int .i32 y.n) = w2 at OWN2 K2 ⊢
      clear c0 c1 c2 c3 c4 hf d0 d1 d2 d3 d4
      have X2 := K2.out.at' X1 hq
      obtain ⟨x0, x1, x2, x3, x4⟩ := cellsX X2
      obtain ⟨d0, d1, d2, d3, d4, hf⟩ := row5 OWN2.out (i := j) (by rw [List.length_set, HLL.out]; omega)
      have OWN3 : Hid ((((((w2.setCell ⟨g, j * 5, none⟩ (.int .u8 x.o)).setCell ⟨g, j * 5 + 1, none⟩ (.int .u8 x.a)).setCell ⟨g, j * 5 + 2, none⟩ (.int .u8 x.b)).setCell ⟨g, j * 5 + 3, none⟩ (.int .u8 x.c)).setCell ⟨g, j * 5 + 4, none⟩ (.int .i32 x.n)).ownsRow 0 30 5 (.slice (some ⟨g, 0, none⟩) n0 cap) n0 (icL ((L.set k y).set j x))) := owns_lay5 OWN2.out (by rw [List.length_set, HLL.out]; omega) x
      have K3 : Hid (Kept (fun k => k = g) w2 (((((w2.setCell ⟨g, j * 5, none⟩ (.int .u8 x.o)).setCell ⟨g, j * 5 + 1, none⟩ (.int .u8 x.a)).setCell ⟨g, j * 5 + 2, none⟩ (.int .u8 x.b)).setCell ⟨g, j * 5 + 3, none⟩ (.int .u8 x.c)).setCell ⟨g, j * 5 + 4, none⟩ (.int .i32 x.n))) := kept_lay5 w2 g j x
      have HTN3 : Hid (Tn w (((((w2.setCell ⟨g, j * 5, none⟩ (.int .u8 x.o)).setCell ⟨g, j * 5 + 1, none⟩ (.int .u8 x.a)).setCell ⟨g, j * 5 + 2, none⟩ (.int .u8 x.b)).setCell ⟨g, j * 5 + 3, none⟩ (.int .u8 x.c)).setCell ⟨g, j * 5 + 4, none⟩ (.int .i32 x.n)) g cap n0 gm capm m0) := by
        have kk := ((K1.trans K2.out (fun k e => .inl (.inl e))).trans K3.out (fun k e => .inl (.inl e)))
        obtain ⟨K, hK, ownm⟩ := HTN.out.mem
        refine ⟨HTN.out.kept.trans kk (fun k e => .inl e), ⟨(L.set k y).set j x, by rw [List.length_set, List.length_set]; exact HLL.out, ?_, OWN3.out⟩, ⟨K, hK, ?_⟩⟩
        · intro z hz
          rcases List.mem_or_eq_of_mem_set hz with h | h
          · rcases List.mem_or_eq_of_mem_set h with h | h
            · exact HOK.out z h
            · subst h; exact OX.out.2
          · subst h; exact OX.out.1
        · have k2 : Kept (fun k => k = g) wr (((((w2.setCell ⟨g, j * 5, none⟩ (.int .u8 x.o)).setCell ⟨g, j * 5 + 1, none⟩ (.int .u8 x.a)).setCell ⟨g, j * 5 + 2, none⟩ (.int .u8 x.b)).setCell ⟨g, j * 5 + 3, none⟩ (.int .u8 x.c)).setCell ⟨g, j * 5 + 4, none⟩ (.int .i32 x.n)) := ⟨kk.os, kk.tape, kk.output, kk.size, fun i hi hn => ?_⟩
          · exact k2.owns ownm (fun g' hg' e => by simp [Value.ownBlock] at hg'; omega)
          · have h1 : w1.heap[i]? = wr.heap[i]? := HALL.out i hi
            exact ((K3.out.block i (Nat.lt_of_lt_of_le hi (Nat.le_trans K1.size K2.out.size)) hn).trans (K2.out.block i (Nat.lt_of_lt_of_le hi K1.size) hn)).trans h1
      clear OWN3 K3
      go_wp2
      go_roundw
      case rel => exact ⟨k + 1, by omega, by go_num, HTN3.out⟩
      case measure => simp [intOf]; omega
    · have hkn : k = n / 2 := by omega
      subst hkn
      clear ht own
      go_wp2
      go_loopw [6] (fun i wr => ∃ k : Nat, k ≤ mn ∧ i = .int .i64 k ∧ Tn w wr g cap n0 gm capm m0) (fun i _ => mn - (intOf i).toNat)
      case atStart => exact ⟨0, by omega, rfl, HTN.out⟩
      case round =>
        obtain ⟨k, hk2, rfl, ht2⟩ := hrel
        have HT2 : Hid (Tn w wr g cap n0 gm capm m0) := ht2
        by_cases hlt2 : k < mn
        · obtain ⟨K, hK, ownm⟩ := ht2.mem
          obtain ⟨zz, z1⟩ := owns_ati ownm (g := gm) rfl (i := k) (by omega)
          generalize K.getD k 0 = z at zz
          have z0 : wr.cell? ⟨gm, k, none⟩ = some (.int .i64 z) := zz
          clear zz
          have HN : Hid (Tn w (wr.setCell ⟨gm, k, none⟩ (.int .i64 (wrap64 (-1 - z)))) g cap n0 gm capm m0) := by
            have kk : Kept (fun k => k = gm) wr (wr.setCell ⟨gm, k, none⟩ (.int .i64 (wrap64 (-1 - z)))) := Kept.setCell (p := ⟨gm, k, none⟩) (Kept.refl (fun k => k = gm) wr) (.inl rfl) _
            obtain ⟨L, hL, hok, own⟩ := HT2.out.code
            exact ⟨HT2.out.kept.trans kk (fun k e => .inl (.inr e)), ⟨L, hL, hok, kk.owns own (fun g' hg' e => by simp [Value.ownBlock] at hg'; omega)⟩, ⟨K.set k (wrap64 (-1 - z)), by rw [List.length_set]; exact hK, owns_seti ownm rfl (by omega) _⟩⟩
          clear ownm ht2 hK
          go_wp2
          go_roundw
          case rel => exact ⟨k + 1, by omega, by go_num, HN.out⟩
          case measure => simp [intOf]; omega
        · have hkm : k = mn := by omega
          subst hkm
          clear ht2
          go_wp2
          refine bodyPost_end (results_none rfl _ _ _) rfl ?_
          exact ⟨rfl, HT2.out⟩

end Go.Proofs.YtijeaonldhccmaaDoor

namespace Go.Proofs.YtijeaonldhccmaaDoor
open Go.RowKit
set_option linter.unusedVariables false

theorem drewN_add (w : World) (a b : Nat) : (w.drewN a).drewN b = w.drewN (a + b) := by simp [World.drewN, Nat.add_assoc]

set_option maxHeartbeats 1000000 in
theorem same_any (F G : Nat → Prop) (a a' : Option Addr) (n n' c c' : Nat) (xs ys : List Int) (w : World) (hx : Zs w F a n c xs) (hy : Zs w G a' n' c' ys) :
    Calls Tryd.prog 18 #[.slice a n c, .slice a' n' c'] w fun ex w' => ex = .returned (.bool (decide (xs = ys))) ∧ ∃ k, w' = w.drewN k := by
  have hlx := hx.len
  have hly := hy.len
  have hcx := hx.cap
  have hcy := hy.cap
  have hmx := hx.max
  have HX : Hid (Zs w F a n c xs) := hx
  have HY : Hid (Zs w G a' n' c' ys) := hy
  clear hx hy
  by_cases hn : n = n'
  · subst hn
    go_enter Tryd.func18, Tryd.ntmps18
    go_wp2
    go_loopw [5] (fun i wr => ∃ k : Nat, k ≤ n ∧ i = .int .i64 k ∧ (∀ j, j < k → xs.getD j 0 = ys.getD j 0) ∧ ∃ q, wr = w.drewN q) (fun i _ => n - (intOf i).toNat)
    case atStart => exact ⟨0, by omega, rfl, fun j hj => by omega, 0, rfl⟩
    case round =>
      obtain ⟨k, hk, rfl, heq, q, rfl⟩ := hrel
      by_cases hlt : k < n
      · obtain ⟨b, o, rfl, _, hc1⟩ := HX.out.at' k hlt
        obtain ⟨b', o', rfl, _, hc2⟩ := HY.out.at' k hlt
        obtain ⟨x, hxx⟩ : ∃ x, x = xs.getD k 0 := ⟨_, rfl⟩
        obtain ⟨y, hyy⟩ : ∃ y, y = ys.getD k 0 := ⟨_, rfl⟩
        have d1 : w.cell? ⟨b, o + k, none⟩ = some (.int .i64 x) := by rw [hxx]; exact hc1
        have d2 : w.cell? ⟨b', o' + k, none⟩ = some (.int .i64 y) := by rw [hyy]; exact hc2
        have HE : Hid (∀ j, j < k → xs.getD j 0 = ys.getD j 0) := heq
        have HXX : Hid (x = xs.getD k 0) := hxx
        have HYY : Hid (y = ys.getD k 0) := hyy
        clear hc1 hc2 heq hxx hyy
        by_cases hxy : x = y
        · subst hxy
          go_wp2
          go_quiet (fail)
          go_wp2
          go_roundw
          case rel =>
            refine ⟨k + 1, by omega, by go_num, ?_, _, rfl⟩
            intro j hj
            by_cases hjk : j = k
            · subst hjk; rw [← HXX.out, ← HYY.out]
            · exact HE.out j (by omega)
          case measure => simp [intOf]; omega
        · have hne : (x == y) = false := by simpa using hxy
          have hf : decide (xs = ys) = false := by
            simp
            rintro rfl
            exact hxy (HXX.out.trans HYY.out.symm)
          have HF : Hid (decide (xs = ys) = false) := hf
          clear hf
          go_wp2
          go_quiet (fail)
          go_wp2
          go_ret
          exact ⟨by rw [HF.out]; rfl, _, drewN_add _ _ _⟩
      · have hkn : k = n := by omega
        subst hkn
        have ht : decide (xs = ys) = true := by
          simp
          apply List.ext_getElem (by omega)
          intro i h1 h2
          have := heq i (by omega)
          simpa [List.getD, h1, h2] using this
        have HT : Hid (decide (xs = ys) = true) := ht
        clear ht heq
        go_wp2
        go_ret
        exact ⟨by rw [HT.out]; rfl, q, rfl⟩
  · have hf : decide (xs = ys) = false := by
      simp
      rintro rfl
      omega
    rw [hf]
    clear hf
    have hnn : ((n : Int) == (n' : Int)) = false := by simp; omega
    go_enter Tryd.func18, Tryd.ntmps18
    go_wp2
    go_ret
    exact ⟨rfl, 0, rfl⟩

end Go.Proofs.YtijeaonldhccmaaDoor

namespace Go.Proofs.YtijeaonldhccmaaDoor
open Go.RowKit
set_option linter.unusedVariables false

section
variable {o : Oper} {a : Act} {w : World}
theorem er_assign (x : Operand) (ho : o.op = .assign x) : (execOp a.eval o).run Tryd.prog w = .ok (.value (a.eval x)) w := by simp only [execOp, ho]; rfl
theorem er_f36_0 (x : Operand) (ho : o.op = .fieldAddr 36 x 0) (g : Nat) (hx : a.eval x = .pointer (some ⟨g, 0, none⟩)) : (execOp a.eval o).run Tryd.prog w = .ok (.value (.pointer (some ⟨g, 0, none⟩))) w := by simp only [execOp, ho, hx]; simp [go_sem]
theorem er_f36_1 (x : Operand) (ho : o.op = .fieldAddr 36 x 1) (g : Nat) (hx : a.eval x = .pointer (some ⟨g, 0, none⟩)) : (execOp a.eval o).run Tryd.prog w = .ok (.value (.pointer (some ⟨g, 1, none⟩))) w := by simp only [execOp, ho, hx]; simp [go_sem]
theorem er_f36_2 (x : Operand) (ho : o.op = .fieldAddr 36 x 2) (g : Nat) (hx : a.eval x = .pointer (some ⟨g, 0, none⟩)) : (execOp a.eval o).run Tryd.prog w = .ok (.value (.pointer (some ⟨g, 2, none⟩))) w := by simp only [execOp, ho, hx]; simp [go_sem]
theorem er_f36_3 (x : Operand) (ho : o.op = .fieldAddr 36 x 3) (g : Nat) (hx : a.eval x = .pointer (some ⟨g, 0, none⟩)) : (execOp a.eval o).run Tryd.prog w = .ok (.value (.pointer (some ⟨g, 3, none⟩))) w := by simp only [execOp, ho, hx]; simp [go_sem]
theorem er_f36_4 (x : Operand) (ho : o.op = .fieldAddr 36 x 4) (g : Nat) (hx : a.eval x = .pointer (some ⟨g, 0, none⟩)) : (execOp a.eval o).run Tryd.prog w = .ok (.value (.pointer (some ⟨g, 19, none⟩))) w := by simp only [execOp, ho, hx]; simp [go_sem]
theorem er_len31 (x : Operand) (ho : o.op = .call { callee := .builtin .len, args := #[x], argTypes := #[31] }) (ht : o.type = 3) (p : Option Addr) (n c : Nat) (hx : a.eval x = .slice p n c) : (execOp a.eval o).run Tryd.prog w = .ok (.value (.int .i64 n)) w := by
  generalize a.eval = ev at hx ⊢
  simp [execOp, ho, ht, go_sem, hx]
theorem er_len34 (x : Operand) (ho : o.op = .call { callee := .builtin .len, args := #[x], argTypes := #[34] }) (ht : o.type = 3) (p : Option Addr) (n c : Nat) (hx : a.eval x = .slice p n c) : (execOp a.eval o).run Tryd.prog w = .ok (.value (.int .i64 n)) w := by
  generalize a.eval = ev at hx ⊢
  simp [execOp, ho, ht, go_sem, hx]
theorem er_slice31 (x y : Operand) (ho : o.op = .slice 31 x none (some y) none) (g n c k : Nat) (hk : k ≤ n) (hn : n ≤ c) (hc : c ≤ 9223372036854775807) (hx : a.eval x = .slice (some ⟨g, 0, none⟩) n c) (hy : a.eval y = .int .i64 k) : (execOp a.eval o).run Tryd.prog w = .ok (.value (.slice (some ⟨g, 0, none⟩) k c)) w := by
  have h1 : k ≤ c := Nat.le_trans hk hn
  have h2 : k ≤ 9223372036854775807 := Nat.le_trans h1 hc
  simp only [execOp, ho, Option.map_some, Option.map_none, hx, hy]; simp [go_sem, add_none]; omega
theorem er_slice34 (x y : Operand) (ho : o.op = .slice 34 x none (some y) none) (g n c k : Nat) (hk : k ≤ n) (hn : n ≤ c) (hc : c ≤ 9223372036854775807) (hx : a.eval x = .slice (some ⟨g, 0, none⟩) n c) (hy : a.eval y = .int .i64 k) : (execOp a.eval o).run Tryd.prog w = .ok (.value (.slice (some ⟨g, 0, none⟩) k c)) w := by
  have h1 : k ≤ c := Nat.le_trans hk hn
  have h2 : k ≤ 9223372036854775807 := Nat.le_trans h1 hc
  simp only [execOp, ho, Option.map_some, Option.map_none, hx, hy]; simp [go_sem, add_none]; omega
theorem er_not (x : Operand) (ho : o.op = .unOp .not 4 x) (b : Bool) (hx : a.eval x = .bool b) : (execOp a.eval o).run Tryd.prog w = .ok (.value (.bool (!b))) w := by
  simp only [execOp, ho, hx]; simp [go_sem]
theorem er_pick (c x y : Operand) (ho : o.op = .pick c x y) (hx : a.eval c = .bool false) : (execOp a.eval o).run Tryd.prog w = .ok (.value (a.eval y)) w := by
  simp only [execOp, ho, hx]; rfl
theorem er_eqE (x y : Operand) (t : TypeId) (ho : o.op = .binOp .eql 27 x y t) (E : Ef) (hx : a.eval x = E.v) (hy : a.eval y = E.v) : (execOp a.eval o).run Tryd.prog w = .ok (.value (.bool true)) w := by
  have hg : (eqGuard .eql 27 x y E.v E.v).run Tryd.prog w = .ok () w := run_eqGuard_agg w .eql 27 x y _ _ (by kernel_rfl)
  have he : (binOp .eql 27 E.v E.v).run Tryd.prog w = .ok (.bool true) w := by
    have := run_eq27 E.R E.pc E.st E.ad E.va E.fa E.ca E.R E.pc E.st E.ad E.va E.fa E.ca w
    rw [eqE_self] at this
    exact this
  simp only [execOp, ho, hx, hy, Sem.run_bind, hg, Result.andThen_ok, he]; rfl
theorem er_neE (x y : Operand) (t : TypeId) (ho : o.op = .binOp .neq 27 x y t) (E : Ef) (hx : a.eval x = E.v) (hy : a.eval y = E.v) : (execOp a.eval o).run Tryd.prog w = .ok (.value (.bool false)) w := by
  have hg : (eqGuard .neq 27 x y E.v E.v).run Tryd.prog w = .ok () w := run_eqGuard_agg w .neq 27 x y _ _ (by kernel_rfl)
  have he : (binOp .neq 27 E.v E.v).run Tryd.prog w = .ok (.bool false) w := by
    have := run_neq27 E.R E.pc E.st E.ad E.va E.fa E.ca E.R E.pc E.st E.ad E.va E.fa E.ca w
    rw [eqE_self] at this
    exact this
  simp only [execOp, ho, hx, hy, Sem.run_bind, hg, Result.andThen_ok, he]; rfl
theorem er_alloc27 (ho : o.op = .alloc 27) : (execOp a.eval o).run Tryd.prog w = .ok (.value (.pointer (some ⟨w.heap.size, 0, none⟩))) (w.alloc (.cells (effC zeroR 0 false 0 0 0 0) 27)) := by
  simp only [execOp, ho, Instr.alloc, newVar, effC, zeroR]; simp [Value.cells, go_sem]
end

section
variable {P : Program} {md : Region.Mode} {ops : Array Oper} {Q : Exit → Act → World → Prop} {S : World → Prop} {fuel : Nat} {listed : Array Bool} {a : Act} {w : World}
theorem d_callT (T : World → Prop) (i k : Nat) {oi : Oper} {f : FuncId} {args : Array Value} {v : Value} (hr : Region.ready md ops listed = [i]) (hi : ops[i]? = some oi) (hd : oi.dst = some k) (hw : Region.wanted oi (yielded ops a.tmps) = true) (hrun : (execOp a.eval oi).run P w = .ok (.enter f args) w)
    (hc : Calls P f args w fun e w'' => e = .returned v ∧ S w'' ∧ T w'') (h : ∀ w'', S w'' → T w'' → wpAnyH P md ops Q S fuel (listed.setIfInBounds i true) (a.put (some k) v) w'') : wpAnyH P md ops Q S (fuel + 1) listed a w := by
  refine wpAnyH_ready hr (by simp) (AllReadyH.cons hi (fun K hK => ?_) AllReadyH.nil)
  rw [if_pos hw]
  unfold Oper.wp
  rw [hrun]
  refine hc.mono ?_
  rintro e w'' ⟨rfl, hS, hT⟩
  exact hK.out _ _ hS (fun _ => by rw [hd]; exact h w'' hS hT)
/-- a call whose answer is new -/
theorem d_callN (T : Value → World → Prop) (i k : Nat) {oi : Oper} {f : FuncId} {args : Array Value} (hr : Region.ready md ops listed = [i]) (hi : ops[i]? = some oi) (hd : oi.dst = some k) (hw : Region.wanted oi (yielded ops a.tmps) = true) (hrun : (execOp a.eval oi).run P w = .ok (.enter f args) w)
    (hc : Calls P f args w fun e w'' => ∃ v, e = .returned v ∧ S w'' ∧ T v w'') (h : ∀ v w'', S w'' → T v w'' → wpAnyH P md ops Q S fuel (listed.setIfInBounds i true) (a.put (some k) v) w'') : wpAnyH P md ops Q S (fuel + 1) listed a w := by
  refine wpAnyH_ready hr (by simp) (AllReadyH.cons hi (fun K hK => ?_) AllReadyH.nil)
  rw [if_pos hw]
  unfold Oper.wp
  rw [hrun]
  refine hc.mono ?_
  rintro e w'' ⟨v, rfl, hS, hT⟩
  exact hK.out _ _ hS (fun _ => by rw [hd]; exact h v w'' hS hT)
theorem d_make (i k : Nat) {oi : Oper} {v : Value} {w' : World} (hr : Region.ready md ops listed = [i]) (hi : ops[i]? = some oi) (hd : oi.dst = some k) (hw : Region.wanted oi (yielded ops a.tmps) = true) (hrun : (execOp a.eval oi).run P w = .ok (.value v) w')
    (hS : S w') (h : wpAnyH P md ops Q S fuel (listed.setIfInBounds i true) (a.put (some k) v) w') : wpAnyH P md ops Q S (fuel + 1) listed a w := by
  refine wpAnyH_ready hr (by simp) (AllReadyH.cons hi (fun K hK => ?_) AllReadyH.nil)
  rw [if_pos hw]
  unfold Oper.wp
  rw [hrun]
  exact hK.out _ _ hS (fun _ => by rw [hd]; exact h)
/-- a call and a cell may come up: both orders -/
theorem d_two (T : World → Prop) (i k j l : Nat) {oi oj : Oper} {f : FuncId} {args : Array Value} {v u : Value} {w' : World} (hr : Region.ready md ops listed = [i, j]) (hi : ops[i]? = some oi) (hj : ops[j]? = some oj) (hd : oi.dst = some k) (hdj : oj.dst = some l) (hw : Region.wanted oi (yielded ops a.tmps) = true) (hwj : Region.wanted oj (yielded ops a.tmps) = true) (hrun : (execOp a.eval oi).run P w = .ok (.enter f args) w) (hrunj : (execOp a.eval oj).run P w = .ok (.value u) w')
    (hc : Calls P f args w fun e w'' => e = .returned v ∧ S w'' ∧ T w'') (hS : S w') (h : ∀ w'', S w'' → T w'' → wpAnyH P md ops Q S fuel (listed.setIfInBounds i true) (a.put (some k) v) w'') (h' : wpAnyH P md ops Q S fuel (listed.setIfInBounds j true) (a.put (some l) u) w') : wpAnyH P md ops Q S (fuel + 1) listed a w := by
  refine wpAnyH_ready hr (by simp) (AllReadyH.cons hi (fun K hK => ?_) (AllReadyH.cons hj (fun K hK => ?_) AllReadyH.nil))
  · rw [if_pos hw]
    unfold Oper.wp
    rw [hrun]
    refine hc.mono ?_
    rintro e w'' ⟨rfl, hS, hT⟩
    exact hK.out _ _ hS (fun _ => by rw [hd]; exact h w'' hS hT)
  · rw [if_pos hwj]
    unfold Oper.wp
    rw [hrunj]
    exact hK.out _ _ hS (fun _ => by rw [hdj]; exact h')
end

theorem owns0 {w : World} {B : Nat} {e : TypeId} {s : Nat} {v : Value} {n : Nat} {xs : List Value} (h : w.ownsRow B e s v n xs) : w.ownsRow 0 e s v n xs := by
  obtain ⟨hl, h0 | ⟨g, cap, cur, hv, hb, r⟩⟩ := h
  · exact ⟨hl, .inl h0⟩
  · exact ⟨hl, .inr ⟨g, cap, cur, hv, Nat.zero_le _, r⟩⟩

/-- a machine in its cell, and the law's own two lists -/
structure Sp (W w : World) (C M : Value) (fx : Int) (R : Nat → Int) (pc : Int) (g cap n gm capm mn : Nat) (L : List Ins) (K : List Int) : Prop where
  bel : Below W.heap.size W w
  mac : w.heap[W.heap.size]? = some (.cells (macC C M fx R pc) 36)
  g0 : W.heap.size < g
  g1 : W.heap.size < gm
  ne : g ≠ gm
  ll : L.length = n + 64
  kl : K.length = mn + 64
  ok : ∀ x ∈ L, x.ok
  code : w.ownsRow 0 30 5 (.slice (some ⟨g, 0, none⟩) (n + 64) cap) (n + 64) (icL L)
  mem : w.ownsRow 0 2 1 (.slice (some ⟨gm, 0, none⟩) (mn + 64) capm) (mn + 64) (K.map iv)
namespace Sp
variable {W w w' : World} {C M : Value} {fx : Int} {R : Nat → Int} {pc : Int} {g cap n gm capm mn : Nat} {L : List Ins} {K : List Int}
theorem grow (h : Sp W w C M fx R pc g cap n gm capm mn L K) (b : Below w.heap.size w w') : Sp W w' C M fx R pc g cap n gm capm mn L K :=
  ⟨h.bel.trans (b.mono h.bel.size), (b.block _ (heap_lt h.mac)).trans h.mac, h.g0, h.g1, h.ne, h.ll, h.kl, h.ok, (Kept.of_below (F := No) b).owns h.code (fun _ _ h => h), (Kept.of_below (F := No) b).owns h.mem (fun _ _ h => h)⟩
theorem drew (h : Sp W w C M fx R pc g cap n gm capm mn L K) : Sp W w.drew C M fx R pc g cap n gm capm mn L K := h.grow (Below.refl _ w).drew
theorem cs64 (h : Sp W w C M fx R pc g cap n gm capm mn L K) : Cs w (fun k => (Value.slice (some ⟨g, 0, none⟩) (n + 64) cap).ownBlock = some k) (some ⟨g, 0, none⟩) (n + 64) cap L := by
  obtain ⟨a, c, hv, hc⟩ := Cs.of_owns (by rw [h.ll]; exact h.code) h.ok
  rw [h.ll] at hv hc
  injection hv with h1 _ h3
  subst h1 h3
  exact hc
theorem zs64 (h : Sp W w C M fx R pc g cap n gm capm mn L K) : Zs w (fun k => (Value.slice (some ⟨gm, 0, none⟩) (mn + 64) capm).ownBlock = some k) (some ⟨gm, 0, none⟩) (mn + 64) capm K := by
  obtain ⟨a, c, hv, hc⟩ := Zs.of_owns (by rw [h.kl]; exact h.mem)
  rw [h.kl] at hv hc
  injection hv with h1 _ h3
  subst h1 h3
  exact hc
theorem getD_take {α : Type} (xs : List α) (n i : Nat) (d : α) (h : i < n) : (xs.take n).getD i d = xs.getD i d := by
  rw [List.getD_eq_getElem?_getD, List.getD_eq_getElem?_getD, List.getElem?_take_of_lt h]
theorem cs (h : Sp W w C M fx R pc g cap n gm capm mn L K) : Cs w (fun k => (Value.slice (some ⟨g, 0, none⟩) (n + 64) cap).ownBlock = some k) (some ⟨g, 0, none⟩) n cap (L.take n) := by
  have h0 := h.cs64
  have hc := h0.cap
  exact ⟨by rw [List.length_take, h.ll]; omega, by omega, h0.max, h0.nil, fun x hx => h0.ok x (List.mem_of_mem_take hx), fun i hi => by rw [getD_take _ _ _ _ hi]; exact h0.at' i (by omega)⟩
theorem zs (h : Sp W w C M fx R pc g cap n gm capm mn L K) : Zs w (fun k => (Value.slice (some ⟨gm, 0, none⟩) (mn + 64) capm).ownBlock = some k) (some ⟨gm, 0, none⟩) mn capm (K.take mn) := by
  have h0 := h.zs64
  have hc := h0.cap
  exact ⟨by rw [List.length_take, h.kl]; omega, by omega, h0.max, h0.nil, fun i hi => by rw [getD_take _ _ _ _ hi]; exact h0.at' i (by omega)⟩
end Sp
end Go.Proofs.YtijeaonldhccmaaDoor

namespace Go.Proofs.YtijeaonldhccmaaDoor
open Go.RowKit
set_option linter.unusedVariables false

theorem Sp.lts {W w : World} {C M : Value} {fx : Int} {R : Nat → Int} {pc : Int} {g cap n gm capm mn : Nat} {L : List Ins} {K : List Int} (h : Sp W w C M fx R pc g cap n gm capm mn L K) : W.heap.size < w.heap.size ∧ g < w.heap.size ∧ gm < w.heap.size :=
  ⟨heap_lt h.mac, (h.code.lt g rfl).2, (h.mem.lt gm rfl).2⟩
theorem Sp.store {W w : World} {C M : Value} {fx : Int} {R : Nat → Int} {pc : Int} {g cap n gm capm mn : Nat} {L : List Ins} {K : List Int} (h : Sp W w C M fx R pc g cap n gm capm mn L K) {q : Nat} (h0 : W.heap.size < q) (h1 : q ≠ g) (h2 : q ≠ gm) (cs : Array Value) : Sp W (w.setRow q cs) C M fx R pc g cap n gm capm mn L K := by
  have k := kept_setRow w q cs
  exact ⟨⟨h.bel.os, h.bel.tape, h.bel.output, by simpa [World.setRow] using h.bel.size, fun i hi => (setRow_other _ _ _ _ (by omega)).trans (h.bel.block i hi)⟩, (setRow_other _ _ _ _ (by omega)).trans h.mac, h.g0, h.g1, h.ne, h.ll, h.kl, h.ok, k.owns h.code (fun k hk e => by simp [Value.ownBlock] at hk; omega), k.owns h.mem (fun k hk e => by simp [Value.ownBlock] at hk; omega)⟩
theorem Sp.tn {W w : World} {C M : Value} {fx : Int} {R : Nat → Int} {pc : Int} {g cap n gm capm mn : Nat} {L : List Ins} {K : List Int} (h : Sp W w C M fx R pc g cap n gm capm mn L K) : Tn w w g cap (n + 64) gm capm (mn + 64) :=
  ⟨Kept.refl _ w, ⟨L, h.ll, h.ok, h.code⟩, ⟨K, h.kl, h.mem⟩⟩
theorem Sp.turn {W w w' : World} {C M : Value} {fx : Int} {R : Nat → Int} {pc : Int} {g cap n gm capm mn : Nat} {L : List Ins} {K : List Int} (h : Sp W w C M fx R pc g cap n gm capm mn L K) (t : Tn w w' g cap (n + 64) gm capm (mn + 64)) : ∃ L' K', Sp W w' C M fx R pc g cap n gm capm mn L' K' := by
  obtain ⟨L', hl, hok, hc⟩ := t.code
  obtain ⟨K', hk, hm⟩ := t.mem
  have k := t.kept
  have h0 := h.g0
  have h1 := h.g1
  exact ⟨L', K', ⟨⟨k.os.trans h.bel.os, k.tape.trans h.bel.tape, k.output.trans h.bel.output, Nat.le_trans h.bel.size k.size, fun i hi => (k.block i (Nat.lt_of_lt_of_le hi h.bel.size) (by omega)).trans (h.bel.block i hi)⟩, (k.block _ (heap_lt h.mac) (by omega)).trans h.mac, h0, h1, h.ne, hl, hk, hok, hc, hm⟩⟩
theorem sx_mac {W w : World} {C M : Value} {fx : Int} {R : Nat → Int} {pc : Int} {g cap n gm capm mn : Nat} (h : ∃ L K, Sp W w C M fx R pc g cap n gm capm mn L K) : w.heap[W.heap.size]? = some (.cells (macC C M fx R pc) 36) := by
  obtain ⟨L, K, h⟩ := h
  exact h.mac
theorem below_drewN (w : World) (k : Nat) : Below w.heap.size w (w.drewN k) := ⟨rfl, rfl, rfl, Nat.le_refl _, fun _ _ => rfl⟩

theorem zs_of {w : World} {B g cap mn : Nat} {K : List Int} (h : w.ownsRow B 2 1 (.slice (some ⟨g, 0, none⟩) mn cap) mn (K.map iv)) : Zs w (fun k => (Value.slice (some ⟨g, 0, none⟩) mn cap).ownBlock = some k) (some ⟨g, 0, none⟩) mn cap K := by
  have hl : K.length = mn := by have := h.1; simpa using this
  obtain ⟨a, c, hv, hc⟩ := Zs.of_owns (by rw [hl]; exact h)
  rw [hl] at hv hc
  injection hv with h1 _ h3
  subst h1 h3
  exact hc
theorem cs_of {w : World} {B g cap n : Nat} {L : List Ins} (h : w.ownsRow B 30 5 (.slice (some ⟨g, 0, none⟩) n cap) n (icL L)) (hok : ∀ x ∈ L, x.ok) (hl : L.length = n) : Cs w (fun k => (Value.slice (some ⟨g, 0, none⟩) n cap).ownBlock = some k) (some ⟨g, 0, none⟩) n cap L := by
  obtain ⟨a, c, hv, hc⟩ := Cs.of_owns (by rw [hl]; exact h) hok
  rw [hl] at hv hc
  injection hv with h1 _ h3
  subst h1 h3
  exact hc

set_option maxHeartbeats 8000000 in
set_option maxRecDepth 100000 in
theorem steps_walk (F G : Nat → Prop) (p m : Option Addr) (n cc mn mc : Nat) (fx : Int) (R : Nat → Int) (hR : ∀ i, I6 (R i)) (pc : Int) (xs : List Ins) (ms : List Int) (W : World) (hc : Cs W F p n cc xs) (hz : Zs W G m mn mc ms) (hO : Ops W) (hn : n ≤ 17592186043904) (hmn : mn ≤ 17592186043904) :
    Calls Tryd.prog 8 #[macV (.slice p n cc) (.slice m mn mc) fx R pc] W fun ex w' => ex = .returned (.bool true) ∧ Below W.heap.size W w' := by
  have HOO : Hid (Ops W) := hO
  have HC : Hid (Cs W F p n cc xs) := hc
  have HZ : Hid (Zs W G m mn mc ms) := hz
  have HR6 : Hid (∀ i, I6 (R i)) := hR
  have H1 := heap_alloc_last W (.cells (macC (.slice p n cc) (.slice m mn mc) fx R pc) 36)
  have B1 := (Below.refl _ W).alloc (Nat.le_refl _) (.cells (macC (.slice p n cc) (.slice m mn mc) fx R pc) 36)
  clear hO hc hz hR
  go_enter Tryd.func8, Tryd.ntmps8
  go_upto_region 1 with (refine wl_box36 _ rfl rfl (.slice p n cc) (.slice m mn mc) fx R pc rfl ?_)
  generalize W.alloc (.cells (macC (.slice p n cc) (.slice m mn mc) fx R pc) 36) = w1 at H1 B1 ⊢
  have cI := instrs_any F p n cc xs w1 (HC.out.kept (Kept.of_below (F := No) B1) (fun _ _ h => h)) hn
  obtain ⟨m0, m1, m2, m19⟩ := mac_cells H1
  go_upto_region 2 with (go_at_call 19; refine cI.mono ?_; rintro ex w2 ⟨g, cap, rfl, own2, b2⟩)
  have B2 : Below W.heap.size W w2 := B1.trans (b2.mono B1.size)
  have H2 := (b2.block _ (heap_lt H1)).trans H1
  have hg0 : W.heap.size < g := by have := (own2.lt g rfl).1; have := heap_lt H1; omega
  clear cI m0 m1 m2 m19
  obtain ⟨m0, m1, m2, m19⟩ := mac_cells H2
  have cW := words_any G m mn mc ms w2 (HZ.out.kept (Kept.of_below (F := No) B2) (fun _ _ h => h)) hmn
  go_upto_region 3 with (go_at_call 20; refine cW.mono ?_; rintro ex w3 ⟨gm, capm, rfl, own3, b3⟩)
  have hgm : w2.heap.size ≤ gm := (own3.lt gm rfl).1
  have hg2 : g < w2.heap.size := (own2.lt g rfl).2
  have HS : Hid (Sp W w3 (.slice p n cc) (.slice m mn mc) fx R pc g cap n gm capm mn (xs ++ mkI 64) (ms ++ mk7 64)) := ⟨B2.trans (b3.mono B2.size), (b3.block _ (heap_lt H2)).trans H2, hg0, (by omega), (by omega), (by rw [List.length_append, HC.out.len]; rfl), (by rw [List.length_append, HZ.out.len]; rfl), (by
    intro x hx
    rcases List.mem_append.1 hx with h | h
    · exact HC.out.ok x h
    · unfold mkI at h; rw [List.eq_of_mem_replicate h]; exact (by unfold Ins.ok ins77; decide)), owns0 ((Kept.of_below (F := No) b3).owns own2 (fun _ _ h => h)), owns0 own3⟩
  clear cW m0 m1 m2 m19 own2 own3 b2 b3 H1 H2 B1 B2 hgm hg2
  have hcap := HS.out.cs64.cap
  have hcmx := HS.out.cs64.max
  have hcapm := HS.out.zs64.cap
  have hcmxm := HS.out.zs64.max
  have hTL : (xs ++ mkI 64).take n = xs := by rw [← HC.out.len]; exact List.take_left
  have hTK : (ms ++ mk7 64).take mn = ms := by rw [← HZ.out.len]; exact List.take_left
  have CS : Hid (∀ w', Sp W w' (.slice p n cc) (.slice m mn mc) fx R pc g cap n gm capm mn (xs ++ mkI 64) (ms ++ mk7 64) → Calls Tryd.prog 12 #[.slice (some ⟨g, 0, none⟩) n cap, .slice (some ⟨gm, 0, none⟩) mn capm, .int .i64 fx, regV R, .int .i64 pc] w' fun ex w'' => ex = .returned (stepE xs ms fx R pc).v ∧ Below w'.heap.size w' w'') := (fun w' h => by
    have := step_any _ _ R _ _ n cap mn capm fx pc _ _ w' h.cs h.zs (HOO.out.below h.bel HOO.out.pos)
    rw [hTL, hTK] at this
    exact this)
  have CR : Hid (∀ w', Sp W w' (.slice p n cc) (.slice m mn mc) fx R pc g cap n gm capm mn (xs ++ mkI 64) (ms ++ mk7 64) → Calls Tryd.prog 21 #[.slice p n cc, .slice m mn mc, .int .i64 fx, regV R, .int .i64 pc] w' fun ex w'' => ex = .returned (stepE xs ms fx R pc).v ∧ Below w'.heap.size w' w'') := (fun w' h => refStep_any F G R HR6.out p m n cc mn mc fx pc xs ms w' (HC.out.kept (Kept.of_below (F := No) h.bel) (fun _ _ h => h)) (HZ.out.kept (Kept.of_below (F := No) h.bel) (fun _ _ h => h)))
  clear hTL hTK
  generalize stepE xs ms fx R pc = E at CS CR
  go_cut [5] (fun v wx => ∃ q, v = .pointer (some ⟨q, 0, none⟩) ∧ Sp W wx (.slice p n cc) (.slice m mn mc) fx R pc g cap n gm capm mn (xs ++ mkI 64) (ms ++ mk7 64) ∧ wx.heap[q]? = some (.cells (effC E.R E.pc E.st E.ad E.va E.fa E.ca) 27))
  case first =>
    try simp only [Act.put, List.setIfInBounds_toArray, List.set_cons_zero, List.set_cons_succ]
    refine wp_region_held_drew (S := fun w' => Sp W w' (.slice p n cc) (.slice m mn mc) fx R pc g cap n gm capm mn (xs ++ mkI 64) (ms ++ mk7 64)) (by kernel_rfl) (HS.out.drew) (fun hS => ?_)
    refine d_take 0 13 rfl rfl (by kernel_rfl) (by kernel_rfl) (by kernel_rfl) (fun _ _ _ h => h) rfl (fun w' hw' => er_move _ rfl) hS ?_
    simp only [Act.put, List.setIfInBounds_toArray, List.set_cons_zero, List.set_cons_succ]
    refine d_take 1 14 rfl rfl (by kernel_rfl) (by kernel_rfl) (by kernel_rfl) (fun _ _ _ h => h) rfl (fun w' hw' => er_f36_0 _ rfl W.heap.size rfl) hS ?_
    simp only [Act.put, List.setIfInBounds_toArray, List.set_cons_zero, List.set_cons_succ]
    refine d_take 2 15 rfl rfl (by kernel_rfl) (by kernel_rfl) (by kernel_rfl) (fun _ _ _ h => h) rfl (fun w' hw' => er_load31 _ rfl W.heap.size 0 _ rfl (mac_cells hw'.mac).1) hS ?_
    simp only [Act.put, List.setIfInBounds_toArray, List.set_cons_zero, List.set_cons_succ]
    refine d_take 3 16 rfl rfl (by kernel_rfl) (by kernel_rfl) (by kernel_rfl) (fun _ _ _ h => h) rfl (fun w' hw' => er_len31 _ rfl rfl p n cc rfl) hS ?_
    simp only [Act.put, List.setIfInBounds_toArray, List.set_cons_zero, List.set_cons_succ]
    refine d_take 4 17 rfl rfl (by kernel_rfl) (by kernel_rfl) (by kernel_rfl) (fun _ _ _ h => h) rfl (fun w' hw' => er_slice31 _ _ rfl g (n + 64) cap n (by omega) hcap hcmx rfl rfl) hS ?_
    simp only [Act.put, List.setIfInBounds_toArray, List.set_cons_zero, List.set_cons_succ]
    refine d_take 5 18 rfl rfl (by kernel_rfl) (by kernel_rfl) (by kernel_rfl) (fun _ _ _ h => h) rfl (fun w' hw' => er_move _ rfl) hS ?_
    simp only [Act.put, List.setIfInBounds_toArray, List.set_cons_zero, List.set_cons_succ]
    refine d_take 6 19 rfl rfl (by kernel_rfl) (by kernel_rfl) (by kernel_rfl) (fun _ _ _ h => h) rfl (fun w' hw' => er_f36_1 _ rfl W.heap.size rfl) hS ?_
    simp only [Act.put, List.setIfInBounds_toArray, List.set_cons_zero, List.set_cons_succ]
    refine d_take 7 20 rfl rfl (by kernel_rfl) (by kernel_rfl) (by kernel_rfl) (fun _ _ _ h => h) rfl (fun w' hw' => er_load34 _ rfl W.heap.size 1 _ rfl (mac_cells hw'.mac).2.1) hS ?_
    simp only [Act.put, List.setIfInBounds_toArray, List.set_cons_zero, List.set_cons_succ]
    refine d_take 8 21 rfl rfl (by kernel_rfl) (by kernel_rfl) (by kernel_rfl) (fun _ _ _ h => h) rfl (fun w' hw' => er_len34 _ rfl rfl m mn mc rfl) hS ?_
    simp only [Act.put, List.setIfInBounds_toArray, List.set_cons_zero, List.set_cons_succ]
    refine d_take 9 22 rfl rfl (by kernel_rfl) (by kernel_rfl) (by kernel_rfl) (fun _ _ _ h => h) rfl (fun w' hw' => er_slice34 _ _ rfl gm (mn + 64) capm mn (by omega) hcapm hcmxm rfl rfl) hS ?_
    simp only [Act.put, List.setIfInBounds_toArray, List.set_cons_zero, List.set_cons_succ]
    refine d_take 10 23 rfl rfl (by kernel_rfl) (by kernel_rfl) (by kernel_rfl) (fun _ _ _ h => h) rfl (fun w' hw' => er_f36_2 _ rfl W.heap.size rfl) hS ?_
    simp only [Act.put, List.setIfInBounds_toArray, List.set_cons_zero, List.set_cons_succ]
    refine d_take 11 24 rfl rfl (by kernel_rfl) (by kernel_rfl) (by kernel_rfl) (fun _ _ _ h => h) rfl (fun w' hw' => er_load3 _ rfl W.heap.size 2 _ rfl (mac_cells hw'.mac).2.2.1) hS ?_
    simp only [Act.put, List.setIfInBounds_toArray, List.set_cons_zero, List.set_cons_succ]
    refine d_take 12 25 rfl rfl (by kernel_rfl) (by kernel_rfl) (by kernel_rfl) (fun _ _ _ h => h) rfl (fun w' hw' => er_f36_3 _ rfl W.heap.size rfl) hS ?_
    simp only [Act.put, List.setIfInBounds_toArray, List.set_cons_zero, List.set_cons_succ]
    refine d_take 13 26 rfl rfl (by kernel_rfl) (by kernel_rfl) (by kernel_rfl) (fun _ _ _ h => h) rfl (fun w' hw' => er_load25 _ rfl W.heap.size 3 R rfl (range_mac hw'.mac)) hS ?_
    simp only [Act.put, List.setIfInBounds_toArray, List.set_cons_zero, List.set_cons_succ]
    refine d_take 14 27 rfl rfl (by kernel_rfl) (by kernel_rfl) (by kernel_rfl) (fun _ _ _ h => h) rfl (fun w' hw' => er_f36_4 _ rfl W.heap.size rfl) hS ?_
    simp only [Act.put, List.setIfInBounds_toArray, List.set_cons_zero, List.set_cons_succ]
    refine d_take 15 28 rfl rfl (by kernel_rfl) (by kernel_rfl) (by kernel_rfl) (fun _ _ _ h => h) rfl (fun w' hw' => er_load3 _ rfl W.heap.size 19 _ rfl (mac_cells hw'.mac).2.2.2) hS ?_
    simp only [Act.put, List.setIfInBounds_toArray, List.set_cons_zero, List.set_cons_succ]
    have hlt := hS.lts
    refine d_two (fun _ => True) 16 29 17 5 (v := E.v) (by kernel_rfl) rfl rfl rfl rfl rfl rfl (er_call_cpu_Step _ _ _ _ _ _ rfl) (er_alloc27 rfl) ((CS.out _ hS).mono (by rintro ex w4 ⟨rfl, b4⟩; exact ⟨rfl, hS.grow b4, trivial⟩)) (hS.grow ((Below.refl _ _).alloc (Nat.le_refl _) _)) (fun w3 hS3 _ => ?_) ?_
    · simp only [Act.put, List.setIfInBounds_toArray, List.set_cons_zero, List.set_cons_succ]
      have hlt3 := hS3.lts
      have hA := hS3.grow ((Below.refl _ w3).alloc (Nat.le_refl _) (.cells (effC zeroR 0 false 0 0 0 0) 27))
      refine d_make 17 5 (by kernel_rfl) rfl rfl rfl (er_alloc27 rfl) hA ?_
      simp only [Act.put, List.setIfInBounds_toArray, List.set_cons_zero, List.set_cons_succ]
      refine d_turn 18 (by kernel_rfl) rfl rfl rfl (er_store27 _ _ rfl E w3.heap.size _ rfl rfl (heap_alloc_last _ _) rfl) (hA.store (by omega) (by omega) (by omega) _) ?_
      refine wpAnyH_done (by kernel_rfl) ?_ _
      try go_wp2
      go_meet
      case rel => exact ⟨_, rfl, hA.store (by omega) (by omega) (by omega) _, setRow_heap _ _ _ _ _ _ (heap_alloc_last _ _)⟩
    · simp only [Act.put, List.setIfInBounds_toArray, List.set_cons_zero, List.set_cons_succ]
      have hA := hS.grow ((Below.refl _ _).alloc (Nat.le_refl _) (.cells (effC zeroR 0 false 0 0 0 0) 27))
      refine d_callT (fun (wz : World) => wz.heap[w3.drew.heap.size]? = some (.cells (effC zeroR 0 false 0 0 0 0) 27)) 16 29 (v := E.v) (by kernel_rfl) rfl rfl rfl (er_call_cpu_Step _ _ _ _ _ _ rfl) ((CS.out _ hA).mono (by rintro ex w4 ⟨rfl, b4⟩; exact ⟨rfl, hA.grow b4, (b4.block _ (heap_lt (heap_alloc_last _ _))).trans (heap_alloc_last _ _)⟩)) (fun w3 hS3 hT => ?_)
      simp only [Act.put, List.setIfInBounds_toArray, List.set_cons_zero, List.set_cons_succ]
      refine d_turn 18 (by kernel_rfl) rfl rfl rfl (er_store27 _ _ rfl E _ _ rfl rfl hT rfl) (hS3.store (by omega) (by omega) (by omega) _) ?_
      refine wpAnyH_done (by kernel_rfl) ?_ _
      try go_wp2
      go_meet
      case rel => exact ⟨_, rfl, hS3.store (by omega) (by omega) (by omega) _, setRow_heap _ _ _ _ _ _ hT⟩
  case rest =>
    obtain ⟨q, rfl, hsp, hef⟩ := hcut
    have HS : Hid (Sp W wc (.slice p n cc) (.slice m mn mc) fx R pc g cap n gm capm mn (xs ++ mkI 64) (ms ++ mk7 64)) := hsp
    have HE : Hid (wc.heap[q]? = some (.cells (effC E.R E.pc E.st E.ad E.va E.fa E.ca) 27)) := hef
    clear hsp hef
    go_upto_region 4 with fail
    try simp only [Act.put, List.setIfInBounds_toArray, List.set_cons_zero, List.set_cons_succ]
    refine wp_region_held_drew (S := fun w' => Sp W w' (.slice p n cc) (.slice m mn mc) fx R pc g cap n gm capm mn (xs ++ mkI 64) (ms ++ mk7 64) ∧ w'.heap[q]? = some (.cells (effC E.R E.pc E.st E.ad E.va E.fa E.ca) 27)) (by kernel_rfl) ⟨HS.out.drew, HE.out⟩ (fun hS => ?_)
    refine d_take 0 30 rfl rfl (by kernel_rfl) (by kernel_rfl) (by kernel_rfl) (fun _ _ _ h => h) rfl (fun w' hw' => er_load27 _ rfl E q rfl hw'.2) hS ?_
    simp only [Act.put, List.setIfInBounds_toArray, List.set_cons_zero, List.set_cons_succ]
    refine d_take 1 31 rfl rfl (by kernel_rfl) (by kernel_rfl) (by kernel_rfl) (fun _ _ _ h => h) rfl (fun w' hw' => er_f36_0 _ rfl W.heap.size rfl) hS ?_
    simp only [Act.put, List.setIfInBounds_toArray, List.set_cons_zero, List.set_cons_succ]
    refine d_take 2 32 rfl rfl (by kernel_rfl) (by kernel_rfl) (by kernel_rfl) (fun _ _ _ h => h) rfl (fun w' hw' => er_load31 _ rfl W.heap.size 0 _ rfl (mac_cells hw'.1.mac).1) hS ?_
    simp only [Act.put, List.setIfInBounds_toArray, List.set_cons_zero, List.set_cons_succ]
    refine d_take 3 33 rfl rfl (by kernel_rfl) (by kernel_rfl) (by kernel_rfl) (fun _ _ _ h => h) rfl (fun w' hw' => er_f36_1 _ rfl W.heap.size rfl) hS ?_
    simp only [Act.put, List.setIfInBounds_toArray, List.set_cons_zero, List.set_cons_succ]
    refine d_take 4 34 rfl rfl (by kernel_rfl) (by kernel_rfl) (by kernel_rfl) (fun _ _ _ h => h) rfl (fun w' hw' => er_load34 _ rfl W.heap.size 1 _ rfl (mac_cells hw'.1.mac).2.1) hS ?_
    simp only [Act.put, List.setIfInBounds_toArray, List.set_cons_zero, List.set_cons_succ]
    refine d_take 5 35 rfl rfl (by kernel_rfl) (by kernel_rfl) (by kernel_rfl) (fun _ _ _ h => h) rfl (fun w' hw' => er_f36_2 _ rfl W.heap.size rfl) hS ?_
    simp only [Act.put, List.setIfInBounds_toArray, List.set_cons_zero, List.set_cons_succ]
    refine d_take 6 36 rfl rfl (by kernel_rfl) (by kernel_rfl) (by kernel_rfl) (fun _ _ _ h => h) rfl (fun w' hw' => er_load3 _ rfl W.heap.size 2 _ rfl (mac_cells hw'.1.mac).2.2.1) hS ?_
    simp only [Act.put, List.setIfInBounds_toArray, List.set_cons_zero, List.set_cons_succ]
    refine d_take 7 37 rfl rfl (by kernel_rfl) (by kernel_rfl) (by kernel_rfl) (fun _ _ _ h => h) rfl (fun w' hw' => er_f36_3 _ rfl W.heap.size rfl) hS ?_
    simp only [Act.put, List.setIfInBounds_toArray, List.set_cons_zero, List.set_cons_succ]
    refine d_take 8 38 rfl rfl (by kernel_rfl) (by kernel_rfl) (by kernel_rfl) (fun _ _ _ h => h) rfl (fun w' hw' => er_load25 _ rfl W.heap.size 3 R rfl (range_mac hw'.1.mac)) hS ?_
    simp only [Act.put, List.setIfInBounds_toArray, List.set_cons_zero, List.set_cons_succ]
    refine d_take 9 39 rfl rfl (by kernel_rfl) (by kernel_rfl) (by kernel_rfl) (fun _ _ _ h => h) rfl (fun w' hw' => er_f36_4 _ rfl W.heap.size rfl) hS ?_
    simp only [Act.put, List.setIfInBounds_toArray, List.set_cons_zero, List.set_cons_succ]
    refine d_take 10 40 rfl rfl (by kernel_rfl) (by kernel_rfl) (by kernel_rfl) (fun _ _ _ h => h) rfl (fun w' hw' => er_load3 _ rfl W.heap.size 19 _ rfl (mac_cells hw'.1.mac).2.2.2) hS ?_
    simp only [Act.put, List.setIfInBounds_toArray, List.set_cons_zero, List.set_cons_succ]
    refine d_call 11 41 (v := E.v) (by kernel_rfl) rfl rfl rfl (er_call_bulkheadref06_Step _ _ _ _ _ _ rfl) ((CR.out _ hS.1).mono (by rintro ex w4 ⟨rfl, b4⟩; exact ⟨rfl, ⟨hS.1.grow b4, (b4.block _ (heap_lt hS.2)).trans hS.2⟩⟩)) (fun w4 hS4 => ?_)
    simp only [Act.put, List.setIfInBounds_toArray, List.set_cons_zero, List.set_cons_succ]
    refine d_take 12 42 rfl rfl (by kernel_rfl) (by kernel_rfl) (by kernel_rfl) (fun _ _ _ h => h) rfl (fun w' hw' => er_neE _ _ _ rfl E rfl rfl) hS4 ?_
    simp only [Act.put, List.setIfInBounds_toArray, List.set_cons_zero, List.set_cons_succ]
    refine d_take 13 43 rfl rfl (by kernel_rfl) (by kernel_rfl) (by kernel_rfl) (fun _ _ _ h => h) rfl (fun w' hw' => er_move _ rfl) hS4 ?_
    simp only [Act.put, List.setIfInBounds_toArray, List.set_cons_zero, List.set_cons_succ]
    refine d_take 14 44 rfl rfl (by kernel_rfl) (by kernel_rfl) (by kernel_rfl) (fun _ _ _ h => h) rfl (fun w' hw' => er_move _ rfl) hS4 ?_
    simp only [Act.put, List.setIfInBounds_toArray, List.set_cons_zero, List.set_cons_succ]
    refine d_take 15 45 rfl rfl (by kernel_rfl) (by kernel_rfl) (by kernel_rfl) (fun _ _ _ h => h) rfl (fun w' hw' => er_f36_1 _ rfl W.heap.size rfl) hS4 ?_
    simp only [Act.put, List.setIfInBounds_toArray, List.set_cons_zero, List.set_cons_succ]
    refine d_take 16 46 rfl rfl (by kernel_rfl) (by kernel_rfl) (by kernel_rfl) (fun _ _ _ h => h) rfl (fun w' hw' => er_load34 _ rfl W.heap.size 1 _ rfl (mac_cells hw'.1.mac).2.1) hS4 ?_
    simp only [Act.put, List.setIfInBounds_toArray, List.set_cons_zero, List.set_cons_succ]
    refine d_callN (fun v w' => ∃ g2 c2, v = .slice (some ⟨g2, 0, none⟩) (mn + 64) c2 ∧ w'.ownsRow w4.heap.size 2 1 (.slice (some ⟨g2, 0, none⟩) (mn + 64) c2) (mn + 64) ((ms ++ mk7 64).map iv)) 17 47 (by kernel_rfl) rfl rfl rfl (er_call_bulkheadlaw06_words _ _ rfl) ((words_any G m mn mc ms w4 (HZ.out.kept (Kept.of_below (F := No) hS4.1.bel) (fun _ _ h => h)) hmn).mono (by rintro ex w5 ⟨g2, c2, rfl, ow, b5⟩; exact ⟨_, rfl, ⟨hS4.1.grow b5, (b5.block _ (heap_lt hS4.2)).trans hS4.2⟩, ⟨g2, c2, rfl, ow⟩⟩)) (fun v5 w5 hS5 hT5 => ?_)
    obtain ⟨g2, c2, rfl, ow5⟩ := hT5
    simp only [Act.put, List.setIfInBounds_toArray, List.set_cons_zero, List.set_cons_succ]
    have cSW := same_any _ _ _ _ _ _ _ _ _ _ w5 hS5.1.zs64 (zs_of ow5)
    rw [decide_eq_true rfl] at cSW
    refine d_call 18 48 (v := .bool true) (by kernel_rfl) rfl rfl rfl (er_call_bulkheadlaw06_sameWords _ _ _ rfl) (cSW.mono (by rintro ex w6 ⟨rfl, k6, rfl⟩; have b6 := below_drewN w5 k6; exact ⟨rfl, ⟨hS5.1.grow b6, (b6.block _ (heap_lt hS5.2)).trans hS5.2⟩⟩)) (fun w6 hS6 => ?_)
    simp only [Act.put, List.setIfInBounds_toArray, List.set_cons_zero, List.set_cons_succ]
    refine d_take 19 49 rfl rfl (by kernel_rfl) (by kernel_rfl) (by kernel_rfl) (fun _ _ _ h => h) rfl (fun w' hw' => er_not _ rfl true rfl) hS6 ?_
    simp only [Act.put, List.setIfInBounds_toArray, List.set_cons_zero, List.set_cons_succ]
    refine d_take 20 50 rfl rfl (by kernel_rfl) (by kernel_rfl) (by kernel_rfl) (fun _ _ _ h => h) rfl (fun w' hw' => er_pick _ _ _ rfl rfl) hS6 ?_
    simp only [Act.put, List.setIfInBounds_toArray, List.set_cons_zero, List.set_cons_succ]
    refine d_take 21 51 rfl rfl (by kernel_rfl) (by kernel_rfl) (by kernel_rfl) (fun _ _ _ h => h) rfl (fun w' hw' => er_move _ rfl) hS6 ?_
    simp only [Act.put, List.setIfInBounds_toArray, List.set_cons_zero, List.set_cons_succ]
    refine d_take 22 52 rfl rfl (by kernel_rfl) (by kernel_rfl) (by kernel_rfl) (fun _ _ _ h => h) rfl (fun w' hw' => er_move _ rfl) hS6 ?_
    simp only [Act.put, List.setIfInBounds_toArray, List.set_cons_zero, List.set_cons_succ]
    refine d_take 23 53 rfl rfl (by kernel_rfl) (by kernel_rfl) (by kernel_rfl) (fun _ _ _ h => h) rfl (fun w' hw' => er_f36_0 _ rfl W.heap.size rfl) hS6 ?_
    simp only [Act.put, List.setIfInBounds_toArray, List.set_cons_zero, List.set_cons_succ]
    refine d_take 24 54 rfl rfl (by kernel_rfl) (by kernel_rfl) (by kernel_rfl) (fun _ _ _ h => h) rfl (fun w' hw' => er_load31 _ rfl W.heap.size 0 _ rfl (mac_cells hw'.1.mac).1) hS6 ?_
    simp only [Act.put, List.setIfInBounds_toArray, List.set_cons_zero, List.set_cons_succ]
    refine d_callN (fun v w' => ∃ g2 c2, v = .slice (some ⟨g2, 0, none⟩) (n + 64) c2 ∧ w'.ownsRow w6.heap.size 30 5 (.slice (some ⟨g2, 0, none⟩) (n + 64) c2) (n + 64) (icL (xs ++ mkI 64))) 25 55 (by kernel_rfl) rfl rfl rfl (er_call_bulkheadlaw06_instrs _ _ rfl) ((instrs_any F p n cc xs w6 (HC.out.kept (Kept.of_below (F := No) hS6.1.bel) (fun _ _ h => h)) hn).mono (by rintro ex w7 ⟨g2, c2, rfl, ow, b7⟩; exact ⟨_, rfl, ⟨hS6.1.grow b7, (b7.block _ (heap_lt hS6.2)).trans hS6.2⟩, ⟨g2, c2, rfl, ow⟩⟩)) (fun v7 w7 hS7 hT7 => ?_)
    obtain ⟨g3, c3, rfl, ow7⟩ := hT7
    simp only [Act.put, List.setIfInBounds_toArray, List.set_cons_zero, List.set_cons_succ]
    have cSC := sameCode_eq _ _ _ _ _ _ _ _ w7 hS7.1.cs64 (cs_of ow7 hS7.1.ok hS7.1.ll)
    refine d_call 26 56 (v := .bool true) (by kernel_rfl) rfl rfl rfl (er_call_bulkheadlaw06_sameCode _ _ _ rfl) (cSC.mono (by rintro ex w8 ⟨rfl, k8, rfl⟩; have b8 := below_drewN w7 k8; exact ⟨rfl, ⟨hS7.1.grow b8, (b8.block _ (heap_lt hS7.2)).trans hS7.2⟩⟩)) (fun w8 hS8 => ?_)
    simp only [Act.put, List.setIfInBounds_toArray, List.set_cons_zero, List.set_cons_succ]
    refine d_take 27 57 rfl rfl (by kernel_rfl) (by kernel_rfl) (by kernel_rfl) (fun _ _ _ h => h) rfl (fun w' hw' => er_not _ rfl true rfl) hS8 ?_
    simp only [Act.put, List.setIfInBounds_toArray, List.set_cons_zero, List.set_cons_succ]
    refine d_take 28 58 rfl rfl (by kernel_rfl) (by kernel_rfl) (by kernel_rfl) (fun _ _ _ h => h) rfl (fun w' hw' => er_pick _ _ _ rfl rfl) hS8 ?_
    simp only [Act.put, List.setIfInBounds_toArray, List.set_cons_zero, List.set_cons_succ]
    refine wpAnyH_done (by kernel_rfl) ?_ _
    have HS : Hid (Sp W w8 (.slice p n cc) (.slice m mn mc) fx R pc g cap n gm capm mn (xs ++ mkI 64) (ms ++ mk7 64)) := hS8.1
    clear hS hS4 hS5 hS6 hS7 hS8 ow5 ow7 cSW cSC HE
    go_upto_region 6 with fail
    try simp only [Act.put, List.setIfInBounds_toArray, List.set_cons_zero, List.set_cons_succ]
    refine wp_region_held_drew (S := fun w' => ∃ L K, Sp W w' (.slice p n cc) (.slice m mn mc) fx R pc g cap n gm capm mn L K) (by kernel_rfl) ⟨_, _, HS.out.drew⟩ (fun hS => ?_)
    refine d_take 0 59 rfl rfl (by kernel_rfl) (by kernel_rfl) (by kernel_rfl) (fun _ _ _ h => h) rfl (fun w' hw' => er_move _ rfl) hS ?_
    simp only [Act.put, List.setIfInBounds_toArray, List.set_cons_zero, List.set_cons_succ]
    refine d_take 1 60 rfl rfl (by kernel_rfl) (by kernel_rfl) (by kernel_rfl) (fun _ _ _ h => h) rfl (fun w' hw' => er_f36_0 _ rfl W.heap.size rfl) hS ?_
    simp only [Act.put, List.setIfInBounds_toArray, List.set_cons_zero, List.set_cons_succ]
    refine d_take 2 61 rfl rfl (by kernel_rfl) (by kernel_rfl) (by kernel_rfl) (fun _ _ _ h => h) rfl (fun w' hw' => er_load31 _ rfl W.heap.size 0 _ rfl (mac_cells (sx_mac hw')).1) hS ?_
    simp only [Act.put, List.setIfInBounds_toArray, List.set_cons_zero, List.set_cons_succ]
    refine d_take 3 62 rfl rfl (by kernel_rfl) (by kernel_rfl) (by kernel_rfl) (fun _ _ _ h => h) rfl (fun w' hw' => er_len31 _ rfl rfl p n cc rfl) hS ?_
    simp only [Act.put, List.setIfInBounds_toArray, List.set_cons_zero, List.set_cons_succ]
    refine d_take 4 63 rfl rfl (by kernel_rfl) (by kernel_rfl) (by kernel_rfl) (fun _ _ _ h => h) rfl (fun w' hw' => er_slice31 _ _ rfl g (n + 64) cap n (by omega) hcap hcmx rfl rfl) hS ?_
    simp only [Act.put, List.setIfInBounds_toArray, List.set_cons_zero, List.set_cons_succ]
    refine d_take 5 64 rfl rfl (by kernel_rfl) (by kernel_rfl) (by kernel_rfl) (fun _ _ _ h => h) rfl (fun w' hw' => er_move _ rfl) hS ?_
    simp only [Act.put, List.setIfInBounds_toArray, List.set_cons_zero, List.set_cons_succ]
    refine d_take 6 65 rfl rfl (by kernel_rfl) (by kernel_rfl) (by kernel_rfl) (fun _ _ _ h => h) rfl (fun w' hw' => er_f36_1 _ rfl W.heap.size rfl) hS ?_
    simp only [Act.put, List.setIfInBounds_toArray, List.set_cons_zero, List.set_cons_succ]
    refine d_take 7 66 rfl rfl (by kernel_rfl) (by kernel_rfl) (by kernel_rfl) (fun _ _ _ h => h) rfl (fun w' hw' => er_load34 _ rfl W.heap.size 1 _ rfl (mac_cells (sx_mac hw')).2.1) hS ?_
    simp only [Act.put, List.setIfInBounds_toArray, List.set_cons_zero, List.set_cons_succ]
    refine d_take 8 67 rfl rfl (by kernel_rfl) (by kernel_rfl) (by kernel_rfl) (fun _ _ _ h => h) rfl (fun w' hw' => er_len34 _ rfl rfl m mn mc rfl) hS ?_
    simp only [Act.put, List.setIfInBounds_toArray, List.set_cons_zero, List.set_cons_succ]
    refine d_take 9 68 rfl rfl (by kernel_rfl) (by kernel_rfl) (by kernel_rfl) (fun _ _ _ h => h) rfl (fun w' hw' => er_slice34 _ _ rfl gm (mn + 64) capm mn (by omega) hcapm hcmxm rfl rfl) hS ?_
    simp only [Act.put, List.setIfInBounds_toArray, List.set_cons_zero, List.set_cons_succ]
    obtain ⟨L1, K1, hS1⟩ := hS
    have hlt := hS1.lts
    refine d_call 10 69 (v := .tuple #[]) (by kernel_rfl) rfl rfl rfl (er_call_bulkheadlaw06_turned _ _ _ rfl) ((turned_any g cap (n + 64) n gm capm (mn + 64) mn (by omega) (by omega) hcap hcapm hcmx hcmxm _ hlt.2.1 hlt.2.2 hS1.ne hS1.tn).mono (by rintro ex w9 ⟨rfl, t9⟩; exact ⟨rfl, hS1.turn t9⟩)) (fun w9 hS9 => ?_)
    simp only [Act.put, List.setIfInBounds_toArray, List.set_cons_zero, List.set_cons_succ]
    refine wpAnyH_done (by kernel_rfl) ?_ _
    clear HS hS1 CS CR
    obtain ⟨L, K, hS9⟩ := hS9
    have HS : Hid (Sp W w9 (.slice p n cc) (.slice m mn mc) fx R pc g cap n gm capm mn L K) := hS9
    clear hS9
    have CS : Hid (∀ w', Sp W w' (.slice p n cc) (.slice m mn mc) fx R pc g cap n gm capm mn L K → Calls Tryd.prog 12 #[.slice (some ⟨g, 0, none⟩) n cap, .slice (some ⟨gm, 0, none⟩) mn capm, .int .i64 fx, regV R, .int .i64 pc] w' fun ex w'' => ex = .returned (stepE (L.take n) (K.take mn) fx R pc).v ∧ Below w'.heap.size w' w'') := (fun w' h => step_any _ _ R _ _ n cap mn capm fx pc _ _ w' h.cs h.zs (HOO.out.below h.bel HOO.out.pos))
    have CR : Hid (∀ w', Sp W w' (.slice p n cc) (.slice m mn mc) fx R pc g cap n gm capm mn L K → Calls Tryd.prog 21 #[.slice (some ⟨g, 0, none⟩) n cap, .slice (some ⟨gm, 0, none⟩) mn capm, .int .i64 fx, regV R, .int .i64 pc] w' fun ex w'' => ex = .returned (stepE (L.take n) (K.take mn) fx R pc).v ∧ Below w'.heap.size w' w'') := (fun w' h => refStep_any _ _ R HR6.out _ _ n cap mn capm fx pc _ _ w' h.cs h.zs)
    generalize stepE (L.take n) (K.take mn) fx R pc = E' at CS CR
    go_upto_region 7 with fail
    go_cut [6] (fun v wx => ∃ q, v = .pointer (some ⟨q, 0, none⟩) ∧ Sp W wx (.slice p n cc) (.slice m mn mc) fx R pc g cap n gm capm mn L K ∧ wx.heap[q]? = some (.cells (effC E'.R E'.pc E'.st E'.ad E'.va E'.fa E'.ca) 27))
    case first =>
      try simp only [Act.put, List.setIfInBounds_toArray, List.set_cons_zero, List.set_cons_succ]
      refine wp_region_held_drew (S := fun w' => Sp W w' (.slice p n cc) (.slice m mn mc) fx R pc g cap n gm capm mn L K) (by kernel_rfl) (HS.out.drew) (fun hS => ?_)
      refine d_take 0 70 rfl rfl (by kernel_rfl) (by kernel_rfl) (by kernel_rfl) (fun _ _ _ h => h) rfl (fun w' hw' => er_move _ rfl) hS ?_
      simp only [Act.put, List.setIfInBounds_toArray, List.set_cons_zero, List.set_cons_succ]
      refine d_take 1 71 rfl rfl (by kernel_rfl) (by kernel_rfl) (by kernel_rfl) (fun _ _ _ h => h) rfl (fun w' hw' => er_f36_0 _ rfl W.heap.size rfl) hS ?_
      simp only [Act.put, List.setIfInBounds_toArray, List.set_cons_zero, List.set_cons_succ]
      refine d_take 2 72 rfl rfl (by kernel_rfl) (by kernel_rfl) (by kernel_rfl) (fun _ _ _ h => h) rfl (fun w' hw' => er_load31 _ rfl W.heap.size 0 _ rfl (mac_cells hw'.mac).1) hS ?_
      simp only [Act.put, List.setIfInBounds_toArray, List.set_cons_zero, List.set_cons_succ]
      refine d_take 3 73 rfl rfl (by kernel_rfl) (by kernel_rfl) (by kernel_rfl) (fun _ _ _ h => h) rfl (fun w' hw' => er_len31 _ rfl rfl p n cc rfl) hS ?_
      simp only [Act.put, List.setIfInBounds_toArray, List.set_cons_zero, List.set_cons_succ]
      refine d_take 4 74 rfl rfl (by kernel_rfl) (by kernel_rfl) (by kernel_rfl) (fun _ _ _ h => h) rfl (fun w' hw' => er_slice31 _ _ rfl g (n + 64) cap n (by omega) hcap hcmx rfl rfl) hS ?_
      simp only [Act.put, List.setIfInBounds_toArray, List.set_cons_zero, List.set_cons_succ]
      refine d_take 5 75 rfl rfl (by kernel_rfl) (by kernel_rfl) (by kernel_rfl) (fun _ _ _ h => h) rfl (fun w' hw' => er_move _ rfl) hS ?_
      simp only [Act.put, List.setIfInBounds_toArray, List.set_cons_zero, List.set_cons_succ]
      refine d_take 6 76 rfl rfl (by kernel_rfl) (by kernel_rfl) (by kernel_rfl) (fun _ _ _ h => h) rfl (fun w' hw' => er_f36_1 _ rfl W.heap.size rfl) hS ?_
      simp only [Act.put, List.setIfInBounds_toArray, List.set_cons_zero, List.set_cons_succ]
      refine d_take 7 77 rfl rfl (by kernel_rfl) (by kernel_rfl) (by kernel_rfl) (fun _ _ _ h => h) rfl (fun w' hw' => er_load34 _ rfl W.heap.size 1 _ rfl (mac_cells hw'.mac).2.1) hS ?_
      simp only [Act.put, List.setIfInBounds_toArray, List.set_cons_zero, List.set_cons_succ]
      refine d_take 8 78 rfl rfl (by kernel_rfl) (by kernel_rfl) (by kernel_rfl) (fun _ _ _ h => h) rfl (fun w' hw' => er_len34 _ rfl rfl m mn mc rfl) hS ?_
      simp only [Act.put, List.setIfInBounds_toArray, List.set_cons_zero, List.set_cons_succ]
      refine d_take 9 79 rfl rfl (by kernel_rfl) (by kernel_rfl) (by kernel_rfl) (fun _ _ _ h => h) rfl (fun w' hw' => er_slice34 _ _ rfl gm (mn + 64) capm mn (by omega) hcapm hcmxm rfl rfl) hS ?_
      simp only [Act.put, List.setIfInBounds_toArray, List.set_cons_zero, List.set_cons_succ]
      refine d_take 10 80 rfl rfl (by kernel_rfl) (by kernel_rfl) (by kernel_rfl) (fun _ _ _ h => h) rfl (fun w' hw' => er_f36_2 _ rfl W.heap.size rfl) hS ?_
      simp only [Act.put, List.setIfInBounds_toArray, List.set_cons_zero, List.set_cons_succ]
      refine d_take 11 81 rfl rfl (by kernel_rfl) (by kernel_rfl) (by kernel_rfl) (fun _ _ _ h => h) rfl (fun w' hw' => er_load3 _ rfl W.heap.size 2 _ rfl (mac_cells hw'.mac).2.2.1) hS ?_
      simp only [Act.put, List.setIfInBounds_toArray, List.set_cons_zero, List.set_cons_succ]
      refine d_take 12 82 rfl rfl (by kernel_rfl) (by kernel_rfl) (by kernel_rfl) (fun _ _ _ h => h) rfl (fun w' hw' => er_f36_3 _ rfl W.heap.size rfl) hS ?_
      simp only [Act.put, List.setIfInBounds_toArray, List.set_cons_zero, List.set_cons_succ]
      refine d_take 13 83 rfl rfl (by kernel_rfl) (by kernel_rfl) (by kernel_rfl) (fun _ _ _ h => h) rfl (fun w' hw' => er_load25 _ rfl W.heap.size 3 R rfl (range_mac hw'.mac)) hS ?_
      simp only [Act.put, List.setIfInBounds_toArray, List.set_cons_zero, List.set_cons_succ]
      refine d_take 14 84 rfl rfl (by kernel_rfl) (by kernel_rfl) (by kernel_rfl) (fun _ _ _ h => h) rfl (fun w' hw' => er_f36_4 _ rfl W.heap.size rfl) hS ?_
      simp only [Act.put, List.setIfInBounds_toArray, List.set_cons_zero, List.set_cons_succ]
      refine d_take 15 85 rfl rfl (by kernel_rfl) (by kernel_rfl) (by kernel_rfl) (fun _ _ _ h => h) rfl (fun w' hw' => er_load3 _ rfl W.heap.size 19 _ rfl (mac_cells hw'.mac).2.2.2) hS ?_
      simp only [Act.put, List.setIfInBounds_toArray, List.set_cons_zero, List.set_cons_succ]
      have hlt := hS.lts
      refine d_two (fun _ => True) 16 86 17 6 (v := E'.v) (by kernel_rfl) rfl rfl rfl rfl rfl rfl (er_call_bulkheadref06_Step _ _ _ _ _ _ rfl) (er_alloc27 rfl) ((CR.out _ hS).mono (by rintro ex w4 ⟨rfl, b4⟩; exact ⟨rfl, hS.grow b4, trivial⟩)) (hS.grow ((Below.refl _ _).alloc (Nat.le_refl _) _)) (fun w3 hS3 _ => ?_) ?_
      · simp only [Act.put, List.setIfInBounds_toArray, List.set_cons_zero, List.set_cons_succ]
        have hlt3 := hS3.lts
        have hA := hS3.grow ((Below.refl _ w3).alloc (Nat.le_refl _) (.cells (effC zeroR 0 false 0 0 0 0) 27))
        refine d_make 17 6 (by kernel_rfl) rfl rfl rfl (er_alloc27 rfl) hA ?_
        simp only [Act.put, List.setIfInBounds_toArray, List.set_cons_zero, List.set_cons_succ]
        refine d_turn 18 (by kernel_rfl) rfl rfl rfl (er_store27 _ _ rfl E' w3.heap.size _ rfl rfl (heap_alloc_last _ _) rfl) (hA.store (by omega) (by omega) (by omega) _) ?_
        refine wpAnyH_done (by kernel_rfl) ?_ _
        try go_wp2
        go_meet
        case rel => exact ⟨_, rfl, hA.store (by omega) (by omega) (by omega) _, setRow_heap _ _ _ _ _ _ (heap_alloc_last _ _)⟩
      · simp only [Act.put, List.setIfInBounds_toArray, List.set_cons_zero, List.set_cons_succ]
        have hA := hS.grow ((Below.refl _ _).alloc (Nat.le_refl _) (.cells (effC zeroR 0 false 0 0 0 0) 27))
        refine d_callT (fun (wz : World) => wz.heap[w9.drew.heap.size]? = some (.cells (effC zeroR 0 false 0 0 0 0) 27)) 16 86 (v := E'.v) (by kernel_rfl) rfl rfl rfl (er_call_bulkheadref06_Step _ _ _ _ _ _ rfl) ((CR.out _ hA).mono (by rintro ex w4 ⟨rfl, b4⟩; exact ⟨rfl, hA.grow b4, (b4.block _ (heap_lt (heap_alloc_last _ _))).trans (heap_alloc_last _ _)⟩)) (fun w3 hS3 hT => ?_)
        simp only [Act.put, List.setIfInBounds_toArray, List.set_cons_zero, List.set_cons_succ]
        refine d_turn 18 (by kernel_rfl) rfl rfl rfl (er_store27 _ _ rfl E' _ _ rfl rfl hT rfl) (hS3.store (by omega) (by omega) (by omega) _) ?_
        refine wpAnyH_done (by kernel_rfl) ?_ _
        try go_wp2
        go_meet
        case rel => exact ⟨_, rfl, hS3.store (by omega) (by omega) (by omega) _, setRow_heap _ _ _ _ _ _ hT⟩
    case rest =>
      obtain ⟨q2, rfl, hsp, hef⟩ := hcut
      have HS : Hid (Sp W wc (.slice p n cc) (.slice m mn mc) fx R pc g cap n gm capm mn L K) := hsp
      have HE : Hid (wc.heap[q2]? = some (.cells (effC E'.R E'.pc E'.st E'.ad E'.va E'.fa E'.ca) 27)) := hef
      clear hsp hef
      go_upto_region 8 with fail
      try simp only [Act.put, List.setIfInBounds_toArray, List.set_cons_zero, List.set_cons_succ]
      refine wp_region_held_drew (S := fun w' => Sp W w' (.slice p n cc) (.slice m mn mc) fx R pc g cap n gm capm mn L K ∧ w'.heap[q2]? = some (.cells (effC E'.R E'.pc E'.st E'.ad E'.va E'.fa E'.ca) 27)) (by kernel_rfl) ⟨HS.out.drew, HE.out⟩ (fun hS => ?_)
      refine d_take 0 87 rfl rfl (by kernel_rfl) (by kernel_rfl) (by kernel_rfl) (fun _ _ _ h => h) rfl (fun w' hw' => er_move _ rfl) hS ?_
      simp only [Act.put, List.setIfInBounds_toArray, List.set_cons_zero, List.set_cons_succ]
      refine d_take 1 88 rfl rfl (by kernel_rfl) (by kernel_rfl) (by kernel_rfl) (fun _ _ _ h => h) rfl (fun w' hw' => er_f36_0 _ rfl W.heap.size rfl) hS ?_
      simp only [Act.put, List.setIfInBounds_toArray, List.set_cons_zero, List.set_cons_succ]
      refine d_take 2 89 rfl rfl (by kernel_rfl) (by kernel_rfl) (by kernel_rfl) (fun _ _ _ h => h) rfl (fun w' hw' => er_load31 _ rfl W.heap.size 0 _ rfl (mac_cells hw'.1.mac).1) hS ?_
      simp only [Act.put, List.setIfInBounds_toArray, List.set_cons_zero, List.set_cons_succ]
      refine d_take 3 90 rfl rfl (by kernel_rfl) (by kernel_rfl) (by kernel_rfl) (fun _ _ _ h => h) rfl (fun w' hw' => er_len31 _ rfl rfl p n cc rfl) hS ?_
      simp only [Act.put, List.setIfInBounds_toArray, List.set_cons_zero, List.set_cons_succ]
      refine d_take 4 91 rfl rfl (by kernel_rfl) (by kernel_rfl) (by kernel_rfl) (fun _ _ _ h => h) rfl (fun w' hw' => er_slice31 _ _ rfl g (n + 64) cap n (by omega) hcap hcmx rfl rfl) hS ?_
      simp only [Act.put, List.setIfInBounds_toArray, List.set_cons_zero, List.set_cons_succ]
      refine d_take 5 92 rfl rfl (by kernel_rfl) (by kernel_rfl) (by kernel_rfl) (fun _ _ _ h => h) rfl (fun w' hw' => er_move _ rfl) hS ?_
      simp only [Act.put, List.setIfInBounds_toArray, List.set_cons_zero, List.set_cons_succ]
      refine d_take 6 93 rfl rfl (by kernel_rfl) (by kernel_rfl) (by kernel_rfl) (fun _ _ _ h => h) rfl (fun w' hw' => er_f36_1 _ rfl W.heap.size rfl) hS ?_
      simp only [Act.put, List.setIfInBounds_toArray, List.set_cons_zero, List.set_cons_succ]
      refine d_take 7 94 rfl rfl (by kernel_rfl) (by kernel_rfl) (by kernel_rfl) (fun _ _ _ h => h) rfl (fun w' hw' => er_load34 _ rfl W.heap.size 1 _ rfl (mac_cells hw'.1.mac).2.1) hS ?_
      simp only [Act.put, List.setIfInBounds_toArray, List.set_cons_zero, List.set_cons_succ]
      refine d_take 8 95 rfl rfl (by kernel_rfl) (by kernel_rfl) (by kernel_rfl) (fun _ _ _ h => h) rfl (fun w' hw' => er_len34 _ rfl rfl m mn mc rfl) hS ?_
      simp only [Act.put, List.setIfInBounds_toArray, List.set_cons_zero, List.set_cons_succ]
      refine d_take 9 96 rfl rfl (by kernel_rfl) (by kernel_rfl) (by kernel_rfl) (fun _ _ _ h => h) rfl (fun w' hw' => er_slice34 _ _ rfl gm (mn + 64) capm mn (by omega) hcapm hcmxm rfl rfl) hS ?_
      simp only [Act.put, List.setIfInBounds_toArray, List.set_cons_zero, List.set_cons_succ]
      refine d_take 10 97 rfl rfl (by kernel_rfl) (by kernel_rfl) (by kernel_rfl) (fun _ _ _ h => h) rfl (fun w' hw' => er_f36_2 _ rfl W.heap.size rfl) hS ?_
      simp only [Act.put, List.setIfInBounds_toArray, List.set_cons_zero, List.set_cons_succ]
      refine d_take 11 98 rfl rfl (by kernel_rfl) (by kernel_rfl) (by kernel_rfl) (fun _ _ _ h => h) rfl (fun w' hw' => er_load3 _ rfl W.heap.size 2 _ rfl (mac_cells hw'.1.mac).2.2.1) hS ?_
      simp only [Act.put, List.setIfInBounds_toArray, List.set_cons_zero, List.set_cons_succ]
      refine d_take 12 99 rfl rfl (by kernel_rfl) (by kernel_rfl) (by kernel_rfl) (fun _ _ _ h => h) rfl (fun w' hw' => er_f36_3 _ rfl W.heap.size rfl) hS ?_
      simp only [Act.put, List.setIfInBounds_toArray, List.set_cons_zero, List.set_cons_succ]
      refine d_take 13 100 rfl rfl (by kernel_rfl) (by kernel_rfl) (by kernel_rfl) (fun _ _ _ h => h) rfl (fun w' hw' => er_load25 _ rfl W.heap.size 3 R rfl (range_mac hw'.1.mac)) hS ?_
      simp only [Act.put, List.setIfInBounds_toArray, List.set_cons_zero, List.set_cons_succ]
      refine d_take 14 101 rfl rfl (by kernel_rfl) (by kernel_rfl) (by kernel_rfl) (fun _ _ _ h => h) rfl (fun w' hw' => er_f36_4 _ rfl W.heap.size rfl) hS ?_
      simp only [Act.put, List.setIfInBounds_toArray, List.set_cons_zero, List.set_cons_succ]
      refine d_take 15 102 rfl rfl (by kernel_rfl) (by kernel_rfl) (by kernel_rfl) (fun _ _ _ h => h) rfl (fun w' hw' => er_load3 _ rfl W.heap.size 19 _ rfl (mac_cells hw'.1.mac).2.2.2) hS ?_
      simp only [Act.put, List.setIfInBounds_toArray, List.set_cons_zero, List.set_cons_succ]
      refine d_take 17 104 rfl rfl (by kernel_rfl) (by kernel_rfl) (by kernel_rfl) (fun _ _ _ h => h) rfl (fun w' hw' => er_load27 _ rfl E' q2 rfl hw'.2) hS ?_
      simp only [Act.put, List.setIfInBounds_toArray, List.set_cons_zero, List.set_cons_succ]
      refine d_call 16 103 (v := E'.v) (by kernel_rfl) rfl rfl rfl (er_call_cpu_Step _ _ _ _ _ _ rfl) ((CS.out _ hS.1).mono (by rintro ex w4 ⟨rfl, b4⟩; exact ⟨rfl, ⟨hS.1.grow b4, (b4.block _ (heap_lt hS.2)).trans hS.2⟩⟩)) (fun wA hSA => ?_)
      simp only [Act.put, List.setIfInBounds_toArray, List.set_cons_zero, List.set_cons_succ]
      refine d_take 18 105 rfl rfl (by kernel_rfl) (by kernel_rfl) (by kernel_rfl) (fun _ _ _ h => h) rfl (fun w' hw' => er_eqE _ _ _ rfl E' rfl rfl) hSA ?_
      simp only [Act.put, List.setIfInBounds_toArray, List.set_cons_zero, List.set_cons_succ]
      refine d_take 19 2 rfl rfl (by kernel_rfl) (by kernel_rfl) (by kernel_rfl) (fun _ _ _ h => h) rfl (fun w' hw' => er_assign _ rfl) hSA ?_
      simp only [Act.put, List.setIfInBounds_toArray, List.set_cons_zero, List.set_cons_succ]
      refine wpAnyH_done (by kernel_rfl) ?_ _
      try go_wp2
      go_ret
      exact ⟨rfl, hSA.1.bel⟩

end Go.Proofs.YtijeaonldhccmaaDoor
