/-
  'same', 'marked', 'left'.
-/
import Derived.Test.YtgapljgnedbkiaaCalls
import Derived.Deep.DeepCutAuto
import Derived.Deep.Cut
import Derived.BigQuiet
import Derived.Deep.QuietTactic
namespace Go.Proofs.Ytgapljgnedbkiaa
open Go.RowKit
set_option linter.unusedVariables false

theorem drewN_add (w : World) (a b : Nat) : (w.drewN a).drewN b = w.drewN (a + b) := by simp [World.drewN, Nat.add_assoc]

set_option maxHeartbeats 1000000 in
theorem same_any (F G : Nat → Prop) (a a' : Option Addr) (n n' c c' : Nat) (xs ys : List Int) (w : World) (hx : Zs w F a n c xs) (hy : Zs w G a' n' c' ys) :
    Calls Try.prog 16 #[.slice a n c, .slice a' n' c'] w fun ex w' => ex = .returned (.bool (decide (xs = ys))) ∧ ∃ k, w' = w.drewN k := by
  have hlx := hx.len
  have hly := hy.len
  have hcx := hx.cap
  have hcy := hy.cap
  have hmx := hx.max
  have HX : Hid (Zs w F a n c xs) := hx
  have HY : Hid (Zs w G a' n' c' ys) := hy
  clear hx hy
  by_cases hn : n = n'
  · subst hn
    go_enter Try.func16, Try.ntmps16
    go_wp2
    go_loopw [5] (fun i wr => ∃ k : Nat, k ≤ n ∧ i = .int .i64 k ∧ (∀ j, j < k → xs.getD j 0 = ys.getD j 0) ∧ ∃ q, wr = w.drewN q) (fun i _ => n - (intOf i).toNat)
    case atStart => exact ⟨0, by omega, rfl, fun j hj => by omega, 0, rfl⟩
    case round =>
      obtain ⟨k, hk, rfl, heq, q, rfl⟩ := hrel
      by_cases hlt : k < n
      · obtain ⟨b, o, rfl, _, hc1⟩ := HX.out.at' k hlt
        obtain ⟨b', o', rfl, _, hc2⟩ := HY.out.at' k hlt
        obtain ⟨x, hxx⟩ : ∃ x, x = xs.getD k 0 := ⟨_, rfl⟩
        obtain ⟨y, hyy⟩ : ∃ y, y = ys.getD k 0 := ⟨_, rfl⟩
        have d1 : w.cell? ⟨b, o + k, none⟩ = some (.int .i64 x) := by rw [hxx]; exact hc1
        have d2 : w.cell? ⟨b', o' + k, none⟩ = some (.int .i64 y) := by rw [hyy]; exact hc2
        have HE : Hid (∀ j, j < k → xs.getD j 0 = ys.getD j 0) := heq
        have HXX : Hid (x = xs.getD k 0) := hxx
        have HYY : Hid (y = ys.getD k 0) := hyy
        clear hc1 hc2 heq hxx hyy
        by_cases hxy : x = y
        · subst hxy
          go_wp2
          go_quiet (fail)
          go_wp2
          go_roundw
          case rel =>
            refine ⟨k + 1, by omega, by go_num, ?_, _, rfl⟩
            intro j hj
            by_cases hjk : j = k
            · subst hjk; rw [← HXX.out, ← HYY.out]
            · exact HE.out j (by omega)
          case measure => simp [intOf]; omega
        · have hne : (x == y) = false := by simpa using hxy
          have hf : decide (xs = ys) = false := by
            simp
            rintro rfl
            exact hxy (HXX.out.trans HYY.out.symm)
          have HF : Hid (decide (xs = ys) = false) := hf
          clear hf
          go_wp2
          go_quiet (fail)
          go_wp2
          go_ret
          exact ⟨by rw [HF.out]; rfl, _, drewN_add _ _ _⟩
      · have hkn : k = n := by omega
        subst hkn
        have ht : decide (xs = ys) = true := by
          simp
          apply List.ext_getElem (by omega)
          intro i h1 h2
          have := heq i (by omega)
          simpa [List.getD, h1, h2] using this
        have HT : Hid (decide (xs = ys) = true) := ht
        clear ht heq
        go_wp2
        go_ret
        exact ⟨by rw [HT.out]; rfl, q, rfl⟩
  · have hf : decide (xs = ys) = false := by
      simp
      rintro rfl
      omega
    rw [hf]
    clear hf
    have hnn : ((n : Int) == (n' : Int)) = false := by simp; omega
    go_enter Try.func16, Try.ntmps16
    go_wp2
    go_ret
    exact ⟨rfl, 0, rfl⟩

/-- the marks -/
def mks (j : Nat) : List Int := (List.range j).map (fun i : Nat => (-700 - (i : Int)))
theorem mks_succ (j : Nat) : mks (j + 1) = mks j ++ [-700 - (j : Int)] := by unfold mks; rw [List.range_succ, List.map_append]; rfl
theorem mks_length (j : Nat) : (mks j).length = j := by simp [mks]

set_option maxHeartbeats 2000000 in
theorem marked_any (G : Nat → Prop) (a : Option Addr) (n c : Nat) (xs : List Int) (w : World) (h : Zs w G a n c xs) (hn : n ≤ 17592186043904) :
    Calls Try.prog 11 #[.slice a n c] w fun ex w' => ∃ g cap, ex = .returned (.slice (some ⟨g, 0, none⟩) n cap) ∧ w'.ownsRow w.heap.size 2 1 (.slice (some ⟨g, 0, none⟩) (n + 40) cap) (n + 40) ((xs ++ mks 40).map iv) ∧ Below w.heap.size w w' := by
  obtain ⟨i0, hi, hz0, hz1, hz2⟩ := info_parts Try.info2
  have hl := h.len
  have HL : Hid (xs.length = n) := hl
  have HB : Hid (Zs w G a n c xs) := h
  clear h hl
  go_enter Try.func11, Try.ntmps11
  go_upto_region 2 with fail
  go_cut [3] (fun l wx => wx.ownsRow w.heap.size 2 1 l n (xs.map iv) ∧ Below w.heap.size w wx)
  case first =>
    cases a with
    | none =>
      have hc0 := HB.out.nil rfl
      have hn0 : n = 0 := by have := HB.out.cap; omega
      have hx0 : xs = [] := List.eq_nil_of_length_eq_zero (by rw [HL.out]; exact hn0)
      subst hc0 hn0 hx0
      go_wp2_with (at_builtin; refine wpList_append_own_none rfl (.tmp 5) (.tmp 6) 22 rfl w.heap.size 2 i0 1 Try.underlying22 hi _ _ _ rfl (World.ownsRow_nil _ _ _ _) rfl ?_)
      go_meet
      case rel => exact ⟨World.ownsRow_nil _ _ _ _, Below.refl _ _⟩
    | some ad =>
      go_wp2_with (at_builtin; refine wpList_append_own _ rfl _ _ 22 rfl w.heap.size 2 i0 (.int .i64 0) 1 8 Try.underlying22 hi hz0 hz1 hz2 rfl (by decide) _ 0 [] rfl (World.ownsRow_nil _ _ _ _) ad n c (xs.map iv) rfl (by rw [List.length_map, HL.out]; omega) HB.out.news (iv_one _) (by unfold maxLen; omega) (by omega) (Nat.le_refl _) ?_; intro v1 w1 own1 grow1 _)
      have hb1 : Below w.heap.size w w1 := (Below.refl _ _).grown grow1 (Nat.le_refl _) (fun k hk => by cases hk)
      rw [Nat.zero_add, List.nil_append] at own1
      clear grow1
      go_wp2
      go_meet
      case rel => exact ⟨own1, hb1⟩
  case rest =>
    obtain ⟨hown, hbel⟩ := hcut
    have OWN : Hid (wc.ownsRow w.heap.size 2 1 u3 n (xs.map iv)) := hown
    have BEL : Hid (Below w.heap.size w wc) := hbel
    clear hown hbel
    go_wp2
    go_loopw [3, 4] (fun l i wr => ∃ j : Nat, j ≤ 40 ∧ i = .int .i64 j ∧ wr.ownsRow w.heap.size 2 1 l (n + j) ((xs ++ mks j).map iv) ∧ Below w.heap.size w wr) (fun _ i _ => 40 - (intOf i).toNat)
    case atStart => exact ⟨0, by omega, rfl, by simpa [mks] using OWN.out, BEL.out⟩
    case round =>
      obtain ⟨j, hj, rfl, hown, hbel⟩ := hrel
      have HOW : Hid (wr.ownsRow w.heap.size 2 1 u3 (n + j) ((xs ++ mks j).map iv)) := hown
      have hs := hbel.size
      have HBE : Hid (Below w.heap.size w wr) := hbel
      by_cases hlt : j < 40
      · clear hown hbel
        go_wp2_with (at_builtin; refine wpList_append_own _ rfl _ _ 22 rfl w.heap.size 2 i0 (.int .i64 0) 1 8 Try.underlying22 hi hz0 hz1 hz2 rfl (by decide) _ _ _ rfl (HOW.out.alloc _) ⟨wr.heap.size, 0, none⟩ 1 1 [.int .i64 (-700 - j)] rfl rfl (cell_one_new _ _ _) (one_one _ _) (by unfold maxLen; omega) (by omega) (by simp; omega) ?_; intro v1 w1 own1 grow1 _)
        have hb1 : Below w.heap.size w w1 := (HBE.out.alloc hs _).grown grow1 (by simp; omega) (fun k hk => (HOW.out.lt k hk).1)
        have own2 : w1.ownsRow w.heap.size 2 1 v1 (n + (j + 1)) ((xs ++ mks (j + 1)).map iv) := by
          rw [mks_succ, ← List.append_assoc, List.map_append]; exact own1
        clear grow1 own1
        go_wp2
        go_roundw
        case rel => exact ⟨j + 1, by omega, by go_num, own2, hb1⟩
        case measure => simp [intOf]; omega
      · have hj70 : j = 40 := by omega
        subst hj70
        rcases owns_cells hown with ⟨_, h0⟩ | ⟨g, cap, rfl, hg1, hg2, hcap, hmax, _, _⟩
        · omega
        · have hmax2 : cap ≤ 9223372036854775807 := hmax
          clear hown hbel hmax
          go_wp2
          go_ret
          exact ⟨g, cap, rfl, HOW.out, HBE.out⟩

theorem Mm.spare {w : World} {B g : Nat} {v : Value} {xs ys : List Int} (h : Mm w B v xs ys) (hg : v.ownBlock = some g) {i : Nat} (hi : i < ys.length) : w.cell? ⟨g, xs.length + i, none⟩ = some (iv (ys.getD i 0)) := by
  obtain ⟨cap, cur, _, hh, _, hn, _, hs, ht⟩ := h.blk hg
  have e : cur.toList[xs.length + i]? = some (iv (ys.getD i 0)) := by
    have h1 : (cur.toList.take (xs.length + ys.length))[xs.length + i]? = cur.toList[xs.length + i]? := List.getElem?_take_of_lt (by omega)
    rw [← h1, ht, List.map_append, List.getElem?_append_right (by rw [List.length_map]; omega), List.length_map, Nat.add_sub_cancel_left, iv_get hi]
  simp [World.cell?, hh]
  simpa using e

theorem mks_get {i : Nat} (h : i < 40) : (mks 40).getD i 0 = -700 - (i : Int) := by
  simp [mks, List.getD, h]

/-- marked: the row as a memory -/
theorem marked_mm (G : Nat → Prop) (a : Option Addr) (n c : Nat) (xs : List Int) (w : World) (h : Zs w G a n c xs) (hn : n ≤ 17592186043904) :
    Calls Try.prog 11 #[.slice a n c] w fun ex w' => ∃ g cap, ex = .returned (.slice (some ⟨g, 0, none⟩) n cap) ∧ w.heap.size ≤ g ∧ Mm w' w.heap.size (.slice (some ⟨g, 0, none⟩) n cap) xs (mks 40) ∧ Kept No w w' := by
  refine (marked_any G a n c xs w h hn).mono ?_
  rintro ex w' ⟨g, cap, rfl, own, bel⟩
  have hl := h.len
  subst hl
  refine ⟨g, cap, rfl, (own.lt g rfl).1, .inr ⟨g, cap, rfl, ?_⟩, Kept.of_below bel⟩
  rw [mks_length]
  exact own

end Go.Proofs.Ytgapljgnedbkiaa
