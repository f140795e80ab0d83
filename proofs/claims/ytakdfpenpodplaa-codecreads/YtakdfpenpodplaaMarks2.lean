/-
  'let', 'turned', 'lay'.
-/
import Derived.Test.YtakdfpenpodplaaMarks
import Derived.Maps.AppendAt
namespace Go.Proofs.Ytakdfpenpodplaa
open Go.RowKit
set_option linter.unusedVariables false

/-- a store into an owned row -/
theorem owns_set {w : World} {B g i : Nat} {v : Value} {n : Nat} {ys : List Nat} (h : w.ownsRow B 5 1 v n (ys.map bv)) (hg : v.ownBlock = some g) (hi : i < ys.length) (x : Nat) : (w.setCell ⟨g, i, none⟩ (bv x)).ownsRow B 5 1 v n ((ys.set i x).map bv) := by
  obtain ⟨hl, ⟨rfl, h0⟩ | ⟨g', cap, cur, rfl, hb, hgg, hn, hm, hs, ht⟩⟩ := h
  · simp [Value.ownBlock] at hg
  · simp [Value.ownBlock] at hg
    subst hg
    refine ⟨by simpa using hl, .inr ⟨g', cap, cur.setIfInBounds i (bv x), rfl, hb, ?_, hn, hm, by rw [Array.size_setIfInBounds]; exact hs, ?_⟩⟩
    · simp [World.setCell, Array.getElem?_modify, hgg]
    · rw [Array.toList_setIfInBounds, List.take_set, ht, List.map_set]
theorem owns_at {w : World} {B g i : Nat} {v : Value} {n : Nat} {ys : List Nat} (h : w.ownsRow B 5 1 v n (ys.map bv)) (hg : v.ownBlock = some g) (hi : i < ys.length) : w.cell? ⟨g, i, none⟩ = some (bv (ys.getD i 0)) ∧ w.frozen? ⟨g, i, none⟩ = false := by
  rcases owns_cells h with ⟨rfl, _⟩ | ⟨g', cap, rfl, _, _, _, _, hc, hf⟩
  · simp [Value.ownBlock] at hg
  · simp [Value.ownBlock] at hg
    subst hg
    exact ⟨hc i _ (bv_get hi), hf i⟩

set_option maxHeartbeats 2000000 in
theorem let_any (B : Nat) (a : Option Addr) (n c : Nat) (xs : List Nat) (w : World) (h : w.ownsRow B 5 1 (.slice a n c) n (xs.map bv)) (hl : xs.length = n) (hn : n ≤ 140737488351232) :
    Calls Try.prog 18 #[.slice a n c] w fun ex w' => (∃ k, ex = .returned (.int .i64 k)) ∧ Kept (fun g => (Value.slice a n c).ownBlock = some g) w w' := by
  obtain ⟨i0, hi, hz0, hz1, hz2⟩ := info_parts Try.info5
  have HO : Hid (w.ownsRow B 5 1 (.slice a n c) n (xs.map bv)) := h
  have hsh : 0 < n → ∃ g, a = some ⟨g, 0, none⟩ := by
    intro hp
    rcases owns_cells h with ⟨_, h0⟩ | ⟨g, cap, hv, _⟩
    · omega
    · injection hv with h1 _ _; exact ⟨g, h1⟩
  have hmx : c ≤ 9223372036854775807 := by
    rcases owns_cells h with ⟨hv, h0⟩ | ⟨g, cap, hv, _, _, _, hm, _⟩
    · injection hv with _ _ h3; omega
    · injection hv with _ _ h3; rw [h3]; exact hm
  have HSH : Hid (0 < n → ∃ g, a = some ⟨g, 0, none⟩) := hsh
  have HLX : Hid (xs.length = n) := hl
  clear h hsh hl
  go_enter Try.func18, Try.ntmps18
  go_wp2
  go_loopw [3] (fun i wr => ∃ j : Nat, j ≤ n ∧ i = .int .i64 j ∧ Kept (fun g => (Value.slice a n c).ownBlock = some g) w wr ∧ ∃ ys : List Nat, ys.length = n ∧ wr.ownsRow B 5 1 (.slice a n c) n (ys.map bv)) (fun i _ => n - (intOf i).toNat)
  case atStart => exact ⟨0, by omega, rfl, Kept.refl _ _, xs, HLX.out, HO.out⟩
  case round =>
    obtain ⟨j, hj, rfl, hkp, ys, hyl, hown⟩ := hrel
    have HKP : Hid (Kept (fun g => (Value.slice a n c).ownBlock = some g) w wr) := hkp
    by_cases hlt : j < n
    · obtain ⟨g, rfl⟩ := HSH.out (by omega)
      obtain ⟨hcell, hfz⟩ := owns_at hown (g := g) rfl (i := j) (by omega)
      have HST := owns_set hown (g := g) rfl (i := j) (by omega) 51
      have HST2 : Hid ((wr.setCell ⟨g, j, none⟩ (.int .u8 51)).ownsRow B 5 1 (.slice (some ⟨g, 0, none⟩) n c) n ((ys.set j 51).map bv)) := HST
      clear hkp hown HST
      go_wp2
      go_roundw
      case rel => exact ⟨j + 1, by omega, by go_num, HKP.out.setCell (p := ⟨g, j, none⟩) (.inl rfl) _, ys.set j 51, by rw [List.length_set]; exact hyl, HST2.out⟩
      case measure => simp [intOf]; omega
    · have HOW : Hid (wr.ownsRow B 5 1 (.slice a n c) n (ys.map bv)) := hown
      clear hkp hown
      go_wp2
      go_loopw [4, 5] (fun l i wx => ∃ q : Nat, q ≤ 80 ∧ i = .int .i64 q ∧ Kept (fun g => (Value.slice a n c).ownBlock = some g) w wx ∧ (∃ zs, wx.ownsRow 0 5 1 l (n + q) zs) ∧ (∀ g, l.ownBlock = some g → (Value.slice a n c).ownBlock = some g ∨ w.heap.size ≤ g)) (fun _ i _ => 80 - (intOf i).toNat)
      case atStart => exact ⟨0, by omega, rfl, HKP.out, ⟨_, owns_base HOW.out (Nat.zero_le _)⟩, fun g hg => .inl hg⟩
      case round =>
        obtain ⟨q, hq, rfl, hkx, ⟨zs, hox⟩, hlx⟩ := hrel
        have HKX : Hid (Kept (fun g => (Value.slice a n c).ownBlock = some g) w wr) := hkx
        have HOX : Hid (wr.ownsRow 0 5 1 u4 (n + q) zs) := hox
        have HLL : Hid (∀ g, u4.ownBlock = some g → (Value.slice a n c).ownBlock = some g ∨ w.heap.size ≤ g) := hlx
        by_cases hl80 : q < 80
        · clear hkx hox hlx
          go_wp2_with (at_builtin; refine wpList_append_own_at _ rfl _ _ 22 rfl 0 5 i0 (.int .u8 0) 1 1 Try.underlying22 hi hz0 hz1 hz2 rfl (by decide) _ _ _ rfl (HOX.out.alloc _) ⟨wr.heap.size, 0, none⟩ 1 1 [.int .u8 68] rfl rfl (cell_one_new _ _ _) (one_one _ _) (by unfold maxLen; omega) (by omega) (Nat.zero_le _) ?_; intro v1 w1 own1 grow1 _ at1)
          have hk1 : Kept (fun g => (Value.slice a n c).ownBlock = some g) w w1 := (HKX.out.alloc _).grown grow1 HLL.out
          have hl1 : ∀ g, v1.ownBlock = some g → (Value.slice a n c).ownBlock = some g ∨ w.heap.size ≤ g := by
            intro g hg
            rcases at1 with h1 | h1
            · rw [h1] at hg; exact HLL.out g hg
            · rw [h1] at hg; injection hg with hg
              right; have := HKX.out.size; simp at hg; omega
          clear grow1 at1
          go_wp2
          go_roundw
          case rel => exact ⟨q + 1, by omega, by go_num, hk1, ⟨_, own1⟩, hl1⟩
          case measure => simp [intOf]; omega
        · have hsh4 : ∃ a4 c4, u4 = .slice a4 (n + q) c4 := by
            rcases owns_cells hox with ⟨rfl, h0⟩ | ⟨g, cap, rfl, _⟩
            · exact ⟨none, 0, by rw [h0]⟩
            · exact ⟨_, cap, rfl⟩
          obtain ⟨a4, c4, rfl⟩ := hsh4
          clear hkx hox hlx
          go_wp2
          go_ret
          exact ⟨⟨_, rfl⟩, HKX.out⟩

/-- other bytes, as many -/
def trn (xs : List Nat) : List Nat := xs.reverse.map (fun x => (x + 1) % 256)
theorem trn_len (xs : List Nat) : (trn xs).length = xs.length := by simp [trn]
theorem trn_lt (xs : List Nat) : ∀ x ∈ trn xs, x < 256 := by
  intro x hx; unfold trn at hx; rw [List.mem_map] at hx; obtain ⟨y, _, rfl⟩ := hx; exact Nat.mod_lt _ (by decide)
theorem trn_take (xs : List Nat) (j : Nat) (h : j < xs.length) : (trn xs).take (j + 1) = (trn xs).take j ++ [(xs.getD (xs.length - 1 - j) 0 + 1) % 256] := by
  have hl : j < (trn xs).length := by rw [trn_len]; exact h
  rw [List.take_add_one, List.getElem?_eq_getElem hl]
  congr 2
  simp only [trn, List.getElem_map, List.getElem_reverse]
  simp [List.getD, show xs.length - 1 - j < xs.length by omega]

set_option maxHeartbeats 2000000 in
theorem turned_any (G : Nat → Prop) (a : Option Addr) (n c : Nat) (xs : List Nat) (w : World) (h : Bs w G a n c xs) (hn : n ≤ 140737488351232) :
    Calls Try.prog 54 #[.slice a n c] w fun ex w' => ∃ v, ex = .returned v ∧ w'.ownsRow w.heap.size 5 1 v n ((trn xs).map bv) ∧ Below w.heap.size w w' := by
  obtain ⟨i0, hi, hz0, hz1, hz2⟩ := info_parts Try.info5
  have HL : Hid (xs.length = n) := h.len
  have HB : Hid (Bs w G a n c xs) := h
  have hcap := h.cap
  have hmx := h.max
  clear h
  go_enter Try.func54, Try.ntmps54
  go_wp2
  go_loopw [3, 4] (fun l i wr => ∃ j : Nat, j ≤ n ∧ i = .int .i64 ((n : Int) - 1 - j) ∧ wr.ownsRow w.heap.size 5 1 l j (((trn xs).take j).map bv) ∧ Below w.heap.size w wr) (fun _ i _ => (intOf i + 1).toNat)
  case atStart => exact ⟨0, by omega, by go_num, World.ownsRow_nil _ _ _ _, Below.refl _ _⟩
  case round =>
    obtain ⟨j, hj, rfl, hown, hbel⟩ := hrel
    have HOW : Hid (wr.ownsRow w.heap.size 5 1 u3 j (((trn xs).take j).map bv)) := hown
    have HBE : Hid (Below w.heap.size w wr) := hbel
    have hs := hbel.size
    by_cases hlt : j < n
    · obtain ⟨b, o, rfl, _, hc0⟩ := HB.out.at' (n - 1 - j) (by omega)
      obtain ⟨x, hx⟩ : ∃ x, x = xs.getD (n - 1 - j) 0 := ⟨_, rfl⟩
      have hcx : wr.cell? ⟨b, o + (n - 1 - j), none⟩ = some (.int .u8 (x : Nat)) := by rw [hx]; exact (hbel.cell (cell_lt hc0)).trans hc0
      have HT : Hid ((trn xs).take (j + 1) = (trn xs).take j ++ [(x + 1) % 256]) := by
        rw [hx, ← HL.out]; exact trn_take xs j (by rw [HL.out]; exact hlt)
      obtain ⟨ix, hix⟩ : ∃ ix : Nat, (ix : Int) = (n : Int) - 1 - j ∧ ix = n - 1 - j := ⟨n - 1 - j, by omega, rfl⟩
      rw [← hix.2] at hcx
      have hix1 := hix.1
      have hlt2 : ix < n := by omega
      rw [← hix1]
      have e1 : IntKind.u8.wrap ((x : Int) + 1) = (((x + 1) % 256 : Nat) : Int) := by rw [IntKind.wrap_u8]; omega
      have e2 : ((x : Int) + 1) % 256 = (((x + 1) % 256 : Nat) : Int) := by omega
      obtain ⟨y, hy⟩ : ∃ y, y = (x + 1) % 256 := ⟨_, rfl⟩
      rw [← hy] at e1 e2 HT
      have HIX : Hid ((ix : Int) = (n : Int) - 1 - j) := hix1
      clear hown hbel hc0 hx hix hy hix1
      go_wp2_with (at_builtin; refine wpList_append_own _ rfl _ _ 22 rfl w.heap.size 5 i0 (.int .u8 0) 1 1 Try.underlying22 hi hz0 hz1 hz2 rfl (by decide) _ _ _ rfl (HOW.out.alloc _) ⟨wr.heap.size, 0, none⟩ 1 1 [.int .u8 y] rfl rfl (cell_one_new _ _ _) (one_one _ _) (by unfold maxLen; omega) (by omega) (by simp; omega) ?_; intro v1 w1 own1 grow1 _)
      have hb1 : Below w.heap.size w w1 := (HBE.out.alloc hs _).grown grow1 (by simp; omega) (fun k hk => (HOW.out.lt k hk).1)
      have own2 : w1.ownsRow w.heap.size 5 1 v1 (j + 1) (((trn xs).take (j + 1)).map bv) := by
        rw [HT.out, List.map_append]; exact own1
      clear grow1 own1
      go_wp2
      go_roundw
      case rel => exact ⟨j + 1, by omega, by have := HIX.out; first | (go_num; omega) | (congr 1; omega) | go_num, own2, hb1⟩
      case measure => have := HIX.out; simp [intOf] <;> omega
    · have hjn : j = n := by omega
      subst hjn
      rw [List.take_of_length_le (by rw [trn_len, HL.out]; omega)] at hown
      clear HOW
      have HOW : Hid (wr.ownsRow w.heap.size 5 1 u3 j ((trn xs).map bv)) := hown
      clear hown hbel
      go_wp2
      go_ret
      exact ⟨_, rfl, HOW.out, HBE.out⟩

set_option maxHeartbeats 2000000 in
theorem layB_any (G : Nat → Prop) (B : Nat) (ta a : Option Addr) (n tc c : Nat) (xs ys : List Nat) (w : World) (ho : w.ownsRow B 5 1 (.slice ta n tc) n (xs.map bv)) (hxl : xs.length = n) (h : Bs w G a n c ys) (hG : ∀ g, (Value.slice ta n tc).ownBlock = some g → ¬ G g) (hn : n ≤ 140737488351232) :
    Calls Try.prog 55 #[.slice ta n tc, .slice a n c] w fun ex w' => ex = .returned (.tuple #[]) ∧ w'.ownsRow B 5 1 (.slice ta n tc) n (ys.map bv) ∧ Kept (fun g => (Value.slice ta n tc).ownBlock = some g) w w' := by
  have HO : Hid (w.ownsRow B 5 1 (.slice ta n tc) n (xs.map bv)) := ho
  have HXL : Hid (xs.length = n) := hxl
  have HYL : Hid (ys.length = n) := h.len
  have HB : Hid (Bs w G a n c ys) := h
  have HG : Hid (∀ g, (Value.slice ta n tc).ownBlock = some g → ¬ G g) := hG
  have HSH : Hid (0 < n → ∃ g, ta = some ⟨g, 0, none⟩) := by
    intro hp
    rcases owns_cells ho with ⟨_, h0⟩ | ⟨g, cap, hv, _⟩
    · omega
    · injection hv with h1 _ _; exact ⟨g, h1⟩
  clear ho hxl h hG
  go_enter Try.func55, Try.ntmps55
  go_wp2
  go_loopw [4] (fun i wr => ∃ j : Nat, j ≤ n ∧ i = .int .i64 j ∧ wr.ownsRow B 5 1 (.slice ta n tc) n ((ys.take j ++ xs.drop j).map bv) ∧ Kept (fun g => (Value.slice ta n tc).ownBlock = some g) w wr) (fun i _ => n - (intOf i).toNat)
  case atStart => exact ⟨0, by omega, rfl, by simpa using HO.out, Kept.refl _ _⟩
  case round =>
    obtain ⟨j, hj, rfl, hown, hkp⟩ := hrel
    have HKP : Hid (Kept (fun g => (Value.slice ta n tc).ownBlock = some g) w wr) := hkp
    by_cases hlt : j < n
    · obtain ⟨g, rfl⟩ := HSH.out (by omega)
      obtain ⟨b, o, rfl, hGb, hc0⟩ := HB.out.at' j hlt
      obtain ⟨y, hy⟩ : ∃ y, y = ys.getD j 0 := ⟨_, rfl⟩
      have hcy : wr.cell? ⟨b, o + j, none⟩ = some (.int .u8 (y : Nat)) := by rw [hy]; exact hkp.cell hc0 (fun e => HG.out b e hGb)
      have hll : (ys.take j ++ xs.drop j).length = n := by rw [List.length_append, List.length_take, List.length_drop, HYL.out, HXL.out]; omega
      obtain ⟨hcell, hfz⟩ := owns_at hown (g := g) rfl (i := j) (by omega)
      have hst := owns_set hown (g := g) rfl (i := j) (by omega) y
      have hset : (ys.take j ++ xs.drop j).set j y = ys.take (j + 1) ++ xs.drop (j + 1) := by
        have hjy : j < ys.length := by rw [HYL.out]; exact hlt
        have hjx : j < xs.length := by rw [HXL.out]; exact hlt
        rw [List.set_append_right _ _ (by rw [List.length_take]; omega), List.length_take, Nat.min_eq_left (by omega), Nat.sub_self, List.drop_eq_getElem_cons hjx, List.set_cons_zero, List.take_add_one, List.getElem?_eq_getElem hjy, List.append_assoc]
        have e : y = ys[j] := by rw [hy]; simp [List.getD, hjy]
        rw [e]; rfl
      rw [hset] at hst
      have HST : Hid ((wr.setCell ⟨g, j, none⟩ (.int .u8 (y : Nat))).ownsRow B 5 1 (.slice (some ⟨g, 0, none⟩) n tc) n ((ys.take (j + 1) ++ xs.drop (j + 1)).map bv)) := hst
      clear hown hkp hst hset hll hc0 hy
      go_wp2
      go_roundw
      case rel => exact ⟨j + 1, by omega, by go_num, HST.out, HKP.out.setCell (p := ⟨g, j, none⟩) (.inl rfl) _⟩
      case measure => simp [intOf]; omega
    · have hjn : j = n := by omega
      subst hjn
      rw [List.take_of_length_le (by rw [HYL.out]; omega), List.drop_eq_nil_of_le (by rw [HXL.out]; omega), List.append_nil] at hown
      have HOW : Hid (wr.ownsRow B 5 1 (.slice ta j tc) j (ys.map bv)) := hown
      clear hown hkp
      go_wp2
      go_end0
      exact ⟨rfl, HOW.out, HKP.out⟩

end Go.Proofs.Ytakdfpenpodplaa
