/-
  The document's Seal and Unseal.
-/
import Derived.Test.YtakdfpenpodplaaRefSum
import Derived.Test.YtakdfpenpodplaaSealPlain
import Derived.Deep.DeepCutAuto
namespace Go.Proofs.Ytakdfpenpodplaa
open Go.RowKit
set_option linter.unusedVariables false

theorem lit4_own (w : World) (kind : Nat) : (w.alloc (.cells #[.int .u8 66, .int .u8 75, .int .u8 kind, .int .u8 1] 5)).ownsRow w.heap.size 5 1 (.slice (some ⟨w.heap.size, 0, none⟩) 4 4) 4 (([66, 75, kind, 1] : List Nat).map bv) :=
  ⟨rfl, .inr ⟨w.heap.size, 4, _, rfl, Nat.le_refl _, heap_alloc_new _ _, Nat.le_refl _, by unfold maxLen; omega, rfl, rfl⟩⟩
theorem le_take (S j : Nat) : le S (j + 1) = le S j ++ [S / 2 ^ (8 * j) % 256] := by
  rw [le_succ, show (256 : Nat) ^ j = 2 ^ (8 * j) from by rw [Nat.pow_mul]]

set_option maxHeartbeats 4000000 in
theorem refSeal_any (G : Nat → Prop) (kind : Nat) (a : Option Addr) (n c : Nat) (xs : List Nat) (w : World) (hk : kind < 256) (h : Bs w G a n c xs) :
    Calls Try.prog 16 #[.int .u8 kind, .slice a n c] w fun ex w' => ∃ a' n' c', ex = .returned (.tuple #[.slice a' n' c', .int .i64 (sealE xs)]) ∧ w'.ownsRow w.heap.size 5 1 (.slice a' n' c') (sealX kind xs).length ((sealX kind xs).map bv) ∧ Below w.heap.size w w' := by
  obtain ⟨i0, hi, hz0, hz1, hz2⟩ := info_parts Try.info5
  have hl := h.len
  have HL : Hid (xs.length = n) := hl
  have HB : Hid (Bs w G a n c xs) := h
  by_cases hn : 4194304 < n
  · rw [show sealX kind xs = [] from if_pos (by omega), show sealE xs = 1 from if_pos (by omega)]
    clear h hl
    go_enter Try.func16, Try.ntmps16
    go_wp2
    go_ret2
    exact ⟨none, 0, 0, rfl, World.ownsRow_nil _ _ _ _, Below.refl _ _⟩
  · have e1 : sealX kind xs = sealed kind xs := if_neg (by omega)
    have e2 : sealE xs = 0 := if_neg (by omega)
    rw [e1, e2]
    have HO1 : Hid ((w.alloc (.cells #[.int .u8 66, .int .u8 75, .int .u8 kind, .int .u8 1] 5)).ownsRow w.heap.size 5 1 (.slice (some ⟨w.heap.size, 0, none⟩) 4 4) 4 (([66, 75, kind, 1] : List Nat).map bv)) := lit4_own w kind
    have HBL1 : Hid (Below w.heap.size w (w.alloc (.cells #[.int .u8 66, .int .u8 75, .int .u8 kind, .int .u8 1] 5))) := (Below.refl _ _).alloc (Nat.le_refl _) _
    have hs1 : (w.alloc (.cells #[.int .u8 66, .int .u8 75, .int .u8 kind, .int .u8 1] 5)).heap.size = w.heap.size + 1 := size_alloc _ _
    have HS1 : Hid ((w.alloc (.cells #[.int .u8 66, .int .u8 75, .int .u8 kind, .int .u8 1] 5)).heap.size = w.heap.size + 1) := hs1
    have c53 := number_ref_any n 4 (w.alloc (.cells #[.int .u8 66, .int .u8 75, .int .u8 kind, .int .u8 1] 5)) (by omega) (by omega)
    have e3 : IntKind.u64.wrap (n : Int) = (n : Int) := by rw [IntKind.wrap_u64]; omega
    clear e1 e2 h hl hs1
    go_enter Try.func16, Try.ntmps16
    go_upto_region 4 with fail
    go_cut [6] (fun out wx => wx.ownsRow w.heap.size 5 1 out 8 (([66, 75, kind, 1] ++ be n 4).map bv) ∧ Below w.heap.size w wx)
    case first =>
      go_wp2_with (first | (go_at_call 53; refine c53.mono ?_; rintro ex w2 ⟨v2, rfl, own2, bel2⟩; obtain ⟨g2, k2, hv2, hB2⟩ := Bs.of_owns (w := w2) (base := (w.alloc (.cells #[.int .u8 66, .int .u8 75, .int .u8 kind, .int .u8 1] 5)).heap.size) (e := 5) (v := v2) (xs := be n 4) (by rw [be_length]; exact own2) (be_lt _ _); rw [be_length] at hv2 hB2; obtain ⟨gb, go, rfl, _, _⟩ := hB2.at' 0 (by omega); subst hv2; have own3 : w2.ownsRow w.heap.size 5 1 (.slice (some ⟨w.heap.size, 0, none⟩) 4 4) 4 (([66, 75, kind, 1] : List Nat).map bv) := (Kept.of_below (F := No) bel2).owns HO1.out (fun _ _ h => h); have hw2 : w.heap.size ≤ w2.heap.size := (by have := bel2.size; rw [HS1.out] at this; omega); clear own2) | (at_builtin; refine wpList_append_own _ rfl _ _ 22 rfl w.heap.size 5 i0 (.int .u8 0) 1 1 Try.underlying22 hi hz0 hz1 hz2 rfl (by decide) _ _ _ rfl own3 ⟨gb, go, none⟩ 4 k2 ((be n 4).map bv) rfl (by rw [List.length_map, be_length]) hB2.news (bv_one _) (by unfold maxLen; omega) (by omega) hw2 ?_; intro v4 w4 own4 grow4 _))
      have bel4 : Below w.heap.size w w4 := (HBL1.out.trans (bel2.mono (by rw [HS1.out]; omega))).grown grow4 hw2 (fun j hj => (own3.lt j hj).1)
      rw [← List.map_append] at own4
      clear grow4 own3 hB2 bel2
      go_wp2
      go_meet
      case rel => exact ⟨own4, bel4⟩
    case rest =>
      obtain ⟨hown, hbel⟩ := hcut
      have OWN : Hid (wc.ownsRow w.heap.size 5 1 u6 8 (([66, 75, kind, 1] ++ be n 4).map bv)) := hown
      have BEL : Hid (Below w.heap.size w wc) := hbel
      have hsc := hbel.size
      clear hown hbel c53
      go_upto_region 5 with fail
      go_cut [6] (fun out wx => wx.ownsRow w.heap.size 5 1 out (8 + n) ((sealHead kind xs).map bv) ∧ Below w.heap.size w wx)
      case first =>
        have hsh : sealHead kind xs = ([66, 75, kind, 1] ++ be n 4) ++ xs := by unfold sealHead; rw [HL.out]
        have HSH : Hid (sealHead kind xs = ([66, 75, kind, 1] ++ be n 4) ++ xs) := hsh
        have HBc : Hid (Bs wc G a n c xs) := HB.out.below BEL.out
        clear hsh
        cases a with
        | none =>
          have hc0 := HB.out.nil rfl
          have hn0 : n = 0 := by have := HB.out.cap; omega
          have hx0 : xs = [] := List.eq_nil_of_length_eq_zero (by rw [HL.out]; exact hn0)
          subst hc0 hn0 hx0
          go_wp2_with (at_builtin; refine wpList_append_own_none rfl (.tmp 20) (.tmp 21) 22 rfl w.heap.size 5 i0 1 Try.underlying22 hi _ _ _ rfl OWN.out rfl ?_)
          go_meet
          case rel => exact ⟨by rw [HSH.out, List.append_nil]; exact OWN.out, BEL.out⟩
        | some ad =>
          go_wp2_with (at_builtin; refine wpList_append_own _ rfl _ _ 22 rfl w.heap.size 5 i0 (.int .u8 0) 1 1 Try.underlying22 hi hz0 hz1 hz2 rfl (by decide) _ _ _ rfl OWN.out ad n c (xs.map bv) rfl (by rw [List.length_map, HL.out]; omega) HBc.out.news (bv_one _) (by unfold maxLen; omega) (by omega) hsc ?_; intro v4 w4 own4 grow4 _)
          have bel4 : Below w.heap.size w w4 := BEL.out.grown grow4 hsc (fun j hj => (OWN.out.lt j hj).1)
          rw [← List.map_append, ← HSH.out] at own4
          clear grow4
          go_wp2
          go_meet
          case rel => exact ⟨own4, bel4⟩
      case rest =>
        obtain ⟨hown, hbel⟩ := hcut
        obtain ⟨Wc, hWc⟩ : ∃ Wc, Wc = wc := ⟨_, rfl⟩
        have hhl : (sealHead kind xs).length = 8 + n := by rw [sealHead_length, HL.out]; omega
        have hlt : ∀ x ∈ sealHead kind xs, x < 256 := fun x hx => sealed_lt hk HB.out.lt x (by unfold sealed; exact List.mem_append_left _ hx)
        obtain ⟨ga, gc, hv, hBs⟩ := Bs.of_owns (w := wc) (base := w.heap.size) (e := 5) (v := u6) (xs := sealHead kind xs) (by rw [hhl]; exact hown) hlt
        rw [hhl] at hv hBs
        subst hv
        have c15 := refSum_any _ ga (8 + n) gc (sealHead kind xs) wc hBs
        have OWN2 : Hid (wc.ownsRow w.heap.size 5 1 (.slice ga (8 + n) gc) (8 + n) ((sealHead kind xs).map bv)) := hown
        have BEL2 : Hid (Below w.heap.size w wc) := hbel
        have hS := crc_lt (sealHead kind xs)
        have HSE : Hid (sealed kind xs = sealHead kind xs ++ le (crc (sealHead kind xs)) 4) := rfl
        obtain ⟨hd, hhd⟩ : ∃ hd, hd = sealHead kind xs := ⟨_, rfl⟩
        have HHD : Hid (hd = sealHead kind xs) := hhd
        rw [← hhd] at c15 hS OWN2
        obtain ⟨S, hSS⟩ : ∃ S, S = crc hd := ⟨_, rfl⟩
        have HSS : Hid (S = crc hd) := hSS
        rw [← hSS] at c15 hS
        clear hown hbel hBs hlt hhl hhd hSS hWc
        go_upto_region 7 with (go_at_call 15; refine c15.mono ?_; rintro ex w5 ⟨rfl, hw⟩; obtain rfl := hw.symm)
        clear c15
        go_wp2
        go_loopw [6, 8] (fun out i wr => ∃ j : Nat, j ≤ 4 ∧ i = .int .i64 j ∧ wr.ownsRow w.heap.size 5 1 out (8 + n + j) ((hd ++ le S j).map bv) ∧ Below w.heap.size w wr) (fun _ i _ => 4 - (intOf i).toNat)
        case atStart => exact ⟨0, by omega, rfl, by simpa [le] using OWN2.out, BEL2.out⟩
        case round =>
          obtain ⟨j, hj, rfl, hown, hbel⟩ := hrel
          have HOW : Hid (wr.ownsRow w.heap.size 5 1 u6 (8 + n + j) ((hd ++ le S j).map bv)) := hown
          have HBE : Hid (Below w.heap.size w wr) := hbel
          have hs := hbel.size
          by_cases hj4 : j < 4
          · obtain ⟨s, hs2⟩ : ∃ s : Nat, s = 8 * j := ⟨_, rfl⟩
            obtain ⟨y, hy⟩ : ∃ y : Nat, y = S / 2 ^ s % 256 := ⟨_, rfl⟩
            have e5 : IntKind.i64.wrap (8 * (j : Int)) = (s : Int) := by rw [IntKind.wrap_i64]; omega
            have e5' : 8 * (j : Int) = (s : Int) := by omega
            have e6 : (S : Int) / 2 ^ s % 256 = (y : Int) := by rw [hy]; simp
            have e7 : IntKind.u8.wrap ((S : Int) / 2 ^ s) = (y : Int) := by rw [hy, IntKind.wrap_u8]; simp
            have hs32 : s < 32 := by omega
            have HT : Hid (le S (j + 1) = le S j ++ [y]) := by rw [hy, hs2]; exact le_take S j
            clear hown hbel hs2 hy
            go_wp2_with (at_builtin; refine wpList_append_own _ rfl _ _ 22 rfl w.heap.size 5 i0 (.int .u8 0) 1 1 Try.underlying22 hi hz0 hz1 hz2 rfl (by decide) _ _ _ rfl (HOW.out.alloc _) ⟨wr.heap.size, 0, none⟩ 1 1 [.int .u8 y] rfl rfl (cell_one_new _ _ _) (one_one _ _) (by unfold maxLen; omega) (by omega) (by simp; omega) ?_; intro v1 w1 own1 grow1 _)
            have hb1 : Below w.heap.size w w1 := (HBE.out.alloc hs _).grown grow1 (by simp; omega) (fun i hi => (HOW.out.lt i hi).1)
            have own2 : w1.ownsRow w.heap.size 5 1 v1 (8 + n + (j + 1)) ((hd ++ le S (j + 1)).map bv) := by rw [HT.out, ← List.append_assoc, List.map_append]; exact own1
            clear grow1 own1
            go_wp2
            go_roundw
            case rel => exact ⟨j + 1, by omega, by go_num, own2, hb1⟩
            case measure => simp [intOf]; omega
          · have hj4 : j = 4 := by omega
            subst hj4
            have hsl : (sealed kind xs).length = 8 + n + 4 := by rw [sealed_length, HL.out]; omega
            have hse : hd ++ le S 4 = sealed kind xs := by rw [HSE.out, ← HHD.out, ← HSS.out]
            rw [hse] at hown
            obtain ⟨a9, c9, rfl⟩ : ∃ a9 c9, u6 = .slice a9 (8 + n + 4) c9 := by
              rcases owns_cells hown with ⟨_, h0⟩ | ⟨g, cap, rfl, _⟩
              · omega
              · exact ⟨_, cap, rfl⟩
            have HOW9 : Hid (wr.ownsRow w.heap.size 5 1 (.slice a9 (8 + n + 4) c9) (sealed kind xs).length ((sealed kind xs).map bv)) := by rw [hsl]; exact hown
            clear hown hbel hse hsl HOW
            go_wp2
            go_ret2
            exact ⟨a9, _, c9, rfl, HOW9.out, HBE.out⟩

end Go.Proofs.Ytakdfpenpodplaa
