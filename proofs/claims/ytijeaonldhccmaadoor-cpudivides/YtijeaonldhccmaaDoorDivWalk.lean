/-
  'CpuDivides'.
-/
import Derived.Test.YtijeaonldhccmaaDoorSure
import Derived.Test.YtijeaonldhccmaaDoorGuards
import Derived.Test.YtijeaonldhccmaaDoorReck
namespace Go.Proofs.YtijeaonldhccmaaDoor
open Go.RowKit
set_option linter.unusedVariables false

def r1 (b : Int) : Nat → Int := upd zeroR 1 b
theorem r1_C (b : Int) : #[Value.int .i64 0, .int .i64 b, .int .i64 0, .int .i64 0, .int .i64 0, .int .i64 0, .int .i64 0, .int .i64 0, .int .i64 0, .int .i64 0, .int .i64 0, .int .i64 0, .int .i64 0, .int .i64 0, .int .i64 0, .int .i64 0] = regC (r1 b) := rfl
theorem ok1 : Ins.ok ⟨11, 1, 1, 2, 0⟩ := by unfold Ins.ok; dsimp only; omega
theorem stepE_mod0 (b : Int) : stepE [⟨11, 1, 1, 2, 0⟩] [] 0 (r1 b) 0 = ⟨r1 b, 1, false, 0, 0, 3, 0⟩ := by
  unfold stepE
  rw [if_pos (by simp)]
  unfold opE
  rw [show (Ins.lg (List.getD [⟨11, 1, 1, 2, 0⟩] (0 : Int).toNat ins0)) = lg 11 1 1 2 0 from rfl, show lg 11 1 1 2 0 = true by decide, if_pos rfl]
  rw [show List.getD [(⟨11, 1, 1, 2, 0⟩ : Ins)] (0 : Int).toNat ins0 = ⟨11, 1, 1, 2, 0⟩ from rfl, doE11, show r1 b 2 = 0 from rfl, if_pos (show ((0 : Int) == 0) = true from rfl), one_pc]

set_option maxHeartbeats 1000000 in
set_option maxRecDepth 100000 in
theorem div_zero (b : Int) (w : World) (hO : Ops w) :
    Calls Tryd.prog 3 #[.int .i64 b, .int .i64 0] w fun ex w' => ex = .returned (.bool true) ∧ Below w.heap.size w w' := by
  have HOO : Hid (Ops w) := hO
  have c1 := d10n b w hO
  have c2 := fun w0 (b0 : Below w.heap.size w w0) => d11n b w0 (HOO.out.below b0 HOO.out.pos)
  have c3 := fun w0 (b0 : Below w.heap.size w w0) => known_yes w0 (HOO.out.below b0 HOO.out.pos)
  clear hO
  go_enter Tryd.func3, Tryd.ntmps3
  go_upto_region 6 with (first
    | (go_at_call_of 10 (Value.int IntKind.u8 10); refine c1.mono ?_; rintro ex w1 ⟨rfl, b1⟩)
    | (go_at_call_of 10 (Value.int IntKind.u8 11); refine (c2 _ b1).mono ?_; rintro ex w2 ⟨rfl, b2⟩; have b2 := b1.trans (b2.mono b1.size))
    | (go_at_call 11; refine (c3 _ b2).mono ?_; rintro ex w3 ⟨rfl, b3⟩; have b3 := b2.trans (b3.mono b2.size)))
  have H1 := heap_alloc_last w3 (.cells (regC (r1 b)) 25)
  have B1 := b3.alloc b3.size (.cells (regC (r1 b)) 25)
  clear b1 b2 c1 c2 c3
  go_upto_region 8 with fail
  rw [r1_C]
  generalize w3.alloc (.cells (regC (r1 b)) 25) = w4 at H1 B1 ⊢
  have hlt := heap_lt H1
  have hge := b3.size
  have c12 := step_any _ No (r1 b) _ none 1 1 0 0 0 0 _ [] _ (cs_one w4 ⟨11, 1, 1, 2, 0⟩ ok1) (zs_nil _) (HOO.out.below (B1.alloc B1.size _) HOO.out.pos)
  rw [stepE_mod0, ef_v] at c12
  have B2 := B1.alloc B1.size (.cells #[.int .u8 11, .int .u8 1, .int .u8 1, .int .u8 2, .int .i32 0] 30)
  have H2 := (Below.heap_alloc w4 (.cells #[.int .u8 11, .int .u8 1, .int .u8 1, .int .u8 2, .int .i32 0] 30) _ hlt).trans H1
  go_upto_region 9 with (first
    | (refine wl_load25 _ rfl rfl (r1 b) w3.heap.size rfl H2 ?_)
    | (go_at_call 12; refine c12.mono ?_; rintro ex w5 ⟨rfl, b5⟩)
    | (refine wl_alloc27 rfl rfl ?_)
    | (refine wl_store27 _ _ rfl rfl (r1 b) 1 false 0 0 3 0 _ _ rfl rfl (heap_alloc_last _ _) rfl ?_; rw [new_store]))
  have B3 : Below w.heap.size w w5 := B2.trans (b5.mono B2.size)
  have H3 : w5.heap[w3.heap.size]? = some (.cells (regC (r1 b)) 25) := (b5.block _ (heap_lt H2)).trans H2
  clear b5 c12 H2 B2 H1 B1
  have HQ := heap_alloc_last w5 (.cells (effC (r1 b) 1 false 0 0 3 0) 27)
  have HR := (Below.heap_alloc w5 (.cells (effC (r1 b) 1 false 0 0 3 0) 27) _ (heap_lt H3)).trans H3
  have B4 := B3.alloc B3.size (.cells (effC (r1 b) 1 false 0 0 3 0) 27)
  generalize w5.alloc (.cells (effC (r1 b) 1 false 0 0 3 0) 27) = w6 at HQ HR B4 ⊢
  generalize w5.heap.size = q at HQ ⊢
  obtain ⟨e16, e17, _, _, e20, e21, _⟩ := c21 HQ
  have EQ := eqR_self (r1 b)
  have RE := range_eff HQ
  have RR := range_reg HR
  clear H3 B3 HQ HR
  go_wp2_with (first
    | (refine wg_load25 _ rfl rfl q 0 (r1 b) rfl RE ?_)
    | (refine wg_load25 _ rfl rfl w3.heap.size 0 (r1 b) rfl RR ?_)
    | (refine wg_eq25 _ _ _ rfl rfl (r1 b) (r1 b) rfl rfl ?_; rw [EQ]))
  go_ret
  exact ⟨rfl, B4⟩

def mag (r c : Int) : Bool := (c == -9223372036854775808) || ((decide (c > 0) && decide (r < c)) || (decide (c < 0) && decide (r < wrap64 (-c))))

set_option maxHeartbeats 1000000 in
set_option maxRecDepth 100000 in
theorem div_some (b c : Int) (hb : I6 b) (hc : I6 c) (h0 : c ≠ 0) (w : World) (hO : Ops w) :
    Calls Tryd.prog 3 #[.int .i64 b, .int .i64 c] w fun ex w' => ex = .returned (.bool true) ∧ Below w.heap.size w w' := by
  have HOO : Hid (Ops w) := hO
  have e0 : wrap64 (rm b c) = rm b c := w6_id (rm_I6 hc h0)
  have hbd := rm_bd (b := b) h0
  have hqr := qt_rm (c := c) hb
  have c1 := d10 b c h0 w hO
  have c2 := fun w0 (b0 : Below w.heap.size w w0) => d11 b c h0 w0 (HOO.out.below b0 HOO.out.pos)
  rw [e0] at c2
  have c3 := fun w0 (b0 : Below w.heap.size w w0) => known_yes w0 (HOO.out.below b0 HOO.out.pos)
  generalize rm b c = r at *
  generalize qt b c = q at *
  have c4 := fun w0 (b0 : Below w.heap.size w w0) => s9 q c w0 (HOO.out.below b0 HOO.out.pos)
  have c5 := fun w0 (b0 : Below w.heap.size w w0) => s7 (wrap64 (q * c)) r w0 (HOO.out.below b0 HOO.out.pos)
  rw [hqr] at c5
  generalize wrap64 (q * c) = p at *
  clear hO hqr e0
  have hz : (c == 0) = false := by simpa using h0
  have hz2 : (c != 0) = true := by simpa using h0
  have hr0 := hbd.1
  have HBD : Hid (r < c.natAbs ∧ I6 c) := ⟨hbd.2, hc⟩
  clear hbd hc hb h0
  go_enter Tryd.func3, Tryd.ntmps3
  go_upto_region 12 with (first
    | (go_at_call_of 10 (Value.int IntKind.u8 10); refine c1.mono ?_; rintro ex w1 ⟨rfl, b1⟩)
    | (go_at_call_of 10 (Value.int IntKind.u8 11); refine (c2 _ b1).mono ?_; rintro ex w2 ⟨rfl, b2⟩; have b2 := b1.trans (b2.mono b1.size))
    | (go_at_call 11; refine (c3 _ b2).mono ?_; rintro ex w3 ⟨rfl, b3⟩; have b3 := b2.trans (b3.mono b2.size))
    | (go_at_call_of 13 (Value.int IntKind.u8 9); refine (c4 _ b3).mono ?_; rintro ex w4 ⟨rfl, b4⟩; have b4 := b3.trans (b4.mono b3.size))
    | (go_at_call_of 13 (Value.int IntKind.u8 7); refine (c5 _ b4).mono ?_; rintro ex w5 ⟨rfl, b5⟩; have b5 := b4.trans (b5.mono b4.size)))
  clear b1 b2 b3 b4 c1 c2 c3 c4 c5 hz hz2
  by_cases hl : c = -9223372036854775808
  · have hl2 : (c == -9223372036854775808) = true := by simpa using hl
    clear hl
    go_wp2
    go_ret
    exact ⟨rfl, b5⟩
  · have hl2 : (c == -9223372036854775808) = false := by simpa using hl
    by_cases hp : c > 0
    · have hrc : r < c := by have := HBD.out.1; omega
      clear hl
      go_wp2
      go_ret
      exact ⟨rfl, b5⟩
    · have hn : c < 0 ∨ c = 0 := by omega
      have hn2 : c < 0 := by
        have h1 := HBD.out.1
        rcases hn with h | h
        · exact h
        · subst h; simp at h1; omega
      have hrc : r < wrap64 (-c) := by
        have h1 := HBD.out.1
        have h2 := HBD.out.2
        unfold I6 at h2
        rw [w6_id (by unfold I6; omega)]
        omega
      clear hl hn
      go_wp2
      go_ret
      exact ⟨rfl, b5⟩

theorem div_walk (b c : Int) (hb : I6 b) (hc : I6 c) (w : World) (hO : Ops w) :
    Calls Tryd.prog 3 #[.int .i64 b, .int .i64 c] w fun ex w' => ex = .returned (.bool true) ∧ Below w.heap.size w w' := by
  by_cases h : c = 0
  · subst h; exact div_zero b w hO
  · exact div_some b c hb hc h w hO

end Go.Proofs.YtijeaonldhccmaaDoor
