/-
  The walk of OccAbove.
-/
import Derived.Test.YticnkekedhhbaaaGreatDoorORests
import Derived.Test.YticnkekedhhbaaaGreatDoorOWorks
import Derived.Test.YticnkekedhhbaaaGreatDoorOSrvs
namespace Go.Proofs.YticnkekedhhbaaaGreatDoor
open Go.RowKit Go.Shelf Plain
set_option linter.unusedVariables false
set_option maxRecDepth 100000

theorem eachF_neA {r : Nat → Int} {first : Int} : ∀ {n : Nat} {p : Int × Int}, eachF r first n = some p → p.1 ≠ 0
  | 0, p, h => by cases h
  | n + 1, p, h => by
    rw [eachF] at h
    cases he : eachF r first n with
    | some q => rw [he] at h; injection h with h; subst h; exact eachF_neA he
    | none =>
      rw [he] at h
      simp only at h
      by_cases h0 : r n = 0
      · rw [if_pos h0] at h; cases h
      · rw [if_neg h0] at h; injection h with h; subst h; exact h0
theorem tim_neA {xs : List Srv} {n : Nat} {p : Int × Int} (h : timF xs n = some p) : p.1 ≠ 0 := by
  unfold timF at h
  cases hf : findF xs n with
  | some q =>
    rw [hf] at h
    injection h with h
    subst h
    unfold findF at hf
    by_cases h32 : n ≤ 32
    · rw [if_pos h32] at hf; exact eachF_neA hf
    · rw [if_neg h32] at hf; injection hf with hf; subst hf; decide
  | none =>
    rw [hf] at h
    unfold togF at h
    by_cases hb : lcmB (zP xs) n 1048576 = true
    · rw [if_pos hb] at h
      by_cases hr : relF (lcmV (zP xs) n 1048576) xs n ≤ 65536
      · rw [if_pos hr] at h; cases h
      · rw [if_neg hr] at h; injection h with h; subst h; decide
    · rw [if_neg hb] at h; injection h with h; subst h; decide


section
variable {o : Oper} {a : Act} {w : World}
theorem er_eqI (x y : Operand) (ho : o.op = .binOp .eql 3 x y 3) (k l : Int) (bb : Bool) (hx : a.eval x = .int .i64 k) (hy : a.eval y = .int .i64 l) (hb : decide (k = l) = bb) : (execOp a.eval o).run Tryz.prog w = .ok (.value (.bool bb)) w := by
  subst hb
  simp only [execOp, ho, hx, hy]; simp [go_sem]
  by_cases h : k = l <;> simp [h]
theorem er_eqB (x y : Operand) (ho : o.op = .binOp .eql 4 x y 4) (bb : Bool) (hx : a.eval x = .bool bb) (hy : a.eval y = .bool bb) : (execOp a.eval o).run Tryz.prog w = .ok (.value (.bool true)) w := by
  simp only [execOp, ho, hx, hy]; simp [go_sem]
theorem er_idxi0 (x y : Operand) (ho : o.op = .indexAddr 30 x y) (b n c d : Nat) (hd : d < n) (hn : n ≤ 9223372036854775807) (hx : a.eval x = .slice (some ⟨b, 0, none⟩) n c) (hy : a.eval y = .int .i64 d) : (execOp a.eval o).run Tryz.prog w = .ok (.value (.pointer (some ⟨b, d, none⟩))) w := by
  have := er_idxi x y ho b 0 n c d hd hn hx hy (w := w)
  rw [Nat.zero_add] at this
  exact this
theorem er_pickTA (c x y : Operand) (ho : o.op = .pick c x y) (v : Value) (hc : a.eval c = .bool true) (hx : a.eval x = v) : (execOp a.eval o).run Tryz.prog w = .ok (.value v) w := by
  subst hx
  simp only [execOp, ho, hc]; simp [go_sem]
theorem er_c_works (ts : Array TypeId) (ho : o.op = .call { callee := .value (.func 9), args := #[], argTypes := ts }) : (execOp a.eval o).run Tryz.prog w = .ok (.enter 9 #[]) w := by
  simp [execOp, ho, go_sem, Act.eval]
end
/-- the servers with others in the place of the lower ones -/
def ab (xs ys : List Srv) (q0 : Int) (i : Nat) : Srv := if (gs xs i).q < q0 ∧ i < ys.length then ⟨(gs ys i).p, (gs ys i).b, (gs ys i).o, (gs xs i).q⟩ else gs xs i
def abL (xs ys : List Srv) (q0 : Int) (k : Nat) : List Srv := (List.range k).map (ab xs ys q0)
theorem abL_len (xs ys : List Srv) (q0 : Int) (k : Nat) : (abL xs ys q0 k).length = k := by simp [abL]
theorem abL_succ (xs ys : List Srv) (q0 : Int) (k : Nat) : abL xs ys q0 (k + 1) = abL xs ys q0 k ++ [ab xs ys q0 k] := by simp [abL, List.range_succ]
theorem abL_gs (xs ys : List Srv) (q0 : Int) {k i : Nat} (hi : i < k) : gs (abL xs ys q0 k) i = ab xs ys q0 i := by
  unfold gs abL
  rw [List.getD_eq_getElem?_getD, List.getElem?_map, List.getElem?_range hi]
  rfl
theorem ab_q (xs ys : List Srv) (q0 : Int) (i : Nat) : (ab xs ys q0 i).q = (gs xs i).q := by unfold ab; split <;> rfl
theorem ab_hi {xs ys : List Srv} {q0 : Int} {i : Nat} (h : q0 ≤ (gs xs i).q) : ab xs ys q0 i = gs xs i := by unfold ab; rw [if_neg (fun h' => by omega)]
theorem gs_get {xs : List Srv} {i : Nat} (h : i < xs.length) : xs[i]? = some (gs xs i) := by
  unfold gs; rw [List.getD_eq_getElem?_getD, List.getElem?_eq_getElem h]; rfl
theorem Sv.gs4 {w : World} {F : Nat → Prop} {a : Option Addr} {n c : Nat} {xs : List Srv} (h : Sv w F a n c xs) {i : Nat} (hi : i < xs.length) : (gs xs i).ok ∧ ∃ b o, a = some ⟨b, o, none⟩ ∧ F b ∧ w.cell? ⟨b, o + i * 4, none⟩ = some (.int .i64 (gs xs i).p) ∧ w.cell? ⟨b, o + i * 4 + 1, none⟩ = some (.int .i64 (gs xs i).b) ∧ w.cell? ⟨b, o + i * 4 + 2, none⟩ = some (.int .i64 (gs xs i).o) ∧ w.cell? ⟨b, o + i * 4 + 3, none⟩ = some (.int .i64 (gs xs i).q) := h.at' i _ (gs_get hi)
theorem ab_ok {xs ys : List Srv} {q0 : Int} {i : Nat} (h : (gs xs i).ok) (h' : i < ys.length → (gs ys i).ok) : (ab xs ys q0 i).ok := by
  unfold ab
  split
  · rename_i h2
    obtain ⟨a, b, c, d⟩ := h' h2.2
    exact ⟨a, b, c, h.2.2.2⟩
  · exact h
/-- what hangs on those above alone -/
theorem above_eq {xs ys : List Srv} {i0 : Nat} (hi : i0 < xs.length) (hv : Vd xs) (hv' : Vd (abL xs ys (gs xs i0).q xs.length)) (t : Nat) :
    Rule.rest (sys xs) t i0 = Rule.rest (sys (abL xs ys (gs xs i0).q xs.length)) t i0 ∧ (Rule.occ (sys xs) t = i0 + 1 ↔ Rule.occ (sys (abL xs ys (gs xs i0).q xs.length)) t = i0 + 1) := by
  have key : ∀ i, i < xs.length → (gs xs i0).q ≤ (gs xs i).q → gs (abL xs ys (gs xs i0).q xs.length) i = gs xs i := fun i hi' hq => by rw [abL_gs _ _ _ hi', ab_hi hq]
  refine Rule.above (s := sys xs) (s' := sys (abL xs ys (gs xs i0).q xs.length)) hv.bd.ok hv'.bd.ok (by show xs.length = _; exact (abL_len _ _ _ _).symm) (gs xs i0).q (fun i hi' => ?_) (fun i hi' hq => ?_) (fun i hi' hq => ?_) (fun i hi' hq => ?_) t i0 hi (Int.le_refl _)
  · show (gs xs i).q = (gs (abL xs ys (gs xs i0).q xs.length) i).q
    rw [abL_gs _ _ _ (show i < xs.length from hi'), ab_q]
  · show (gs xs i).p.toNat = (gs (abL xs ys (gs xs i0).q xs.length) i).p.toNat
    rw [key i hi' hq]
  · show (gs xs i).b.toNat = (gs (abL xs ys (gs xs i0).q xs.length) i).b.toNat
    rw [key i hi' hq]
  · show (gs xs i).o.toNat = (gs (abL xs ys (gs xs i0).q xs.length) i).o.toNat
    rw [key i hi' hq]

set_option maxHeartbeats 2000000 in
theorem above_out (a b : Option Addr) (n c m d : Nat) (p t : Int) (w : World) (hg : Gl w) (hn : n ≤ 9223372036854775807) (ho : p < 1 ∨ (n : Int) < p ∨ t < 0 ∨ 1099511627776 ≤ t) :
    Calls Tryz.prog 3 #[.slice a n c, .slice b m d, .int .i64 p, .int .i64 t] w fun e w' => e = .returned (.bool true) ∧ Below w.heap.size w w' := by
  have hwk := works_any w hg
  clear hg
  by_cases h1 : p < 1
  · clear ho
    go_enter Tryz.func3, Tryz.ntmps3
    go_wp2_with (go_at_call 9; refine hwk.mono ?_; rintro e w2 ⟨rfl, hk2⟩; have HK2 : Hid (Kept No w w2) := hk2; clear hk2 hwk)
    go_ret
    exact ⟨rfl, HK2.out.below0⟩
  · by_cases h2 : (n : Int) < p
    · clear ho
      go_enter Tryz.func3, Tryz.ntmps3
      go_wp2_with (go_at_call 9; refine hwk.mono ?_; rintro e w2 ⟨rfl, hk2⟩; have HK2 : Hid (Kept No w w2) := hk2; clear hk2 hwk)
      go_ret
      exact ⟨rfl, HK2.out.below0⟩
    · by_cases h3 : t < 0
      · clear ho
        go_enter Tryz.func3, Tryz.ntmps3
        go_wp2_with (go_at_call 9; refine hwk.mono ?_; rintro e w2 ⟨rfl, hk2⟩; have HK2 : Hid (Kept No w w2) := hk2; clear hk2 hwk)
        go_ret
        exact ⟨rfl, HK2.out.below0⟩
      · have h4 : 1099511627776 ≤ t := by omega
        clear ho
        go_enter Tryz.func3, Tryz.ntmps3
        go_wp2_with (go_at_call 9; refine hwk.mono ?_; rintro e w2 ⟨rfl, hk2⟩; have HK2 : Hid (Kept No w w2) := hk2; clear hk2 hwk)
        go_ret
        exact ⟨rfl, HK2.out.below0⟩

set_option maxHeartbeats 4000000 in
theorem above_in {F G : Nat → Prop} {a b : Option Addr} {c d : Nat} {xs ys : List Srv} (i0 u : Nat) (w : World) (hg : Gl w) (h : Sv w F a xs.length c xs) (h' : Sv w G b ys.length d ys) (hF : ∀ k, F k → k < w.heap.size) (hi : i0 < xs.length) (hu : u < 1099511627776) (hsz : xs.length * 32 ≤ 140737488351232) :
    Calls Tryz.prog 3 #[.slice a xs.length c, .slice b ys.length d, .int .i64 ((i0 : Int) + 1), .int .i64 u] w fun e w' => e = .returned (.bool true) ∧ Below w.heap.size w w' := by
  obtain ⟨t0, hti, hz0, hz1, hz2⟩ := info_parts Tryz.infoS
  have HG : Hid (Gl w) := hg
  have HS : Hid (Sv w F a xs.length c xs ∧ (∀ k, F k → k < w.heap.size)) := ⟨h, hF⟩
  have HY : Hid (Sv w G b ys.length d ys) := h'
  have hcap := h.cap
  have hmax := h.max
  have hcap' := h'.cap
  have hmax' := h'.max
  obtain ⟨hok0, b0, o0, rfl, hb0, y0, y1, y2, y3⟩ := h.gs4 hi
  have eI : ((i0 : Int) + 1) - 1 = (i0 : Int) := by omega
  clear h h' hF hg y0 y1 y2
  generalize hq0 : (gs xs i0).q = q0 at *
  go_enter Tryz.func3, Tryz.ntmps3
  go_wp2
  clear y3 eI
  generalize decide (((i0 : Int) + 1) < 1) = B1 at *
  go_loopw [10, 11] (fun v x wr => ∃ k : Nat, k ≤ xs.length ∧ x = .int .i64 k ∧ Kept No w wr ∧ wr.ownsRow w.heap.size 25 4 v k (fl (abL xs ys q0 k))) (fun _ x _ => xs.length - (intOf x).toNat)
  case atStart => exact ⟨0, by omega, rfl, Kept.refl _ w, ⟨rfl, .inl ⟨rfl, rfl⟩⟩⟩
  case round =>
    obtain ⟨k, hk, rfl, hkr, hown⟩ := hrel
    have HKR : Hid (Kept No w wr) := hkr
    have HOW : Hid (wr.ownsRow w.heap.size 25 4 u10 k (fl (abL xs ys q0 k))) := hown
    clear hkr hown
    by_cases hlt : k < xs.length
    · obtain ⟨hok, b', o', he, hb, c0, c1, c2, c3⟩ := (HS.out.1.keep HKR.out).gs4 hlt
      simp only [Option.some.injEq, Addr.mk.injEq, and_true] at he
      obtain ⟨rfl, rfl⟩ := he
      have HAB : Hid (ab xs ys q0 k = if (gs xs k).q < q0 ∧ k < ys.length then ⟨(gs ys k).p, (gs ys k).b, (gs ys k).o, (gs xs k).q⟩ else gs xs k) := rfl
      generalize hxk : gs xs k = x at *
      obtain ⟨xp, xb, xo, xq⟩ := x
      simp only at c0 c1 c2 c3 HAB
      go_upto_region 9 with fail
      have kal : Kept No w (wr.alloc (.cells #[.int .i64 xp, .int .i64 xb, .int .i64 xo, .int .i64 xq] 25)) := HKR.out.alloc _
      have b2 := World.alloc_heap_new wr (.cells #[.int .i64 xp, .int .i64 xb, .int .i64 xo, .int .i64 xq] 25)
      have HK2 : Hid (Kept No w (wr.alloc (.cells #[.int .i64 xp, .int .i64 xb, .int .i64 xo, .int .i64 xq] 25)) ∧ (wr.alloc (.cells #[.int .i64 xp, .int .i64 xb, .int .i64 xo, .int .i64 xq] 25)).ownsRow w.heap.size 25 4 u10 k (fl (abL xs ys q0 k)) ∧ w.heap.size ≤ wr.heap.size) := ⟨kal, HOW.out.alloc _, HKR.out.size⟩
      have hne : ∀ g, u10.ownBlock = some g → g < wr.heap.size := fun g hg => (HOW.out.lt g hg).2
      have HNE : Hid (∀ g, u10.ownBlock = some g → g ≠ wr.heap.size) := fun g hg => by have := hne g hg; omega
      clear kal c0 c1 c2 c3 hne HKR HOW
      generalize wr.alloc (.cells #[.int .i64 xp, .int .i64 xb, .int .i64 xo, .int .i64 xq] 25) = w2 at *
      have hzl : wr.heap.size < w2.heap.size := heap_lt b2
      generalize hz : wr.heap.size = z at *
      clear hz
      have HB2 : Hid (w2.heap[z]? = some (.cells #[.int .i64 xp, .int .i64 xb, .int .i64 xo, .int .i64 xq] 25)) := b2
      obtain ⟨c0, c1, c2, c3⟩ := cells4r b2
      have z0 : w2.frozen? ⟨z, 0, none⟩ = false := by simp [World.frozen?, b2]
      have z1 : w2.frozen? ⟨z, 1, none⟩ = false := by simp [World.frozen?, b2]
      have z2 : w2.frozen? ⟨z, 2, none⟩ = false := by simp [World.frozen?, b2]
      have z3 : w2.frozen? ⟨z, 3, none⟩ = false := by simp [World.frozen?, b2]
      clear b2
      by_cases hlow : xq < q0 ∧ k < ys.length
      · obtain ⟨hl1, hl2⟩ := hlow
        obtain ⟨hok2, b1, o1, rfl, hb1, e0, e1, e2, e3⟩ := (HY.out.keep HK2.out.1).gs4 hl2
        generalize hyk : gs ys k = y at *
        obtain ⟨yp, yb, yo, yq⟩ := y
        simp only at e0 e1 e2 e3 HAB
        have hl1' : xq < q0 := hl1
        go_upto_region 11 with fail
        have kal : Kept No w2 (w2.alloc (.cells #[.int .i64 yp, .int .i64 yb, .int .i64 yo, .int .i64 yq] 25)) := (Kept.refl No w2).alloc _
        have b3 := World.alloc_heap_new w2 (.cells #[.int .i64 yp, .int .i64 yb, .int .i64 yo, .int .i64 yq] 25)
        have b2 := kal.at' HB2.out (fun h => h)
        have HK3 : Hid (Kept No w (w2.alloc (.cells #[.int .i64 yp, .int .i64 yb, .int .i64 yo, .int .i64 yq] 25)) ∧ (w2.alloc (.cells #[.int .i64 yp, .int .i64 yb, .int .i64 yo, .int .i64 yq] 25)).ownsRow w.heap.size 25 4 u10 k (fl (abL xs ys q0 k)) ∧ w.heap.size ≤ z ∧ (∀ g, u10.ownBlock = some g → g ≠ w2.heap.size) ∧ w.heap.size ≤ w2.heap.size) := ⟨HK2.out.1.alloc _, HK2.out.2.1.alloc _, HK2.out.2.2, fun g hg => by have := (HK2.out.2.1.lt g hg).2; omega, HK2.out.1.size⟩
        clear kal c0 c1 c2 c3 z0 z1 z2 z3 e0 e1 e2 e3
        generalize w2.alloc (.cells #[.int .i64 yp, .int .i64 yb, .int .i64 yo, .int .i64 yq] 25) = w3 at *
        generalize hz' : w2.heap.size = z' at *
        clear hz'
        have hzz : z ≠ z' := by omega
        have hzz' : z' ≠ z := by omega
        obtain ⟨c0, c1, c2, c3⟩ := cells4r b2
        obtain ⟨e0, e1, e2, e3⟩ := cells4r b3
        have z0 : w3.frozen? ⟨z, 0, none⟩ = false := by simp [World.frozen?, b2]
        have z1 : w3.frozen? ⟨z, 1, none⟩ = false := by simp [World.frozen?, b2]
        have z2 : w3.frozen? ⟨z, 2, none⟩ = false := by simp [World.frozen?, b2]
        have z3 : w3.frozen? ⟨z, 3, none⟩ = false := by simp [World.frozen?, b2]
        have z4 : w3.frozen? ⟨z', 3, none⟩ = false := by simp [World.frozen?, b3]
        have HV : Hid (((((((w3.setCell ⟨z', 3, none⟩ (.int .i64 xq)).setCell ⟨z, 0, none⟩ (.int .i64 yp)).setCell ⟨z, 1, none⟩ (.int .i64 yb)).setCell ⟨z, 2, none⟩ (.int .i64 yo)).setCell ⟨z, 3, none⟩ (.int .i64 xq)).cell? ⟨z, 0, none⟩ = some (.int .i64 yp) ∧ (((((w3.setCell ⟨z', 3, none⟩ (.int .i64 xq)).setCell ⟨z, 0, none⟩ (.int .i64 yp)).setCell ⟨z, 1, none⟩ (.int .i64 yb)).setCell ⟨z, 2, none⟩ (.int .i64 yo)).setCell ⟨z, 3, none⟩ (.int .i64 xq)).cell? ⟨z, 1, none⟩ = some (.int .i64 yb) ∧ (((((w3.setCell ⟨z', 3, none⟩ (.int .i64 xq)).setCell ⟨z, 0, none⟩ (.int .i64 yp)).setCell ⟨z, 1, none⟩ (.int .i64 yb)).setCell ⟨z, 2, none⟩ (.int .i64 yo)).setCell ⟨z, 3, none⟩ (.int .i64 xq)).cell? ⟨z, 2, none⟩ = some (.int .i64 yo) ∧ (((((w3.setCell ⟨z', 3, none⟩ (.int .i64 xq)).setCell ⟨z, 0, none⟩ (.int .i64 yp)).setCell ⟨z, 1, none⟩ (.int .i64 yb)).setCell ⟨z, 2, none⟩ (.int .i64 yo)).setCell ⟨z, 3, none⟩ (.int .i64 xq)).cell? ⟨z, 3, none⟩ = some (.int .i64 xq)) ∧
            Kept No w (((((w3.setCell ⟨z', 3, none⟩ (.int .i64 xq)).setCell ⟨z, 0, none⟩ (.int .i64 yp)).setCell ⟨z, 1, none⟩ (.int .i64 yb)).setCell ⟨z, 2, none⟩ (.int .i64 yo)).setCell ⟨z, 3, none⟩ (.int .i64 xq)) ∧ (((((w3.setCell ⟨z', 3, none⟩ (.int .i64 xq)).setCell ⟨z, 0, none⟩ (.int .i64 yp)).setCell ⟨z, 1, none⟩ (.int .i64 yb)).setCell ⟨z, 2, none⟩ (.int .i64 yo)).setCell ⟨z, 3, none⟩ (.int .i64 xq)).ownsRow w.heap.size 25 4 u10 k (fl (abL xs ys q0 k)) ∧ ab xs ys q0 k = ⟨yp, yb, yo, xq⟩) := by
          have n0 : (w3.setCell ⟨z', 3, none⟩ (.int .i64 xq)).cell? ⟨z, 0, none⟩ = some (.int .i64 xp) := by rw [World.cell?_setCell_other _ _ _ _ (fun e => by injection e with e1 _ _; omega)]; exact c0
          have n1 : (w3.setCell ⟨z', 3, none⟩ (.int .i64 xq)).cell? ⟨z, 1, none⟩ = some (.int .i64 xb) := by rw [World.cell?_setCell_other _ _ _ _ (fun e => by injection e with e1 _ _; omega)]; exact c1
          have n2 : (w3.setCell ⟨z', 3, none⟩ (.int .i64 xq)).cell? ⟨z, 2, none⟩ = some (.int .i64 xo) := by rw [World.cell?_setCell_other _ _ _ _ (fun e => by injection e with e1 _ _; omega)]; exact c2
          have n3 : (w3.setCell ⟨z', 3, none⟩ (.int .i64 xq)).cell? ⟨z, 3, none⟩ = some (.int .i64 xq) := by rw [World.cell?_setCell_other _ _ _ _ (fun e => by injection e with e1 _ _; omega)]; exact c3
          have kz : Kept (fun j => j = z ∨ j = z') w3 (((((w3.setCell ⟨z', 3, none⟩ (.int .i64 xq)).setCell ⟨z, 0, none⟩ (.int .i64 yp)).setCell ⟨z, 1, none⟩ (.int .i64 yb)).setCell ⟨z, 2, none⟩ (.int .i64 yo)).setCell ⟨z, 3, none⟩ (.int .i64 xq)) := (((((Kept.refl (fun j => j = z ∨ j = z') w3).setCell (p := ⟨z', 3, none⟩) (Or.inl (Or.inr rfl)) _).setCell (p := ⟨z, 0, none⟩) (Or.inl (Or.inl rfl)) _).setCell (p := ⟨z, 1, none⟩) (Or.inl (Or.inl rfl)) _).setCell (p := ⟨z, 2, none⟩) (Or.inl (Or.inl rfl)) _).setCell (p := ⟨z, 3, none⟩) (Or.inl (Or.inl rfl)) _
          refine ⟨⟨?_, ?_, ?_, ?_⟩, ?_, ?_, ?_⟩
          · rw [cell_set (cell_set (cell_set (cell_set n0)))]; simp
          · rw [cell_set (cell_set (cell_set (cell_set n1)))]; simp
          · rw [cell_set (cell_set (cell_set (cell_set n2)))]; simp
          · rw [cell_set (cell_set (cell_set (cell_set n3)))]; simp
          · exact HK3.out.1.trans kz (fun j e => .inr (by have := HK3.out.2.2; rcases e with e | e <;> omega))
          · exact kz.owns HK3.out.2.1 (fun g hg e => by
              rcases e with e | e
              · exact HNE.out g hg e
              · exact HK3.out.2.2.2.1 g hg e)
          · rw [HAB.out, if_pos ⟨hl1, hl2⟩]
        clear b2 b3 HB2 hok hok2 hb hb1 hl1'
        go_upto_region 13 with fail
        clear c0 c1 c2 c3 e0 e1 e2 e3 z0 z1 z2 z3 z4
        generalize ((((w3.setCell ⟨z', 3, none⟩ (.int .i64 xq)).setCell ⟨z, 0, none⟩ (.int .i64 yp)).setCell ⟨z, 1, none⟩ (.int .i64 yb)).setCell ⟨z, 2, none⟩ (.int .i64 yo)).setCell ⟨z, 3, none⟩ (.int .i64 xq) = w4 at *
        obtain ⟨v0, v1, v2, v3⟩ := HV.out.1
        go_wp2_with (at_builtin; refine wpList_append_own_at _ rfl _ _ 22 rfl w.heap.size 25 t0 (.agg #[.int .i64 0, .int .i64 0, .int .i64 0, .int .i64 0]) 4 32 Tryz.underlying22 hti hz0 hz1 hz2 rfl (by decide) _ _ _ rfl (HV.out.2.2.1.alloc _) ⟨w4.heap.size, 0, none⟩ 1 1 (fl [⟨yp, yb, yo, xq⟩]) rfl rfl (cell_four w4 ⟨yp, yb, yo, xq⟩ _) (fl_one _) (by unfold maxLen; omega) (by omega) (by have := HV.out.2.1.size; simp; omega) ?_; intro v9 w10 own10 grow10 _ at10)
        have HN : Hid (Kept No w w10 ∧ w10.ownsRow w.heap.size 25 4 v9 (k + 1) (fl (abL xs ys q0 (k + 1)))) := by
          refine ⟨(HV.out.2.1.alloc _).grown grow10 (fun b e => .inr (HV.out.2.2.1.lt b e).1), ?_⟩
          rw [abL_succ, fl_app, HV.out.2.2.2]
          exact own10
        clear own10 grow10 at10 v0 v1 v2 v3
        go_wp2
        go_roundw
        case rel => exact ⟨k + 1, by omega, by go_num, HN.out.1, HN.out.2⟩
        case measure => simp [intOf]; omega
      · have hd : (decide (xq < q0) && decide (k < ys.length)) = false := by
          by_cases h1 : xq < q0
          · have h2 : ¬ k < ys.length := fun h2 => hlow ⟨h1, h2⟩
            simp [h2]
          · simp [h1]
        have HV : Hid ((w2.cell? ⟨z, 0, none⟩ = some (.int .i64 xp) ∧ w2.cell? ⟨z, 1, none⟩ = some (.int .i64 xb) ∧ w2.cell? ⟨z, 2, none⟩ = some (.int .i64 xo) ∧ w2.cell? ⟨z, 3, none⟩ = some (.int .i64 xq)) ∧ Kept No w w2 ∧ w2.ownsRow w.heap.size 25 4 u10 k (fl (abL xs ys q0 k)) ∧ ab xs ys q0 k = ⟨xp, xb, xo, xq⟩) := ⟨⟨c0, c1, c2, c3⟩, HK2.out.1, HK2.out.2.1, by rw [HAB.out, if_neg hlow]⟩
        by_cases hq : xq < q0
        · have h2 : ¬ k < ys.length := fun h2 => hlow ⟨hq, h2⟩
          clear hd hlow z0 z1 z2 z3 HB2
          go_upto_region 13 with fail
          clear c0 c1 c2 c3
          generalize w2 = w4 at *
          obtain ⟨v0, v1, v2, v3⟩ := HV.out.1
          go_wp2_with (at_builtin; refine wpList_append_own_at _ rfl _ _ 22 rfl w.heap.size 25 t0 (.agg #[.int .i64 0, .int .i64 0, .int .i64 0, .int .i64 0]) 4 32 Tryz.underlying22 hti hz0 hz1 hz2 rfl (by decide) _ _ _ rfl (HV.out.2.2.1.alloc _) ⟨w4.heap.size, 0, none⟩ 1 1 (fl [⟨xp, xb, xo, xq⟩]) rfl rfl (cell_four w4 ⟨xp, xb, xo, xq⟩ _) (fl_one _) (by unfold maxLen; omega) (by omega) (by have := HV.out.2.1.size; simp; omega) ?_; intro v9 w10 own10 grow10 _ at10)
          have HN : Hid (Kept No w w10 ∧ w10.ownsRow w.heap.size 25 4 v9 (k + 1) (fl (abL xs ys q0 (k + 1)))) := by
            refine ⟨(HV.out.2.1.alloc _).grown grow10 (fun b e => .inr (HV.out.2.2.1.lt b e).1), ?_⟩
            rw [abL_succ, fl_app, HV.out.2.2.2]
            exact own10
          clear own10 grow10 at10 v0 v1 v2 v3
          go_wp2
          go_roundw
          case rel => exact ⟨k + 1, by omega, by go_num, HN.out.1, HN.out.2⟩
          case measure => simp [intOf]; omega
        · clear hd hlow z0 z1 z2 z3 HB2
          go_upto_region 13 with fail
          clear c0 c1 c2 c3
          generalize w2 = w4 at *
          obtain ⟨v0, v1, v2, v3⟩ := HV.out.1
          go_wp2_with (at_builtin; refine wpList_append_own_at _ rfl _ _ 22 rfl w.heap.size 25 t0 (.agg #[.int .i64 0, .int .i64 0, .int .i64 0, .int .i64 0]) 4 32 Tryz.underlying22 hti hz0 hz1 hz2 rfl (by decide) _ _ _ rfl (HV.out.2.2.1.alloc _) ⟨w4.heap.size, 0, none⟩ 1 1 (fl [⟨xp, xb, xo, xq⟩]) rfl rfl (cell_four w4 ⟨xp, xb, xo, xq⟩ _) (fl_one _) (by unfold maxLen; omega) (by omega) (by have := HV.out.2.1.size; simp; omega) ?_; intro v9 w10 own10 grow10 _ at10)
          have HN : Hid (Kept No w w10 ∧ w10.ownsRow w.heap.size 25 4 v9 (k + 1) (fl (abL xs ys q0 (k + 1)))) := by
            refine ⟨(HV.out.2.1.alloc _).grown grow10 (fun b e => .inr (HV.out.2.2.1.lt b e).1), ?_⟩
            rw [abL_succ, fl_app, HV.out.2.2.2]
            exact own10
          clear own10 grow10 at10 v0 v1 v2 v3
          go_wp2
          go_roundw
          case rel => exact ⟨k + 1, by omega, by go_num, HN.out.1, HN.out.2⟩
          case measure => simp [intOf]; omega
    · have hke : k = xs.length := by omega
      subst hke
      obtain ⟨L, hL⟩ : ∃ L, L = abL xs ys q0 xs.length := ⟨_, rfl⟩
      have hlen : L.length = xs.length := by rw [hL]; exact abL_len _ _ _ _
      have hown := HOW.out
      rw [← hL] at hown
      obtain ⟨la, lc, rfl, hSL⟩ := own_sv hown hlen (fun i hi' => by
        have e : L.getD i ⟨0, 0, 0, 0⟩ = ab xs ys q0 i := by rw [hL]; exact abL_gs xs ys q0 hi'
        rw [e]
        exact ab_ok (HS.out.1.gs4 hi').1 (fun h2 => (HY.out.gs4 h2).1))
      have hSL : Sv wr (fun g => (Value.slice la xs.length lc).ownBlock = some g) la L.length lc L := by rw [hlen]; exact hSL
      have HL : Hid (L = abL xs ys q0 xs.length ∧ L.length = xs.length) := ⟨hL, hlen⟩
      have hblk : ∀ g, (Value.slice la xs.length lc).ownBlock = some g → g < wr.heap.size := fun g hg => (hown.lt g hg).2
      have HSL : Hid (Sv wr (fun g => (Value.slice la xs.length lc).ownBlock = some g) la L.length lc L ∧ ∀ g, (Value.slice la xs.length lc).ownBlock = some g → g < wr.heap.size) := ⟨hSL, hblk⟩
      have hgr : Gl wr := HG.out.kept HKR.out
      have hc1 := hyper_any _ _ xs.length c xs wr hgr (HS.out.1.keep HKR.out)
      have HC2 : Hid (∀ W, Kept No wr W → Calls Tryz.prog 10 #[.slice la xs.length lc] W fun e w' => e = .returned (.tuple #[.int .i64 (hyV L L.length), .int .i64 (hyE L L.length)]) ∧ Kept No W w') := fun W hk => by
        have := hyper_any _ _ L.length lc L W (hgr.kept hk) (HSL.out.1.keep hk)
        rw [hlen] at this ⊢
        exact this
      have HWK : Hid (∀ W, Kept No wr W → Calls Tryz.prog 9 #[] W fun e w' => e = .returned (.bool true) ∧ Kept No W w') := fun W hk => works_any W (hgr.kept hk)
      have HGR : Hid (Gl wr) := hgr
      clear hown hSL hblk HOW hgr hL hlt hk
      cases htm : timF xs xs.length with
      | some p =>
        have hp := tim_neA htm
        rw [(tim_no htm).1, (tim_no htm).2] at hc1
        generalize p.1 = pe at *
        generalize hyV L L.length = v1 at *
        generalize hyE L L.length = v2 at *
        clear htm HSL HGR HL hlen HY hti hz0 hz1 hz2 hcap hmax hcap' hmax'
        go_wp2_with (first
          | (go_at_call 10; refine hc1.mono ?_; rintro e w1 ⟨rfl, hk1⟩; have HK1 : Hid (Kept No wr w1) := hk1; have hc2 := HC2.out w1 hk1; clear hk1 hc1)
          | (go_at_call 10; refine hc2.mono ?_; rintro e w2 ⟨rfl, hk2⟩; have HK2 : Hid (Kept No wr w2) := HK1.out.trans hk2 (fun _ h => h.elim); have hwk := HWK.out w2 HK2.out; clear hk2 hc2)
          | (go_at_call 9; refine hwk.mono ?_; rintro e w3 ⟨rfl, hk3⟩; have HK3 : Hid (Kept No wr w3) := HK2.out.trans hk3 (fun _ h => h.elim); clear hk3 hwk))
        go_ret
        exact ⟨rfl, (HKR.out.trans HK3.out (fun _ h => h.elim)).below0⟩
      | none =>
        have hv := vd_of htm
        rw [(tim_yes htm).1, (tim_yes htm).2] at hc1
        cases htl : timF L L.length with
        | some p =>
          have hp := tim_neA htl
          have HC3 : Hid (∀ W, Kept No wr W → Calls Tryz.prog 10 #[.slice la xs.length lc] W fun e w' => e = .returned (.tuple #[.int .i64 0, .int .i64 p.1]) ∧ Kept No W w') := fun W hk => by
            have := HC2.out W hk
            rw [(tim_no htl).1, (tim_no htl).2] at this
            exact this
          generalize p.1 = pe at *
          generalize hyp xs = H1 at *
          clear htm htl HSL HGR HL hlen HY hti hz0 hz1 hz2 hcap hmax hcap' hmax' HC2 hv
          go_wp2_with (first
            | (go_at_call 10; refine hc1.mono ?_; rintro e w1 ⟨rfl, hk1⟩; have HK1 : Hid (Kept No wr w1) := hk1; have hc2 := HC3.out w1 hk1; clear hk1 hc1)
            | (go_at_call 10; refine hc2.mono ?_; rintro e w2 ⟨rfl, hk2⟩; have HK2 : Hid (Kept No wr w2) := HK1.out.trans hk2 (fun _ h => h.elim); have hwk := HWK.out w2 HK2.out; clear hk2 hc2)
            | (go_at_call 9; refine hwk.mono ?_; rintro e w3 ⟨rfl, hk3⟩; have HK3 : Hid (Kept No wr w3) := HK2.out.trans hk3 (fun _ h => h.elim); clear hk3 hwk))
          go_ret
          exact ⟨rfl, (HKR.out.trans HK3.out (fun _ h => h.elim)).below0⟩
        | none =>
          have hvl := vd_of htl
          have HC3 : Hid (∀ W, Kept No wr W → Calls Tryz.prog 10 #[.slice la xs.length lc] W fun e w' => e = .returned (.tuple #[.int .i64 (hyp L), .int .i64 0]) ∧ Kept No W w') := fun W hk => by
            have := HC2.out W hk
            rw [(tim_yes htl).1, (tim_yes htl).2] at this
            exact this
          have hnum := hv.num
          have HEQ : Hid (Rule.rest (sys xs) u i0 = Rule.rest (sys L) u i0 ∧ (Rule.occ (sys xs) u = i0 + 1 ↔ Rule.occ (sys L) u = i0 + 1)) := by
            have e := HL.out.1
            rw [← hq0] at e
            rw [e] at hvl ⊢
            exact above_eq hi hv hvl u
          have hle1 : Rule.occ (sys xs) u ≤ xs.length := Rule.occ_le (sys xs) u
          have hle2 : Rule.occ (sys L) u ≤ xs.length := by rw [← hlen]; exact Rule.occ_le (sys L) u
          have hle3 : Rule.rest (sys L) u i0 ≤ 1048576 := by
            have := Rule.rest_le (sys L) u i0
            have := hvl.bd.bud i0 (show i0 < L.length by omega)
            omega
          have HA1 : Hid (∀ W, Kept No wr W → Calls Tryz.prog 11 #[.slice (some ⟨b0, o0, none⟩) xs.length c, .int .i64 u] W fun e w' => e = .returned (.tuple #[.int .i64 (Rule.occ (sys xs) u), .int .i64 0]) ∧ Kept No W w') := fun W hk => at_yes u W (HGR.out.kept hk) ((HS.out.1.keep HKR.out).keep hk) (fun k hk' => by have := HS.out.2 k hk'; have := hk.size; have := HKR.out.size; omega) htm hu
          have HR1 : Hid (∀ W, Kept No wr W → Calls Tryz.prog 12 #[.slice (some ⟨b0, o0, none⟩) xs.length c, .int .i64 u] W fun e w' => ∃ g, e = .returned (.tuple #[.slice (some ⟨g, 0, none⟩) xs.length xs.length, .int .i64 0]) ∧ W.heap.size ≤ g ∧ Ct w' g xs.length (fun i => (Rule.rest (sys xs) u i : Int)) ∧ Kept No W w') := fun W hk => rests_yes u W (HGR.out.kept hk) ((HS.out.1.keep HKR.out).keep hk) (fun k hk' => by have := HS.out.2 k hk'; have := hk.size; have := HKR.out.size; omega) htm hu
          have HA2 : Hid (∀ W, Kept No wr W → Calls Tryz.prog 11 #[.slice la xs.length lc, .int .i64 u] W fun e w' => e = .returned (.tuple #[.int .i64 (Rule.occ (sys L) u), .int .i64 0]) ∧ Kept No W w') := fun W hk => by
            have := at_yes u W (HGR.out.kept hk) (HSL.out.1.keep hk) (fun k hk' => by have := HSL.out.2 k hk'; have := hk.size; omega) htl hu
            rw [hlen] at this
            exact this
          have HR2 : Hid (∀ W, Kept No wr W → Calls Tryz.prog 12 #[.slice la xs.length lc, .int .i64 u] W fun e w' => ∃ g, e = .returned (.tuple #[.slice (some ⟨g, 0, none⟩) xs.length xs.length, .int .i64 0]) ∧ W.heap.size ≤ g ∧ Ct w' g xs.length (fun i => (Rule.rest (sys L) u i : Int)) ∧ Kept No W w') := fun W hk => by
            have := rests_yes u W (HGR.out.kept hk) (HSL.out.1.keep hk) (fun k hk' => by have := HSL.out.2 k hk'; have := hk.size; omega) htl hu
            rw [hlen] at this
            exact this
          clear htm htl hv hvl HC2 HSL HGR HL hlen HY hti hz0 hz1 hz2 hcap' hmax' hq0
          generalize hyp xs = H1 at *
          generalize hyp L = H2 at *
          generalize Rule.occ (sys xs) u = oc1 at *
          generalize Rule.occ (sys L) u = oc2 at *
          go_upto_region 15 with (go_at_call 10; refine hc1.mono ?_; rintro e w1 ⟨rfl, hk1⟩; have HK1 : Hid (Kept No wr w1) := hk1; have hc2 := HC3.out w1 hk1; clear hk1 hc1)
          go_upto_region 18 with (go_at_call 10; refine hc2.mono ?_; rintro e w2 ⟨rfl, hk2⟩; have HK2 : Hid (Kept No wr w2) := HK1.out.trans hk2 (fun _ h => h.elim); have ha1 := HA1.out w2 HK2.out; clear hk2 hc2)
          go_upto_region 19 with (go_at_call 11; refine ha1.mono ?_; rintro e w3 ⟨rfl, hk3⟩; have HK3 : Hid (Kept No wr w3) := HK2.out.trans hk3 (fun _ h => h.elim); have ha2 := HA2.out w3 HK3.out; clear hk3 ha1)
          go_upto_region 20 with (go_at_call 11; refine ha2.mono ?_; rintro e w4 ⟨rfl, hk4⟩; have HK4 : Hid (Kept No wr w4) := HK3.out.trans hk4 (fun _ h => h.elim); have hr1 := HR1.out w4 HK4.out; clear hk4 ha2)
          go_upto_region 21 with (go_at_call 12; refine hr1.mono ?_; rintro e w5 ⟨g1, rfl, _, ct1, hk5⟩; have HK5 : Hid (Kept No wr w5 ∧ Ct w5 g1 xs.length (fun i => (Rule.rest (sys xs) u i : Int))) := ⟨HK4.out.trans hk5 (fun _ h => h.elim), ct1⟩; have hr2 := HR2.out w5 HK5.out.1; clear hk5 hr1 ct1)
          go_upto_region 22 with (go_at_call 12; refine hr2.mono ?_; rintro e w6 ⟨g2, rfl, _, ct2, hk6⟩; have HK6 : Hid (Kept No wr w6 ∧ Ct w6 g1 xs.length (fun i => (Rule.rest (sys xs) u i : Int)) ∧ Ct w6 g2 xs.length (fun i => (Rule.rest (sys L) u i : Int))) := ⟨HK5.out.1.trans hk6 (fun _ h => h.elim), HK5.out.2.keep hk6, ct2⟩; clear hk6 hr2 ct2)
          have x1 := HK6.out.2.1.at' i0 hi
          have x2 := HK6.out.2.2.at' i0 hi
          rw [HEQ.out.1] at x1
          generalize Rule.rest (sys L) u i0 = R at *
          have hbb : decide (((oc2 : Nat) : Int) = (i0 : Int) + 1) = decide (((oc1 : Nat) : Int) = (i0 : Int) + 1) := by
            have h2 := HEQ.out.2
            by_cases h3 : oc1 = i0 + 1
            · have h4 := h2.1 h3
              rw [decide_eq_true (by omega), decide_eq_true (by omega)]
            · have h4 : ¬ oc2 = i0 + 1 := fun h => h3 (h2.2 h)
              rw [decide_eq_false (by omega), decide_eq_false (by omega)]
          have eS : wrap64 ((i0 : Int) + 1 - 1) = (i0 : Int) := by unfold wrap64; omega
          go_wp2
          obtain ⟨bb, hbq⟩ : ∃ bb, decide (((oc1 : Nat) : Int) = (i0 : Int) + 1) = bb := ⟨_, rfl⟩
          rw [hbq] at hbb
          refine wp_region_kept w6 (by kernel_rfl) (by kernel_rfl) (Kept.refl No w6) ?_
          refine BigFrame.wpQuiet_want rfl (fun KK hKK => ?_)
          refine quiet_val' (fun w5 hw5 => er_mv _ rfl (.int .i64 (oc1 : Int)) rfl) ?_
          refine hKK _ ?_
          clear hKK KK
          simp only [Act.put, List.setIfInBounds_toArray, List.set_cons_zero, List.set_cons_succ]
          refine BigFrame.wpQuiet_want rfl (fun KK hKK => ?_)
          refine quiet_val' (fun w5 hw5 => er_mv _ rfl (.int .i64 ((i0 : Int) + 1)) rfl) ?_
          refine hKK _ ?_
          clear hKK KK
          simp only [Act.put, List.setIfInBounds_toArray, List.set_cons_zero, List.set_cons_succ]
          refine BigFrame.wpQuiet_want rfl (fun KK hKK => ?_)
          refine quiet_val' (fun w5 hw5 => er_eqI _ _ rfl (oc1 : Int) ((i0 : Int) + 1) bb rfl rfl hbq) ?_
          refine hKK _ ?_
          clear hKK KK
          simp only [Act.put, List.setIfInBounds_toArray, List.set_cons_zero, List.set_cons_succ]
          refine BigFrame.wpQuiet_want rfl (fun KK hKK => ?_)
          refine quiet_val' (fun w5 hw5 => er_mv _ rfl (.int .i64 (oc2 : Int)) rfl) ?_
          refine hKK _ ?_
          clear hKK KK
          simp only [Act.put, List.setIfInBounds_toArray, List.set_cons_zero, List.set_cons_succ]
          refine BigFrame.wpQuiet_want rfl (fun KK hKK => ?_)
          refine quiet_val' (fun w5 hw5 => er_mv _ rfl (.int .i64 ((i0 : Int) + 1)) rfl) ?_
          refine hKK _ ?_
          clear hKK KK
          simp only [Act.put, List.setIfInBounds_toArray, List.set_cons_zero, List.set_cons_succ]
          refine BigFrame.wpQuiet_want rfl (fun KK hKK => ?_)
          refine quiet_val' (fun w5 hw5 => er_eqI _ _ rfl (oc2 : Int) ((i0 : Int) + 1) bb rfl rfl hbb) ?_
          refine hKK _ ?_
          clear hKK KK
          simp only [Act.put, List.setIfInBounds_toArray, List.set_cons_zero, List.set_cons_succ]
          refine BigFrame.wpQuiet_want rfl (fun KK hKK => ?_)
          refine quiet_val' (fun w5 hw5 => er_eqB _ _ rfl bb rfl rfl) ?_
          refine hKK _ ?_
          clear hKK KK
          simp only [Act.put, List.setIfInBounds_toArray, List.set_cons_zero, List.set_cons_succ]
          refine BigFrame.wpQuiet_want rfl (fun KK hKK => ?_)
          refine quiet_val' (fun w5 hw5 => er_mv _ rfl (.bool true) rfl) ?_
          refine hKK _ ?_
          clear hKK KK
          simp only [Act.put, List.setIfInBounds_toArray, List.set_cons_zero, List.set_cons_succ]
          refine BigFrame.wpQuiet_want rfl (fun KK hKK => ?_)
          refine quiet_val' (fun w5 hw5 => er_mv _ rfl (.slice (some ⟨g1, 0, none⟩) xs.length xs.length) rfl) ?_
          refine hKK _ ?_
          clear hKK KK
          simp only [Act.put, List.setIfInBounds_toArray, List.set_cons_zero, List.set_cons_succ]
          refine BigFrame.wpQuiet_want rfl (fun KK hKK => ?_)
          refine quiet_val' (fun w5 hw5 => er_mv _ rfl (.int .i64 ((i0 : Int) + 1)) rfl) ?_
          refine hKK _ ?_
          clear hKK KK
          simp only [Act.put, List.setIfInBounds_toArray, List.set_cons_zero, List.set_cons_succ]
          refine BigFrame.wpQuiet_want rfl (fun KK hKK => ?_)
          refine quiet_val' (fun w5 hw5 => er_sub _ _ rfl ((i0 : Int) + 1) 1 (i0 : Int) rfl rfl eS) ?_
          refine hKK _ ?_
          clear hKK KK
          simp only [Act.put, List.setIfInBounds_toArray, List.set_cons_zero, List.set_cons_succ]
          refine BigFrame.wpQuiet_want rfl (fun KK hKK => ?_)
          refine quiet_val' (fun w5 hw5 => er_idxi0 _ _ rfl g1 xs.length xs.length i0 hi (by omega) rfl rfl) ?_
          refine hKK _ ?_
          clear hKK KK
          simp only [Act.put, List.setIfInBounds_toArray, List.set_cons_zero, List.set_cons_succ]
          refine BigFrame.wpQuiet_want rfl (fun KK hKK => ?_)
          refine quiet_val' (fun w5 hw5 => er_ld3 _ rfl g1 i0 (.int .i64 (R : Int)) rfl (hw5.cell x1 (fun h => h))) ?_
          refine hKK _ ?_
          clear hKK KK
          simp only [Act.put, List.setIfInBounds_toArray, List.set_cons_zero, List.set_cons_succ]
          refine BigFrame.wpQuiet_want rfl (fun KK hKK => ?_)
          refine quiet_val' (fun w5 hw5 => er_mv _ rfl (.slice (some ⟨g2, 0, none⟩) xs.length xs.length) rfl) ?_
          refine hKK _ ?_
          clear hKK KK
          simp only [Act.put, List.setIfInBounds_toArray, List.set_cons_zero, List.set_cons_succ]
          refine BigFrame.wpQuiet_want rfl (fun KK hKK => ?_)
          refine quiet_val' (fun w5 hw5 => er_mv _ rfl (.int .i64 ((i0 : Int) + 1)) rfl) ?_
          refine hKK _ ?_
          clear hKK KK
          simp only [Act.put, List.setIfInBounds_toArray, List.set_cons_zero, List.set_cons_succ]
          refine BigFrame.wpQuiet_want rfl (fun KK hKK => ?_)
          refine quiet_val' (fun w5 hw5 => er_sub _ _ rfl ((i0 : Int) + 1) 1 (i0 : Int) rfl rfl eS) ?_
          refine hKK _ ?_
          clear hKK KK
          simp only [Act.put, List.setIfInBounds_toArray, List.set_cons_zero, List.set_cons_succ]
          refine BigFrame.wpQuiet_want rfl (fun KK hKK => ?_)
          refine quiet_val' (fun w5 hw5 => er_idxi0 _ _ rfl g2 xs.length xs.length i0 hi (by omega) rfl rfl) ?_
          refine hKK _ ?_
          clear hKK KK
          simp only [Act.put, List.setIfInBounds_toArray, List.set_cons_zero, List.set_cons_succ]
          refine BigFrame.wpQuiet_want rfl (fun KK hKK => ?_)
          refine quiet_val' (fun w5 hw5 => er_ld3 _ rfl g2 i0 (.int .i64 (R : Int)) rfl (hw5.cell x2 (fun h => h))) ?_
          refine hKK _ ?_
          clear hKK KK
          simp only [Act.put, List.setIfInBounds_toArray, List.set_cons_zero, List.set_cons_succ]
          refine BigFrame.wpQuiet_want rfl (fun KK hKK => ?_)
          refine quiet_val' (fun w5 hw5 => er_eqI _ _ rfl (R : Int) (R : Int) true rfl rfl (decide_eq_true rfl)) ?_
          refine hKK _ ?_
          clear hKK KK
          simp only [Act.put, List.setIfInBounds_toArray, List.set_cons_zero, List.set_cons_succ]
          refine BigFrame.wpQuiet_want rfl (fun KK hKK => ?_)
          refine quiet_val' (fun w5 hw5 => er_pickTA _ _ _ rfl (.bool true) rfl rfl) ?_
          refine hKK _ ?_
          clear hKK KK
          simp only [Act.put, List.setIfInBounds_toArray, List.set_cons_zero, List.set_cons_succ]
          refine BigFrame.wpQuiet_want rfl (fun KK hKK => ?_)
          refine quiet_val' (fun w5 hw5 => er_mv _ rfl (.bool true) rfl) ?_
          refine hKK _ ?_
          clear hKK KK
          simp only [Act.put, List.setIfInBounds_toArray, List.set_cons_zero, List.set_cons_succ]
          refine BigFrame.wpQuiet_want rfl (fun KK hKK => ?_)
          refine quiet_call' (fun w5 => er_c_works _ rfl) (fun w5 hw5 => (HWK.out w5 (HK6.out.1.trans hw5 (fun _ h => h.elim))).mono (fun e w9 he => ⟨he.1, hw5.trans he.2 (fun _ h => h.elim)⟩)) ?_
          refine hKK _ ?_
          clear hKK KK
          simp only [Act.put, List.setIfInBounds_toArray, List.set_cons_zero, List.set_cons_succ]
          refine BigFrame.wpQuiet_want rfl (fun KK hKK => ?_)
          refine quiet_val' (fun w5 hw5 => er_pickTA _ _ _ rfl (.bool true) rfl rfl) ?_
          refine hKK _ ?_
          clear hKK KK
          simp only [Act.put, List.setIfInBounds_toArray, List.set_cons_zero, List.set_cons_succ]
          refine BigFrame.wpQuiet_want rfl (fun KK hKK => ?_)
          refine quiet_val' (fun w5 hw5 => er_as _ rfl (.bool true) rfl) ?_
          refine hKK _ ?_
          clear hKK KK
          simp only [Act.put, List.setIfInBounds_toArray, List.set_cons_zero, List.set_cons_succ]
          refine wpQuiet_nil ?_
          intro w8 hw8
          have HK8 : Hid (Kept No w w8) := (HKR.out.trans HK6.out.1 (fun _ h => h.elim)).trans hw8 (fun _ h => h.elim)
          clear hw8 x1 x2
          go_wp2
          go_ret
          exact ⟨rfl, HK8.out.below0⟩
theorem above_law {F G : Nat → Prop} {a b : Option Addr} {c d : Nat} {xs ys : List Srv} (p t : Int) (w : World) (hg : Gl w) (h : Sv w F a xs.length c xs) (h' : Sv w G b ys.length d ys) (hF : ∀ k, F k → k < w.heap.size) (hsz : xs.length * 32 ≤ 140737488351232) :
    Calls Tryz.prog 3 #[.slice a xs.length c, .slice b ys.length d, .int .i64 p, .int .i64 t] w fun e w' => e = .returned (.bool true) ∧ Below w.heap.size w w' := by
  by_cases ho : p < 1 ∨ (xs.length : Int) < p ∨ t < 0 ∨ 1099511627776 ≤ t
  · exact above_out _ _ _ _ _ _ p t w hg (by have := h.cap; have := h.max; omega) ho
  · obtain ⟨u, rfl⟩ : ∃ u : Nat, t = (u : Int) := ⟨t.toNat, by omega⟩
    obtain ⟨i, hi⟩ : ∃ i : Nat, p = (i : Int) + 1 := ⟨(p - 1).toNat, by omega⟩
    subst hi
    exact above_in i u w hg h h' hF (by omega) (by omega) hsz
end Go.Proofs.YticnkekedhhbaaaGreatDoor
