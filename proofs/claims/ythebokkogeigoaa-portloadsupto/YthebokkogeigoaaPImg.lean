/-
  The images of port's statements.
-/
import Derived.Test.YthebokkogeigoaaPNew
import Derived.Deep.CutBlock
namespace Go.Proofs.Ythebokkogeigoaa
open Go.RowKit
set_option linter.unusedVariables false
set_option maxRecDepth 100000

theorem and1 (x : Int) : bits .and .i64 x 1 = x % 2 := by
  have h : bits .and .i64 x 1 = IntKind.i64.wrap (((x % 18446744073709551616).toNat &&& 1 : Nat) : Int) := by
    show IntKind.i64.wrap (((BitVec.ofInt 64 x &&& BitVec.ofInt 64 1).toNat : Nat) : Int) = _
    rw [BitVec.toNat_and, BitVec.toNat_ofInt, BitVec.toNat_ofInt]; rfl
  rw [h, show (x % 18446744073709551616).toNat &&& 1 = (x % 18446744073709551616).toNat % 2 from Nat.and_two_pow_sub_one_eq_mod _ 1, IntKind.wrap_i64]
  omega
theorem and15 (x : Int) : bits .and .i64 x 15 = x % 16 := by
  have h : bits .and .i64 x 15 = IntKind.i64.wrap (((x % 18446744073709551616).toNat &&& 15 : Nat) : Int) := by
    show IntKind.i64.wrap (((BitVec.ofInt 64 x &&& BitVec.ofInt 64 15).toNat : Nat) : Int) = _
    rw [BitVec.toNat_and, BitVec.toNat_ofInt, BitVec.toNat_ofInt]; rfl
  rw [h, show (x % 18446744073709551616).toNat &&& 15 = (x % 18446744073709551616).toNat % 16 from Nat.and_two_pow_sub_one_eq_mod _ 4, IntKind.wrap_i64]
  omega
theorem and63 (x : Int) : bits .and .i64 x 63 = x % 64 := by
  have h : bits .and .i64 x 63 = IntKind.i64.wrap (((x % 18446744073709551616).toNat &&& 63 : Nat) : Int) := by
    show IntKind.i64.wrap (((BitVec.ofInt 64 x &&& BitVec.ofInt 64 63).toNat : Nat) : Int) = _
    rw [BitVec.toNat_and, BitVec.toNat_ofInt, BitVec.toNat_ofInt]; rfl
  rw [h, show (x % 18446744073709551616).toNat &&& 63 = (x % 18446744073709551616).toNat % 64 from Nat.and_two_pow_sub_one_eq_mod _ 6, IntKind.wrap_i64]
  omega
theorem and40 (x : Int) : bits .and .i64 x 1099511627775 = x % 1099511627776 := by
  have h : bits .and .i64 x 1099511627775 = IntKind.i64.wrap (((x % 18446744073709551616).toNat &&& 1099511627775 : Nat) : Int) := by
    show IntKind.i64.wrap (((BitVec.ofInt 64 x &&& BitVec.ofInt 64 1099511627775).toNat : Nat) : Int) = _
    rw [BitVec.toNat_and, BitVec.toNat_ofInt, BitVec.toNat_ofInt]; rfl
  rw [h, show (x % 18446744073709551616).toNat &&& 1099511627775 = (x % 18446744073709551616).toNat % 1099511627776 from Nat.and_two_pow_sub_one_eq_mod _ 40, IntKind.wrap_i64]
  omega

/-- a port brought within its bounds -/
def fitP (p : Pr) : Pr := { pt := 1 + p.pt % 2, kd := p.kd % 2, out := p.out, sz := 1 + p.sz % 16, dp := if p.kd % 2 = 1 then 1 + p.dp % 64 else 0, rf := if p.kd % 2 = 1 then 0 else if p.out = true then 0 else p.rf % 1099511627776 }
def pc (p : Pr) : List Value := [.int .i64 p.pt, .int .i64 p.kd, .bool p.out, .int .i64 p.sz, .int .i64 p.dp, .int .i64 p.rf]
/-- lists, one behind the other -/
def cat (f : Nat → List Value) : Nat → List Value
  | 0 => []
  | n + 1 => cat f n ++ f n
theorem cat_len {f : Nat → List Value} {s : Nat} (hs : ∀ i, (f i).length = s) : ∀ n, (cat f n).length = n * s
  | 0 => by simp [cat]
  | n + 1 => by rw [cat, List.length_append, cat_len hs n, hs, Nat.add_mul]; omega
theorem cat_at {f : Nat → List Value} {s : Nat} (hs : ∀ i, (f i).length = s) : ∀ n i j, i < n → j < s → (cat f n)[i * s + j]? = (f i)[j]?
  | 0, i, j, hi, hj => by omega
  | n + 1, i, j, hi, hj => by
    rw [cat]
    by_cases h : i < n
    · have : i * s + j < n * s := by
        have := Nat.mul_le_mul_right s (show i + 1 ≤ n by omega)
        rw [Nat.add_mul] at this
        omega
      rw [List.getElem?_append_left (by rw [cat_len hs]; exact this)]
      exact cat_at hs n i j h hj
    · have e : i = n := by omega
      subst e
      rw [List.getElem?_append_right (by rw [cat_len hs]; omega), cat_len hs]
      congr 1
      omega
theorem cat_one {f : Nat → List Value} (hs : ∀ i, ∀ u ∈ f i, u.oneCell' = true) : ∀ n, ∀ u ∈ cat f n, u.oneCell' = true
  | 0, u, h => by simp [cat] at h
  | n + 1, u, h => by
    rw [cat, List.mem_append] at h
    rcases h with h | h
    · exact cat_one hs n u h
    · exact hs n u h
theorem pc_one (p : Pr) : ∀ u ∈ pc p, u.oneCell' = true := by
  intro u hu
  unfold pc at hu
  simp at hu
  rcases hu with rfl | rfl | rfl | rfl | rfl | rfl <;> rfl
/-- an own list of ports is read -/
theorem Pl.of_owns {w : World} {B : Nat} {v : Value} {n : Nat} {ps : Nat → Pr} (h : w.ownsRow B 30 6 v n (cat (fun i => pc (ps i)) n)) : ∃ a c, v = .slice a n c ∧ Pl w (fun g => v.ownBlock = some g) a n c ps := by
  have hc := h
  obtain ⟨_, ⟨rfl, rfl⟩ | ⟨g, cap, cur, rfl, hb, hg, hn, hm, _, _⟩⟩ := h
  · exact ⟨none, 0, rfl, ⟨Nat.le_refl _, by omega, fun i hi => by omega⟩⟩
  · refine ⟨_, cap, rfl, ⟨hn, by unfold maxLen at hm; omega, fun i hi => ⟨g, 0, rfl, rfl, ?_⟩⟩⟩
    have at' : ∀ j, j < 6 → w.cell? ⟨g, 0 + i * 6 + j, none⟩ = (pc (ps i))[j]? := fun j hj => by
      have hx := cat_at (f := fun i => pc (ps i)) (s := 6) (fun _ => rfl) n i j hi hj
      have hlt : j < (pc (ps i)).length := hj
      have := hc.cells (g := g) rfl (i * 6 + j) _ (hx.trans (List.getElem?_eq_getElem hlt))
      rw [add_none, Nat.zero_add] at this
      rw [Nat.zero_add, this, List.getElem?_eq_getElem hlt]
    exact ⟨at' 0 (by decide), at' 1 (by decide), at' 2 (by decide), at' 3 (by decide), at' 4 (by decide), at' 5 (by decide)⟩
def ZI5 : Array Value := #[.int .u8 0, .int .u8 0, .int .u8 0, .int .u8 0, .int .i32 0]
def ZP6 : Array Value := #[.int .i64 0, .int .i64 0, .int .i64 0, .int .i64 0, .int .i64 0, .bool false]
/-- a plain partition -/
def PC (i : Int) (z1 z2 : Nat) : Array Value := #[.int .i64 8, .int .i64 1, .int .i64 i, .int .i64 (i + 1), .int .i64 0, .int .i64 0, .slice none 0 0, .slice (some ⟨z1, 0, none⟩) 1 1, .slice (some ⟨z2, 0, none⟩) 1 1, .int .i64 0, .int .i64 0, .int .i64 0, .int .i64 0, .int .i64 0, .int .i64 0, .int .i64 0, .int .i64 0, .int .i64 0, .slice none 0 0, .slice none 0 0, .slice none 0 0]
def Z21 : Array Value := #[.int .i64 0, .int .i64 0, .int .i64 0, .int .i64 0, .int .i64 0, .int .i64 0, .slice none 0 0, .slice none 0 0, .slice none 0 0, .int .i64 0, .int .i64 0, .int .i64 0, .int .i64 0, .int .i64 0, .int .i64 0, .int .i64 0, .int .i64 0, .int .i64 0, .slice none 0 0, .slice none 0 0, .slice none 0 0]
theorem PC_one (i : Int) (z1 z2 : Nat) : ∀ u ∈ (PC i z1 z2).toList, u.oneCell' = true := by
  have : (PC i z1 z2).toList.all (·.oneCell') = true := by kernel_rfl
  rw [List.all_eq_true] at this
  exact this
theorem Try.infoIn : (Try.prog.info? 74).map (fun i => (i.zero, i.size, i.bytes)) = some (some (.agg ZI5), 5, 8) := by kernel_rfl
theorem Try.infoPc : (Try.prog.info? 77).map (fun i => (i.zero, i.size, i.bytes)) = some (some (.agg ZP6), 6, 48) := by kernel_rfl
theorem Try.infoPt : (Try.prog.info? 84).map (fun i => (i.zero, i.size, i.bytes)) = some (some (.agg Z21), 21, 264) := by kernel_rfl
theorem Try.infoPo : (Try.prog.info? 30).map (fun i => (i.zero, i.size, i.bytes)) = some (some (.agg #[.int .i64 0, .int .i64 0, .bool false, .int .i64 0, .int .i64 0, .int .i64 0]), 6, 48) := by kernel_rfl
theorem Try.info4 : (Try.prog.info? 72).map (·.size) = some 4 := by kernel_rfl
theorem built_i : Try.prog.built 74 [] = some ZI5 := by kernel_rfl
theorem built_p : Try.prog.built 77 [] = some ZP6 := by kernel_rfl
theorem built_pt (i : Int) (z1 z2 : Nat) : Try.prog.built 84 [(0, .agg #[.int .i64 8, .int .i64 1, .int .i64 i, .int .i64 (i + 1)]), (4, .slice (some ⟨z1, 0, none⟩) 1 1), (5, .slice (some ⟨z2, 0, none⟩) 1 1)] = some (PC i z1 z2) := by kernel_rfl
theorem fill_i : Instr.fill (fun i => some (i * 5, 5)) ((Array.range (1 * 5)).map ((Value.agg ZI5).cells[· % (Value.agg ZI5).cells.size]!)) [(0, .agg ZI5)] = some ZI5 := by kernel_rfl
theorem fill_p : Instr.fill (fun i => some (i * 6, 6)) ((Array.range (1 * 6)).map ((Value.agg ZP6).cells[· % (Value.agg ZP6).cells.size]!)) [(0, .agg ZP6)] = some ZP6 := by kernel_rfl
theorem fill_pt (i : Int) (z1 z2 : Nat) : Instr.fill (fun i => some (i * 21, 21)) ((Array.range (1 * 21)).map ((Value.agg Z21).cells[· % (Value.agg Z21).cells.size]!)) [(0, .agg (PC i z1 z2))] = some (PC i z1 z2) := by kernel_rfl
section
variable {w : World} {a : Act} {o : Oper}
theorem er_ld4 (x : Operand) (ho : o.op = .load 72 x) (g : Nat) (A : Array Value) (hx : a.eval x = .pointer (some ⟨g, 0, none⟩)) (hg : w.heap[g]? = some (.cells A 72)) (hA : A.size = 4) : (execOp a.eval o).run Try.prog w = .ok (.value (.agg A)) w := by
  have h := run_loadVar_row (P := Try.prog) w g 72 72 A (0, 0) _ hg Try.underlying72 rfl (by rw [hA]; exact Try.info4)
  unfold execOp
  simp only [ho, hx, Instr.loadAt, Instr.sureAddr, Sem.run_bind, Sem.run_pure, Result.andThen_ok, h]
theorem er_bsG (t e : TypeId) (k bytes : Nat) (Z A : Array Value) (x : Operand) (ho : o.op = .buildSlice t 1 #[(0, x)]) (ht : Try.prog.underlying t = some (.slice e)) (hi : (Try.prog.info? e).map (fun i => (i.zero, i.size, i.bytes)) = some (some (.agg Z), k, bytes)) (h1 : ¬ 1 * k > 2 ^ 24) (h2 : ¬ 1 * k = 0) (hx : a.eval x = .agg A) (hA : Instr.fill (fun i => some (i * k, k)) ((Array.range (1 * k)).map ((Value.agg Z).cells[· % (Value.agg Z).cells.size]!)) [(0, .agg A)] = some A) : (execOp a.eval o).run Try.prog w = .ok (.value (.slice (some ⟨w.heap.size, 0, none⟩) 1 1)) (w.alloc (.cells A e)) := by
  obtain ⟨i0, hi, hz0, hz1, hz2⟩ := info_parts hi
  have e1 := run_buildSlice (P := Try.prog) w t e 1 #[(0, .agg A)] A i0 (.agg Z) ht hi hz0 (by rw [hz1]; exact h1) (by rw [hz1]; exact h2) (by rw [hz1]; exact hA)
  unfold execOp
  simp only [ho, Sem.run_bind, List.map_toArray, List.map_cons, List.map_nil, hx, e1, Result.andThen_ok]
  rfl
theorem er_app (t : TypeId) (s x : Operand) (ho : o.op = .call { callee := .builtin .append, args := #[s, x], argTypes := #[t, t] }) (v u : Value) (hs : a.eval s = v) (hx : a.eval x = u) (v' : Value) (w' : World) (hty : o.type = t) (hr : (Builtin.append_ #[t, t] t #[v, u]).run Try.prog w = .ok v' w') : (execOp a.eval o).run Try.prog w = .ok (.value v') w' := by
  unfold execOp
  simp only [ho, hty, resolve, invoke, builtin, Sem.run_bind, Sem.run_pure, Result.andThen_ok, List.map_toArray, List.map_cons, List.map_nil, hs, hx, hr]
end
/-- the partitions of an image -/
structure Pts (w : World) (B : Nat) (pv : Value) (k : Nat) (z1 z2 : Nat → Nat) : Prop where
  own : w.ownsRow B 84 21 pv k (cat (fun i => (PC i (z1 i) (z2 i)).toList) k)
  code : ∀ i, i < k → w.heap[z1 i]? = some (.cells ZI5 74)
  proc : ∀ i, i < k → w.heap[z2 i]? = some (.cells ZP6 77)
  lo : ∀ i, i < k → B ≤ z1 i ∧ B ≤ z2 i
theorem Pts.keep {w w' : World} {B : Nat} {pv : Value} {k : Nat} {z1 z2 : Nat → Nat} (h : Pts w B pv k z1 z2) (K : Kept No w w') : Pts w' B pv k z1 z2 :=
  ⟨K.owns h.own (fun _ _ e => e), fun i hi => K.at' (h.code i hi) (fun e => e), fun i hi => K.at' (h.proc i hi) (fun e => e), h.lo⟩
theorem PC_congr {k : Nat} {f g : Nat → List Value} (h : ∀ i, i < k → f i = g i) : cat f k = cat g k := by
  induction k with
  | zero => rfl
  | succ n ih => rw [cat, cat, ih (fun i hi => h i (by omega)), h n (by omega)]

set_option maxHeartbeats 8000000 in
theorem image_any {F : Nat → Prop} {a : Option Addr} {n c : Nat} {ps : Nat → Pr} (w : World) (hl : Pl w F a n c ps) : Calls Try.prog 7 #[.slice a n c] w fun r w' => ∃ pv lv z1 z2, r = .returned (.agg #[pv, lv, .slice none 0 0]) ∧ Pts w' w.heap.size pv 3 z1 z2 ∧ w'.ownsRow w.heap.size 30 6 lv (min n 64) (cat (fun i => pc (fitP (ps i))) (min n 64)) ∧ Kept No w w' := by
  have hcp := hl.cap
  have hmx := hl.max
  have HP := hid hl
  clear hl
  go_enter Try.func7, Try.ntmps7
  go_upto_block 0 with fail
  have B0 : Hid ((w.alloc (.cells #[.slice none 0 0, .slice none 0 0, .slice none 0 0] 27)).heap[w.heap.size]? = some (.cells #[.slice none 0 0, .slice none 0 0, .slice none 0 0] 27) ∧ Kept No w (w.alloc (.cells #[.slice none 0 0, .slice none 0 0, .slice none 0 0] 27))) := ⟨alloc_new w _, (Kept.refl No w).alloc _⟩
  generalize (w.alloc (.cells #[.slice none 0 0, .slice none 0 0, .slice none 0 0] 27)) = w1 at *
  generalize hz : w.heap.size = q at *
  have HZ := hid hz
  clear hz
  go_cut [3] (fun u3 wx => wx.ownsRow q 30 6 u3 (min n 64) (cat (fun i => pc (fitP (ps i))) (min n 64)) ∧ wx.heap[q]? = some (.cells #[.slice none 0 0, .slice none 0 0, .slice none 0 0] 27) ∧ Kept No w wx)
  case first =>
    go_upto_region 3 with fail
    go_loopw [3, 4] (fun u3 u4 wr => ∃ (j : Nat), j ≤ n ∧ j ≤ 64 ∧ u4 = .int .i64 j ∧ wr.ownsRow q 30 6 u3 j (cat (fun i => pc (fitP (ps i))) j) ∧ wr.heap[q]? = some (.cells #[.slice none 0 0, .slice none 0 0, .slice none 0 0] 27) ∧ Kept No w wr) (fun u3 u4 _ => n - (intOf u4).toNat)
    case atStart => exact ⟨0, Nat.zero_le _, Nat.zero_le _, rfl, World.ownsRow_nil _ _ _ _, B0.out⟩
    case round =>
      clear B0
      obtain ⟨j, hj, hj2, rfl, ho, hq, hk⟩ := hrel
      obtain ⟨la, ln, lc, rfl⟩ := own_slice ho
      have HH := hid (⟨ho, hq, hk⟩ : _ ∧ _ ∧ _)
      clear ho hq hk
      by_cases hlt : j < n ∧ j < 64
      · obtain ⟨hlt, hlt2⟩ := hlt
        have hltz : (j : Int) < (n : Int) := by omega
        have hltz2 : (j : Int) < 64 := by omega
        obtain ⟨gb, go, rfl, _, e0, e1, e2, e3, e4, e5⟩ := (HP.out.kept HH.out.2.2 (fun _ _ e => e)).at' j hlt
        generalize hpj : ps j = p at *
        have HPJ := hid hpj
        clear hpj
        obtain ⟨p0, p1, p2, p3, p4, p5⟩ := p
        go_upto_region 6 with fail
        have HW : Hid ((wr.alloc (.cells #[.int .i64 p0, .int .i64 p1, .bool p2, .int .i64 p3, .int .i64 p4, .int .i64 p5] 30)).heap[wr.heap.size]? = some (.cells #[.int .i64 p0, .int .i64 p1, .bool p2, .int .i64 p3, .int .i64 p4, .int .i64 p5] 30) ∧ Kept No wr (wr.alloc (.cells #[.int .i64 p0, .int .i64 p1, .bool p2, .int .i64 p3, .int .i64 p4, .int .i64 p5] 30))) := ⟨alloc_new wr _, (Kept.refl No wr).alloc _⟩
        clear e0 e1 e2 e3 e4 e5
        generalize (wr.alloc (.cells #[.int .i64 p0, .int .i64 p1, .bool p2, .int .i64 p3, .int .i64 p4, .int .i64 p5] 30)) = wz at *
        generalize wr.heap.size = z at *
        have c0 := (cell_blk HW.out.1 0).trans rfl
        have c1 := (cell_blk HW.out.1 1).trans rfl
        have c2 := (cell_blk HW.out.1 2).trans rfl
        have c3 := (cell_blk HW.out.1 3).trans rfl
        have c4 := (cell_blk HW.out.1 4).trans rfl
        have c5 := (cell_blk HW.out.1 5).trans rfl
        have a0 := and1 p0
        have a1 := and1 p1
        have a3 := and15 p3
        have a4 := and63 p4
        have a5 := and40 p5
        have w0 : wrap64 (1 + p0 % 2) = 1 + p0 % 2 := by unfold wrap64; omega
        have w3 : wrap64 (1 + p3 % 16) = 1 + p3 % 16 := by unfold wrap64; omega
        have w4 : wrap64 (1 + p4 % 64) = 1 + p4 % 64 := by unfold wrap64; omega
        go_upto_region 7 with fail
        have HX : Hid ((wz.alloc (.cells #[.int .i64 (1 + p0 % 2), .int .i64 (p1 % 2), .bool p2, .int .i64 (1 + p3 % 16), .int .i64 0, .int .i64 0] 30)).heap[wz.heap.size]? = some (.cells #[.int .i64 (1 + p0 % 2), .int .i64 (p1 % 2), .bool p2, .int .i64 (1 + p3 % 16), .int .i64 0, .int .i64 0] 30) ∧ Kept No wz (wz.alloc (.cells #[.int .i64 (1 + p0 % 2), .int .i64 (p1 % 2), .bool p2, .int .i64 (1 + p3 % 16), .int .i64 0, .int .i64 0] 30)) ∧ wr.heap.size ≤ wz.heap.size) := ⟨alloc_new wz _, (Kept.refl No wz).alloc _, HW.out.2.size⟩
        have k4 := HX.out.2.1.cell c4 (fun e => e)
        have k5 := HX.out.2.1.cell c5 (fun e => e)
        clear c0 c1 c2 c3 c4 c5 a0 a1 a3 w0 w3
        generalize (wz.alloc (.cells #[.int .i64 (1 + p0 % 2), .int .i64 (p1 % 2), .bool p2, .int .i64 (1 + p3 % 16), .int .i64 0, .int .i64 0] 30)) = wy at *
        generalize wz.heap.size = y at *
        have d1 : wy.cell? ⟨y, 1, none⟩ = some (.int .i64 (p1 % 2)) := (cell_blk HX.out.1 1).trans rfl
        have d2 : wy.cell? ⟨y, 2, none⟩ = some (.bool p2) := (cell_blk HX.out.1 2).trans rfl
        have d4 : wy.cell? ⟨y, 4, none⟩ = some (.int .i64 0) := (cell_blk HX.out.1 4).trans rfl
        have d5 : wy.cell? ⟨y, 5, none⟩ = some (.int .i64 0) := (cell_blk HX.out.1 5).trans rfl
        have f4 := fz_blk HX.out.1 4
        have f5 := fz_blk HX.out.1 5
        go_upto_if 40 with fail
        go_cut [] (fun wx => wx.heap[y]? = some (.cells (pc (fitP ⟨p0, p1, p2, p3, p4, p5⟩)).toArray 30) ∧ Kept (fun k => k = y) wy wx)
        case first =>
          by_cases hk : p1 % 2 = 1
          · have hkb : (p1 % 2 == 1) = true := by simp [hk]
            have HR : Hid ((wy.setCell ⟨y, 4, none⟩ (.int .i64 (1 + p4 % 64))).heap[y]? = some (.cells (pc (fitP ⟨p0, p1, p2, p3, p4, p5⟩)).toArray 30)) := by
              have h1 := set_blk HX.out.1 4 (.int .i64 (1 + p4 % 64))
              have e1 : fitP ⟨p0, p1, p2, p3, p4, p5⟩ = ⟨1 + p0 % 2, p1 % 2, p2, 1 + p3 % 16, 1 + p4 % 64, 0⟩ := by
                unfold fitP
                simp [hk]
              rw [e1]
              exact h1
            clear hk
            go_wp2
            go_meet
            case rel => exact ⟨HR.out, (Kept.refl (fun k => k = y) wy).setCell (p := ⟨y, 4, none⟩) (.inl rfl) _⟩
          · have hkb : (p1 % 2 == 1) = false := by simp [hk]
            cases p2 with
            | true =>
              have HR : Hid (wy.heap[y]? = some (.cells (pc (fitP ⟨p0, p1, true, p3, p4, p5⟩)).toArray 30)) := by
                have h1 := HX.out.1
                have e1 : fitP ⟨p0, p1, true, p3, p4, p5⟩ = ⟨1 + p0 % 2, p1 % 2, true, 1 + p3 % 16, 0, 0⟩ := by
                  unfold fitP
                  simp [hk]
                rw [e1]
                exact h1
              clear hk
              go_wp2
              go_meet
              case rel => exact ⟨HR.out, Kept.refl _ _⟩
            | false =>
              have HR : Hid ((wy.setCell ⟨y, 5, none⟩ (.int .i64 (p5 % 1099511627776))).heap[y]? = some (.cells (pc (fitP ⟨p0, p1, false, p3, p4, p5⟩)).toArray 30)) := by
                have h1 := set_blk HX.out.1 5 (.int .i64 (p5 % 1099511627776))
                have e1 : fitP ⟨p0, p1, false, p3, p4, p5⟩ = ⟨1 + p0 % 2, p1 % 2, false, 1 + p3 % 16, 0, p5 % 1099511627776⟩ := by
                  unfold fitP
                  simp [hk]
                rw [e1]
                exact h1
              clear hk
              go_wp2
              go_meet
              case rel => exact ⟨HR.out, (Kept.refl (fun k => k = y) wy).setCell (p := ⟨y, 5, none⟩) (.inl rfl) _⟩
        case rest =>
          obtain ⟨hb, hky⟩ := hcut
          have KR : Kept No wr wc := (HW.out.2.trans HX.out.2.1 (fun _ e => e.elim)).trans hky (fun k e => .inr (by rw [e]; exact HX.out.2.2))
          have HQ : Hid (wc.ownsRow q 30 6 (.slice la ln lc) j (cat (fun i => pc (fitP (ps i))) j) ∧ wc.heap[q]? = some (.cells #[.slice none 0 0, .slice none 0 0, .slice none 0 0] 27) ∧ Kept No w wc) := ⟨KR.owns HH.out.1 (fun _ _ e => e), KR.at' HH.out.2.1 (fun e => e), HH.out.2.2.trans KR (fun _ e => e.elim)⟩
          have HF : Hid (fitP (ps j) = fitP ⟨p0, p1, p2, p3, p4, p5⟩) := by rw [HPJ.out]; exact rfl
          clear HX HW HH KR hky d1 d2 d4 d5 f4 f5 k4 k5 a4 a5 w4
          generalize fitP ⟨p0, p1, p2, p3, p4, p5⟩ = fp at *
          obtain ⟨f0, f1, f2, f3, f4, f5⟩ := fp
          have d0 : wc.cell? ⟨y, 0, none⟩ = some (.int .i64 f0) := (cell_blk hb 0).trans rfl
          have d1 : wc.cell? ⟨y, 1, none⟩ = some (.int .i64 f1) := (cell_blk hb 1).trans rfl
          have d2 : wc.cell? ⟨y, 2, none⟩ = some (.bool f2) := (cell_blk hb 2).trans rfl
          have d3 : wc.cell? ⟨y, 3, none⟩ = some (.int .i64 f3) := (cell_blk hb 3).trans rfl
          have d4 : wc.cell? ⟨y, 4, none⟩ = some (.int .i64 f4) := (cell_blk hb 4).trans rfl
          have d5 : wc.cell? ⟨y, 5, none⟩ = some (.int .i64 f5) := (cell_blk hb 5).trans rfl
          clear hb
          have KA : Kept No wc (wc.alloc (.cells #[.int .i64 f0, .int .i64 f1, .bool f2, .int .i64 f3, .int .i64 f4, .int .i64 f5] 30)) := (Kept.refl No wc).alloc _
          obtain ⟨i0, hi0, hz0, hz1, hz2⟩ := info_parts Try.infoPo
          have HA : Hid ((wc.alloc (.cells #[.int .i64 f0, .int .i64 f1, .bool f2, .int .i64 f3, .int .i64 f4, .int .i64 f5] 30)).ownsRow q 30 6 (.slice la ln lc) j (cat (fun i => pc (fitP (ps i))) j) ∧ (∀ k u, ([.int .i64 f0, .int .i64 f1, .bool f2, .int .i64 f3, .int .i64 f4, .int .i64 f5] : List Value)[k]? = some u → (wc.alloc (.cells #[.int .i64 f0, .int .i64 f1, .bool f2, .int .i64 f3, .int .i64 f4, .int .i64 f5] 30)).cell? (Addr.add ⟨wc.heap.size, 0, none⟩ k) = some u) ∧ q ≤ (wc.alloc (.cells #[.int .i64 f0, .int .i64 f1, .bool f2, .int .i64 f3, .int .i64 f4, .int .i64 f5] 30)).heap.size) := by
            refine ⟨KA.owns HQ.out.1 (fun _ _ e => e), fun k u hu => ?_, ?_⟩
            · rw [add_none, Nat.zero_add, cell_blk (alloc_new wc _)]
              simpa using hu
            · have h1 := HQ.out.2.2.size
              have h2 := KA.size
              rw [HZ.out] at h1
              omega
          have hI := hid (⟨hi0, hz0, hz1, hz2⟩ : _ ∧ _ ∧ _ ∧ _)
          clear hi0 hz0 hz1 hz2 KA
          go_wp2_with (at_builtin; refine wpList_append_own _ rfl _ _ 24 rfl q 30 i0 _ 6 48 Try.underlying24 hI.out.1 hI.out.2.1 hI.out.2.2.1 hI.out.2.2.2 rfl (by decide) (.slice la ln lc) j (cat (fun i => pc (fitP (ps i))) j) rfl HA.out.1 ⟨wc.heap.size, 0, none⟩ 1 1 [.int .i64 f0, .int .i64 f1, .bool f2, .int .i64 f3, .int .i64 f4, .int .i64 f5] rfl rfl HA.out.2.1 (pc_one ⟨f0, f1, f2, f3, f4, f5⟩) (by unfold maxLen; omega) (by omega) HA.out.2.2 ?_; intro v' w' own' grow' _; have HN : Hid (w'.ownsRow q 30 6 v' (j + 1) (cat (fun i => pc (fitP (ps i))) (j + 1)) ∧ w'.heap[q]? = some (.cells #[.slice none 0 0, .slice none 0 0, .slice none 0 0] 27) ∧ Kept No w w') := (by
            have kg : Kept (fun k => (Value.slice la ln lc).ownBlock = some k) wc w' := ((Kept.refl (fun k => (Value.slice la ln lc).ownBlock = some k) wc).alloc _).grown grow' (fun k e => .inl e)
            refine ⟨?_, kg.at' HQ.out.2.1 (fun e => ?_), HQ.out.2.2.trans kg (fun k e => .inr ?_)⟩
            · show w'.ownsRow q _ 6 v' (j + 1) (cat (fun i => pc (fitP (ps i))) j ++ pc (fitP (ps j)))
              rw [HF.out]
              exact own'
            · obtain ⟨_, cs, h2⟩ := owns_blk HQ.out.1 e
              exact absurd (two_tags h2 HQ.out.2.1) (by decide)
            · rw [HZ.out]
              exact (owns_blk HQ.out.1 e).1); clear own' grow'; obtain ⟨va, vn, vc, hv'⟩ := own_slice HN.out.1; subst hv')
          go_roundw
          case rel => exact ⟨j + 1, by omega, by omega, by go_num, HN.out⟩
          case measure => simp [intOf]; omega
      · have hjm : j = min n 64 := by omega
        have HE : Hid (wr.ownsRow q 30 6 (.slice la ln lc) (min n 64) (cat (fun i => pc (fitP (ps i))) (min n 64)) ∧ wr.heap[q]? = some (.cells #[.slice none 0 0, .slice none 0 0, .slice none 0 0] 27) ∧ Kept No w wr) := by rw [← hjm]; exact HH.out
        clear hjm
        by_cases h1 : j < n
        · have hltz : (j : Int) < (n : Int) := by omega
          have hltz2 : ¬ (j : Int) < 64 := by omega
          clear hlt
          go_wp2
          go_meet
          case rel => exact HE.out
        · have hltz : ¬ (j : Int) < (n : Int) := by omega
          clear hlt
          go_wp2
          go_meet
          case rel => exact HE.out
  case rest =>
    obtain ⟨ho, hq, hk⟩ := hcut
    obtain ⟨la, ln, lc, rfl⟩ := own_slice ho
    have HH := hid (⟨ho, hq, hk⟩ : _ ∧ _ ∧ _)
    clear ho hq hk
    clear B0
    go_upto_region 14 with fail
    go_loopw [7, 8] (fun u7 u8 wr => ∃ (k : Nat) (z1 z2 : Nat → Nat), k ≤ 3 ∧ u8 = .int .i64 k ∧ Pts wr q u7 k z1 z2 ∧ (wr.ownsRow q 30 6 (.slice la ln lc) (min n 64) (cat (fun i => pc (fitP (ps i))) (min n 64)) ∧ wr.heap[q]? = some (.cells #[.slice none 0 0, .slice none 0 0, .slice none 0 0] 27)) ∧ Kept No w wr) (fun u7 u8 _ => 3 - (intOf u8).toNat)
    case atStart => exact ⟨0, fun _ => 0, fun _ => 0, Nat.zero_le _, rfl, ⟨World.ownsRow_nil _ _ _ _, fun i hi => by omega, fun i hi => by omega, fun i hi => by omega⟩, ⟨HH.out.1, HH.out.2.1⟩, HH.out.2.2⟩
    case round =>
      clear HH
      obtain ⟨k, z1, z2, hk, rfl, hp, ho, hkk⟩ := hrel
      obtain ⟨pa, pn, pc', hpv⟩ := own_slice hp.own
      have HH := hid (⟨hp, ho, hkk⟩ : _ ∧ _ ∧ _)
      clear hp ho hkk
      by_cases hlt : k < 3
      · have hltz : (k : Int) < 3 := by omega
        subst hpv
        go_upto_region 17 with fail
        have HW : Hid ((wr.alloc (.cells #[.int .i64 8, .int .i64 1, .int .i64 (k : Int), .int .i64 ((k : Int) + 1)] 72)).heap[wr.heap.size]? = some (.cells #[.int .i64 8, .int .i64 1, .int .i64 (k : Int), .int .i64 ((k : Int) + 1)] 72) ∧ Pts (wr.alloc (.cells #[.int .i64 8, .int .i64 1, .int .i64 (k : Int), .int .i64 ((k : Int) + 1)] 72)) q (.slice pa pn pc') k z1 z2 ∧ ((wr.alloc (.cells #[.int .i64 8, .int .i64 1, .int .i64 (k : Int), .int .i64 ((k : Int) + 1)] 72)).ownsRow q 30 6 (.slice la ln lc) (min n 64) (cat (fun i => pc (fitP (ps i))) (min n 64)) ∧ (wr.alloc (.cells #[.int .i64 8, .int .i64 1, .int .i64 (k : Int), .int .i64 ((k : Int) + 1)] 72)).heap[q]? = some (.cells #[.slice none 0 0, .slice none 0 0, .slice none 0 0] 27)) ∧ Kept No w (wr.alloc (.cells #[.int .i64 8, .int .i64 1, .int .i64 (k : Int), .int .i64 ((k : Int) + 1)] 72))) := by
          have ka : Kept No wr (wr.alloc (.cells #[.int .i64 8, .int .i64 1, .int .i64 (k : Int), .int .i64 ((k : Int) + 1)] 72)) := (Kept.refl No wr).alloc _
          exact ⟨alloc_new wr _, HH.out.1.keep ka, ⟨ka.owns HH.out.2.1.1 (fun _ _ e => e), ka.at' HH.out.2.1.2 (fun e => e)⟩, HH.out.2.2.trans ka (fun _ e => e.elim)⟩
        clear HH
        generalize (wr.alloc (.cells #[.int .i64 8, .int .i64 1, .int .i64 (k : Int), .int .i64 ((k : Int) + 1)] 72)) = w4 at *
        generalize wr.heap.size = z9 at *
        generalize hpv : Value.slice pa pn pc' = pv at *
        clear hpv
        refine wp_region_lit ?_
        refine l_take 65 rfl rfl (er_mv _ rfl pv rfl) ?_
        simp only [Act.put, List.setIfInBounds_toArray, List.set_cons_zero, List.set_cons_succ]
        refine l_take 66 rfl rfl (er_ld4 _ rfl z9 #[.int .i64 8, .int .i64 1, .int .i64 (k : Int), .int .i64 ((k : Int) + 1)] rfl HW.out.1 rfl) ?_
        simp only [Act.put, List.setIfInBounds_toArray, List.set_cons_zero, List.set_cons_succ]
        refine l_take 67 rfl rfl (er_build 74 _ rfl _ (by kernel_rfl) _ built_i) ?_
        simp only [Act.put, List.setIfInBounds_toArray, List.set_cons_zero, List.set_cons_succ]
        refine l_make 68 rfl rfl (er_bsG 75 74 5 8 ZI5 ZI5 _ rfl Try.underlying75 Try.infoIn (by decide) (by decide) rfl fill_i) ?_
        simp only [Act.put, List.setIfInBounds_toArray, List.set_cons_zero, List.set_cons_succ]
        have F1 := alloc_new w4 (.cells ZI5 74)
        have K1 : Kept No w4 (w4.alloc (.cells ZI5 74)) := (Kept.refl No w4).alloc _
        generalize (w4.alloc (.cells ZI5 74)) = w5 at *
        refine l_take 69 rfl rfl (er_build 77 _ rfl _ (by kernel_rfl) _ built_p) ?_
        simp only [Act.put, List.setIfInBounds_toArray, List.set_cons_zero, List.set_cons_succ]
        refine l_make 70 rfl rfl (er_bsG 78 77 6 48 ZP6 ZP6 _ rfl Try.underlying78 Try.infoPc (by decide) (by decide) rfl fill_p) ?_
        simp only [Act.put, List.setIfInBounds_toArray, List.set_cons_zero, List.set_cons_succ]
        have F2 := alloc_new w5 (.cells ZP6 77)
        have K2 : Kept No w5 (w5.alloc (.cells ZP6 77)) := (Kept.refl No w5).alloc _
        generalize (w5.alloc (.cells ZP6 77)) = w6 at *
        refine l_take 71 rfl rfl (er_build 84 _ rfl _ (by kernel_rfl) _ (built_pt (k : Int) w4.heap.size w5.heap.size)) ?_
        simp only [Act.put, List.setIfInBounds_toArray, List.set_cons_zero, List.set_cons_succ]
        refine l_make 72 rfl rfl (er_bsG 23 84 21 264 Z21 (PC (k : Int) w4.heap.size w5.heap.size) _ rfl Try.underlying23 Try.infoPt (by decide) (by decide) rfl (fill_pt (k : Int) w4.heap.size w5.heap.size)) ?_
        simp only [Act.put, List.setIfInBounds_toArray, List.set_cons_zero, List.set_cons_succ]
        have F3 := alloc_new w6 (.cells (PC (k : Int) w4.heap.size w5.heap.size) 84)
        have K3 : Kept No w6 (w6.alloc (.cells (PC (k : Int) w4.heap.size w5.heap.size) 84)) := (Kept.refl No w6).alloc _
        obtain ⟨i0, hi0, hz0, hz1, hz2⟩ := info_parts Try.infoPt
        have K46 : Kept No w4 (w6.alloc (.cells (PC (k : Int) w4.heap.size w5.heap.size) 84)) := (K1.trans K2 (fun _ e => e.elim)).trans K3 (fun _ e => e.elim)
        have hP4 := HW.out.2.1.keep K46
        have hs4 := (HW.out.2.2.2.trans K46 (fun _ e => e.elim)).size
        rw [HZ.out] at hs4
        obtain ⟨v', w', hr, own', grow', _⟩ := run_append_own (P := Try.prog) (w6.alloc (.cells (PC (k : Int) w4.heap.size w5.heap.size) 84)) q 23 23 84 i0 _ 21 264 Try.underlying23 hi0 hz0 hz1 hz2 rfl (by decide) pv k _ hP4.own ⟨w6.heap.size, 0, none⟩ 1 1 (PC (k : Int) w4.heap.size w5.heap.size).toList rfl (fun x u hu => by rw [add_none, Nat.zero_add, cell_blk F3]; simpa using hu) (PC_one _ _ _) (by unfold maxLen; omega) (by omega) hs4
        refine l_make 73 rfl rfl (er_app 23 _ _ rfl pv (.slice (some ⟨w6.heap.size, 0, none⟩) 1 1) rfl rfl v' w' rfl hr) ?_
        simp only [Act.put, List.setIfInBounds_toArray, List.set_cons_zero, List.set_cons_succ]
        refine l_take 7 rfl rfl (er_as _ rfl v' rfl) ?_
        simp only [Act.put, List.setIfInBounds_toArray, List.set_cons_zero, List.set_cons_succ]
        have kg : Kept (fun x => pv.ownBlock = some x) w4 w' := (K46.mono (fun _ e => e.elim)).trans (Kept.grown (Kept.refl (fun x => pv.ownBlock = some x) _) grow' (fun x e => .inl e)) (fun x e => .inl e)
        have kg6 : Kept (fun x => pv.ownBlock = some x) (w6.alloc (.cells (PC (k : Int) w4.heap.size w5.heap.size) 84)) w' := Kept.grown (Kept.refl (fun x => pv.ownBlock = some x) _) grow' (fun x e => .inl e)
        have tag : ∀ x cs t, w4.heap[x]? = some (.cells cs t (0, 0)) → t ≠ 84 → ¬ pv.ownBlock = some x := fun x cs t h1 h2 h3 => by
          obtain ⟨_, cs', h4⟩ := owns_blk HW.out.2.1.own h3
          exact h2 (two_tags h1 h4)
        have tag6 : ∀ x cs t, (w6.alloc (.cells (PC (k : Int) w4.heap.size w5.heap.size) 84)).heap[x]? = some (.cells cs t (0, 0)) → t ≠ 84 → ¬ pv.ownBlock = some x := fun x cs t h1 h2 h3 => by
          obtain ⟨_, cs', h4⟩ := owns_blk hP4.own h3
          exact h2 (two_tags h1 h4)
        have hq4 := HW.out.2.2.2.size
        rw [HZ.out] at hq4
        have hq5 := K1.size
        have HN : Hid (Pts w' q v' (k + 1) (upd z1 k w4.heap.size) (upd z2 k w5.heap.size) ∧ (w'.ownsRow q 30 6 (.slice la ln lc) (min n 64) (cat (fun i => pc (fitP (ps i))) (min n 64)) ∧ w'.heap[q]? = some (.cells #[.slice none 0 0, .slice none 0 0, .slice none 0 0] 27)) ∧ Kept No w w') := by
          refine ⟨⟨?_, fun x hx => ?_, fun x hx => ?_, fun x hx => ?_⟩, ⟨kg.owns HW.out.2.2.1.1 (fun x hx => ?_), kg.at' HW.out.2.2.1.2 (tag _ _ _ HW.out.2.2.1.2 (by decide))⟩, HW.out.2.2.2.trans kg (fun x e => .inr (by rw [HZ.out]; exact (owns_blk HW.out.2.1.own e).1))⟩
          · rw [cat, upd_same, upd_same, PC_congr (g := fun i => (PC (i : Int) (z1 i) (z2 i)).toList) (fun i hi => by rw [upd_oth _ _ (by omega), upd_oth _ _ (by omega)])]
            exact own'
          · by_cases e : x = k
            · subst e
              rw [upd_same]
              have h1 := (K2.trans K3 (fun _ e => e.elim)).at' F1 (fun e => e)
              exact kg6.at' h1 (tag6 _ _ _ h1 (by decide))
            · rw [upd_oth _ _ e]
              have h1 := HW.out.2.1.code x (by omega)
              exact kg.at' h1 (tag _ _ _ h1 (by decide))
          · by_cases e : x = k
            · subst e
              rw [upd_same]
              have h1 := K3.at' F2 (fun e => e)
              exact kg6.at' h1 (tag6 _ _ _ h1 (by decide))
            · rw [upd_oth _ _ e]
              have h1 := HW.out.2.1.proc x (by omega)
              exact kg.at' h1 (tag _ _ _ h1 (by decide))
          · by_cases e : x = k
            · subst e
              rw [upd_same, upd_same]
              omega
            · rw [upd_oth _ _ e, upd_oth _ _ e]
              exact HW.out.2.1.lo x (by omega)
          · obtain ⟨_, cs, h1⟩ := owns_blk HW.out.2.2.1.1 hx
            exact tag _ _ _ h1 (by decide)
        obtain ⟨va, vn, vc, hv'⟩ := own_slice own'
        subst hv'
        clear own' grow' hr kg kg6 tag tag6 hP4 K46 K1 K2 K3 F1 F2 F3 hs4 hq4 hq5 hi0 hz0 hz1 hz2
        go_wp2
        go_roundw
        case rel => exact ⟨k + 1, _, _, by omega, by go_num, HN.out⟩
        case measure => simp [intOf]; omega
      · have hltz : ¬ (k : Int) < 3 := by omega
        have hk3 := hid (show k = 3 by omega)
        subst hpv
        have c0 : wr.cell? ⟨q, 0, none⟩ = some (.slice none 0 0) := (cell_blk HH.out.2.1.2 0).trans rfl
        have c1 : wr.cell? ⟨q, 1, none⟩ = some (.slice none 0 0) := (cell_blk HH.out.2.1.2 1).trans rfl
        have c2 : wr.cell? ⟨q, 2, none⟩ = some (.slice none 0 0) := (cell_blk HH.out.2.1.2 2).trans rfl
        have z0 := fz_blk HH.out.2.1.2 0
        have z1' := fz_blk HH.out.2.1.2 1
        have z2' := fz_blk HH.out.2.1.2 2
        have HE : Hid ((((wr.setCell ⟨q, 0, none⟩ (.slice pa pn pc')).setCell ⟨q, 1, none⟩ (.slice la ln lc)).setCell ⟨q, 2, none⟩ (.slice none 0 0)).heap[q]? = some (.cells #[.slice pa pn pc', .slice la ln lc, .slice none 0 0] 27) ∧ Pts (((wr.setCell ⟨q, 0, none⟩ (.slice pa pn pc')).setCell ⟨q, 1, none⟩ (.slice la ln lc)).setCell ⟨q, 2, none⟩ (.slice none 0 0)) q (.slice pa pn pc') 3 z1 z2 ∧ (((wr.setCell ⟨q, 0, none⟩ (.slice pa pn pc')).setCell ⟨q, 1, none⟩ (.slice la ln lc)).setCell ⟨q, 2, none⟩ (.slice none 0 0)).ownsRow q 30 6 (.slice la ln lc) (min n 64) (cat (fun i => pc (fitP (ps i))) (min n 64)) ∧ Kept No w (((wr.setCell ⟨q, 0, none⟩ (.slice pa pn pc')).setCell ⟨q, 1, none⟩ (.slice la ln lc)).setCell ⟨q, 2, none⟩ (.slice none 0 0))) := by
          have kg : Kept (fun k => k = q) wr (((wr.setCell ⟨q, 0, none⟩ (.slice pa pn pc')).setCell ⟨q, 1, none⟩ (.slice la ln lc)).setCell ⟨q, 2, none⟩ (.slice none 0 0)) := (((Kept.refl (fun k => k = q) wr).setCell (p := ⟨q, 0, none⟩) (.inl rfl) _).setCell (p := ⟨q, 1, none⟩) (.inl rfl) _).setCell (p := ⟨q, 2, none⟩) (.inl rfl) _
          have tag : ∀ x cs t, wr.heap[x]? = some (.cells cs t (0, 0)) → t ≠ 27 → ¬ x = q := fun x cs t h1 h2 h3 => by
            rw [h3] at h1
            exact h2 (two_tags h1 HH.out.2.1.2)
          have hp := HH.out.1
          rw [hk3.out] at hp
          refine ⟨set_blk (set_blk (set_blk HH.out.2.1.2 0 _) 1 _) 2 _, ⟨kg.owns hp.own (fun x hx => ?_), fun i hi => kg.at' (hp.code i hi) (tag _ _ _ (hp.code i hi) (by decide)), fun i hi => kg.at' (hp.proc i hi) (tag _ _ _ (hp.proc i hi) (by decide)), hp.lo⟩, kg.owns HH.out.2.1.1 (fun x hx => ?_), HH.out.2.2.trans kg (fun x e => .inr (by rw [e, HZ.out]; exact Nat.le_refl _))⟩
          · obtain ⟨_, cs, h1⟩ := owns_blk hp.own hx
            exact tag _ _ _ h1 (by decide)
          · obtain ⟨_, cs, h1⟩ := owns_blk HH.out.2.1.1 hx
            exact tag _ _ _ h1 (by decide)
        clear HH
        go_wp2
        refine bodyPost_ret (results_cell_row rfl _ _ q 27 #[.slice pa pn pc', .slice la ln lc, .slice none 0 0] (0, 0) _ rfl HE.out.1 Try.underlying27 rfl (by kernel_rfl)) rfl ?_
        rw [HZ.out]
        exact ⟨_, _, rfl, ⟨z1, z2, HE.out.2.1⟩, HE.out.2.2.1, HE.out.2.2.2⟩
end Go.Proofs.Ythebokkogeigoaa
