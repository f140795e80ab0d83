/-
  ObjectsFlow: the calls.
-/
import Derived.Test.YtggkajopfbokjaaOSame
namespace Go.Proofs.Ytggkajopfbokjaa
open Go.RowKit
set_option linter.unusedVariables false
set_option maxRecDepth 100000

/-- a call of a script -/
structure Od where
  kd : Int
  sec : Bool
  num : Int
  up : Bool
  dt : List Int
/-- a script that is read -/
structure Sk (w : World) (F : Nat → Prop) (a : Option Addr) (n c : Nat) (os : Nat → Od) : Prop where
  cap : n ≤ c
  max : c ≤ 9223372036854775807
  at' : ∀ i, i < n → ∃ b o da dc, a = some ⟨b, o, none⟩ ∧ F b ∧ w.cell? ⟨b, o + i * 5, none⟩ = some (.int .i64 (os i).kd) ∧ w.cell? ⟨b, o + i * 5 + 1, none⟩ = some (.bool (os i).sec) ∧ w.cell? ⟨b, o + i * 5 + 2, none⟩ = some (.int .i64 (os i).num) ∧ w.cell? ⟨b, o + i * 5 + 3, none⟩ = some (.bool (os i).up) ∧ w.cell? ⟨b, o + i * 5 + 4, none⟩ = some (.slice da (os i).dt.length dc) ∧ Zs w F da (os i).dt.length dc (os i).dt
theorem Or.mono {w : World} {F G : Nat → Prop} {ts te tb : Value} {cs : List Int} {us lvs : List Value} {mss : List (List Value)} {xss : List (List (List Int))} (h : Or w F ts te tb cs us lvs mss xss) (hF : ∀ k, F k → G k) : Or w G ts te tb cs us lvs mss xss := by
  refine ⟨?_, ?_, ?_, h.len1, h.len2, fun i lv ms xs h1 h2 h3 => ?_⟩
  · obtain ⟨a, c, e, z⟩ := h.sems
    exact ⟨a, c, e, z.mono hF⟩
  · obtain ⟨a, c, e, z⟩ := h.evs
    exact ⟨a, c, e, z.mono hF⟩
  · obtain ⟨a, c, e, z⟩ := h.bufs
    exact ⟨a, c, e, z.mono hF⟩
  · obtain ⟨⟨a, c, e, z⟩, h4, h5⟩ := h.ent i lv ms xs h1 h2 h3
    exact ⟨⟨a, c, e, z.mono hF⟩, h4, fun j v x hv hx => by obtain ⟨a, c, e, z⟩ := h5 j v x hv hx; exact ⟨a, c, e, z.mono hF⟩⟩
theorem pp_one {w : World} {g : Nat} {x y : Int} {t : TypeId} (h : w.heap[g]? = some (.cells #[.int .i64 x, .int .i64 y] t)) : Pp w (fun _ => True) (some ⟨g, 0, none⟩) 1 1 (fun _ => x) (fun _ => y) :=
  ⟨Nat.le_refl _, by omega, fun i hi => ⟨g, 0, rfl, trivial, by
    have hi0 : i = 0 := by omega
    subst hi0
    exact ⟨(cell_blk h 0).trans rfl, (cell_blk h 1).trans rfl⟩⟩⟩
theorem vs_none (w : World) (F : Nat → Prop) : Vs w F none 0 0 [] := ⟨rfl, Nat.le_refl _, by omega, fun _ => rfl, fun i u h => by cases h⟩
theorem Try.infoAS : (Try.prog.info? 24).map (fun i => (i.zero, i.size, i.bytes)) = some (some (.agg Zs2), 2, 16) := by kernel_rfl
theorem Try.infoAB : (Try.prog.info? 27).map (fun i => (i.zero, i.size, i.bytes)) = some (some (.agg Zs2), 2, 16) := by kernel_rfl
theorem built_as (x y : Int) : Try.prog.built 24 [(0, .int .i64 x), (1, .int .i64 y)] = some #[.int .i64 x, .int .i64 y] := by kernel_rfl
theorem built_ab (x y : Int) : Try.prog.built 27 [(0, .int .i64 x), (1, .int .i64 y)] = some #[.int .i64 x, .int .i64 y] := by kernel_rfl
theorem built_part (z1 z2 : Nat) : Try.prog.built 37 [(8, .slice (some ⟨z1, 0, none⟩) 1 1), (10, .slice (some ⟨z2, 0, none⟩) 1 1)] = some (PA z1 z2) := by kernel_rfl
theorem PA_one (z1 z2 : Nat) : (PA z1 z2).all (·.oneCell') = true := by kernel_rfl
def Z21 : Array Value := #[.int .i64 0, .int .i64 0, .int .i64 0, .int .i64 0, .int .i64 0, .int .i64 0, .slice none 0 0, .slice none 0 0, .slice none 0 0, .int .i64 0, .int .i64 0, .int .i64 0, .int .i64 0, .int .i64 0, .int .i64 0, .int .i64 0, .int .i64 0, .int .i64 0, .slice none 0 0, .slice none 0 0, .slice none 0 0]
section
variable {w : World} {a : Act} {o : Oper}
theorem er_bsas (x : Operand) (ho : o.op = .buildSlice 25 1 #[(0, x)]) (A : Array Value) (hx : a.eval x = .agg A) (hA : Instr.fill (fun i => some (i * 2, 2)) ((Array.range (1 * 2)).map ((Value.agg Zs2).cells[· % (Value.agg Zs2).cells.size]!)) [(0, .agg A)] = some A) : (execOp a.eval o).run Try.prog w = .ok (.value (.slice (some ⟨w.heap.size, 0, none⟩) 1 1)) (w.alloc (.cells A 24)) := by
  obtain ⟨i0, hi, hz0, hz1, hz2⟩ := info_parts Try.infoAS
  have e := run_buildSlice (P := Try.prog) w 25 24 1 #[(0, .agg A)] A i0 (.agg Zs2) Try.underlying25 hi hz0 (by rw [hz1]; decide) (by rw [hz1]; decide) (by rw [hz1]; exact hA)
  unfold execOp
  simp only [ho, Sem.run_bind, List.map_toArray, List.map_cons, List.map_nil, hx, e, Result.andThen_ok]
  rfl
theorem er_bsab (x : Operand) (ho : o.op = .buildSlice 28 1 #[(0, x)]) (A : Array Value) (hx : a.eval x = .agg A) (hA : Instr.fill (fun i => some (i * 2, 2)) ((Array.range (1 * 2)).map ((Value.agg Zs2).cells[· % (Value.agg Zs2).cells.size]!)) [(0, .agg A)] = some A) : (execOp a.eval o).run Try.prog w = .ok (.value (.slice (some ⟨w.heap.size, 0, none⟩) 1 1)) (w.alloc (.cells A 27)) := by
  obtain ⟨i0, hi, hz0, hz1, hz2⟩ := info_parts Try.infoAB
  have e := run_buildSlice (P := Try.prog) w 28 27 1 #[(0, .agg A)] A i0 (.agg Zs2) Try.underlying28 hi hz0 (by rw [hz1]; decide) (by rw [hz1]; decide) (by rw [hz1]; exact hA)
  unfold execOp
  simp only [ho, Sem.run_bind, List.map_toArray, List.map_cons, List.map_nil, hx, e, Result.andThen_ok]
  rfl
theorem er_alloc (ho : o.op = .alloc 37) : (execOp a.eval o).run Try.prog w = .ok (.value (.pointer (some ⟨w.heap.size, 0, none⟩))) (w.alloc (.cells Z21 37)) := by
  simp only [execOp, ho]
  simp [go_sem]
  rfl
end
section
variable {w : World} {a : Act} {o : Oper}
theorem er_ldP (x : Operand) (ho : o.op = .load 37 x) (g : Nat) (A : Array Value) (hx : a.eval x = .pointer (some ⟨g, 0, none⟩)) (hg : w.heap[g]? = some (.cells A 37)) (hA : A.size = 21) : (execOp a.eval o).run Try.prog w = .ok (.value (.agg A)) w := by
  have h := run_loadVar_row (P := Try.prog) w g 37 37 A (0, 0) _ hg Try.underlying37 rfl (by rw [hA]; exact Try.infoPart)
  unfold execOp
  simp only [ho, hx, Instr.loadAt, Instr.sureAddr, Sem.run_bind, Sem.run_pure, Result.andThen_ok, h]
theorem er_c_st (x : Operand) (t : TypeId) (ho : o.op = .call { callee := .value (.func 13), args := #[x], argTypes := #[t] }) (v : Value) (hx : a.eval x = v) : (execOp a.eval o).run Try.prog w = .ok (.enter 13 #[v]) w := by
  subst hx
  simp [execOp, ho, go_sem, Act.eval]
theorem er_c_ld (x y : Operand) (t t' : TypeId) (ho : o.op = .call { callee := .value (.func 12), args := #[x, y], argTypes := #[t, t'] }) (v u : Value) (hx : a.eval x = v) (hy : a.eval y = u) : (execOp a.eval o).run Try.prog w = .ok (.enter 12 #[v, u]) w := by
  subst hx hy
  simp [execOp, ho, go_sem, Act.eval]
theorem er_ex0 (x : Operand) (ho : o.op = .extract x 0) (u v : Value) (hx : a.eval x = .tuple #[u, v]) : (execOp a.eval o).run Try.prog w = .ok (.value u) w := by
  simp only [execOp, ho, hx]; simp [go_sem]
theorem er_ex1 (x : Operand) (ho : o.op = .extract x 1) (u v : Value) (hx : a.eval x = .tuple #[u, v]) : (execOp a.eval o).run Try.prog w = .ok (.value v) w := by
  simp only [execOp, ho, hx]; simp [go_sem]
theorem er_fO2 (x : Operand) (ho : o.op = .fieldAddr 55 x 2) (g : Nat) (hx : a.eval x = .pointer (some ⟨g, 0, none⟩)) : (execOp a.eval o).run Try.prog w = .ok (.value (.pointer (some ⟨g, 2, none⟩))) w := by simp only [execOp, ho, hx]; simp [go_sem, add_none]
theorem er_ldBB (x : Operand) (ho : o.op = .load 53 x) (g off : Nat) (v : Value) (hx : a.eval x = .pointer (some ⟨g, off, none⟩)) (hr : w.cell? ⟨g, off, none⟩ = some v) : (execOp a.eval o).run Try.prog w = .ok (.value v) w := by
  simp only [execOp, ho, hx]; simp [go_sem, hr]
theorem er_ldLL (x : Operand) (ho : o.op = .load 40 x) (g off : Nat) (v : Value) (hx : a.eval x = .pointer (some ⟨g, off, none⟩)) (hr : w.cell? ⟨g, off, none⟩ = some v) : (execOp a.eval o).run Try.prog w = .ok (.value v) w := by
  simp only [execOp, ho, hx]; simp [go_sem, hr]
theorem er_ldL (x : Operand) (ho : o.op = .load 31 x) (g off : Nat) (v : Value) (hx : a.eval x = .pointer (some ⟨g, off, none⟩)) (hr : w.cell? ⟨g, off, none⟩ = some v) : (execOp a.eval o).run Try.prog w = .ok (.value v) w := by
  simp only [execOp, ho, hx]; simp [go_sem, hr]
theorem er_ixBB (x y : Operand) (ho : o.op = .indexAddr 53 x y) (g off i n c : Nat) (hx : a.eval x = .slice (some ⟨g, off, none⟩) n c) (hy : a.eval y = .int .i64 (i : Int)) (hi : i < n) : (execOp a.eval o).run Try.prog w = .ok (.value (.pointer (some ⟨g, off + i, none⟩))) w := by
  simp only [execOp, ho, hx, hy]; simp [go_sem, add_none, hi]
theorem er_ixLL (x y : Operand) (ho : o.op = .indexAddr 40 x y) (g off i n c : Nat) (hx : a.eval x = .slice (some ⟨g, off, none⟩) n c) (hy : a.eval y = .int .i64 (i : Int)) (hi : i < n) : (execOp a.eval o).run Try.prog w = .ok (.value (.pointer (some ⟨g, off + i, none⟩))) w := by
  simp only [execOp, ho, hx, hy]; simp [go_sem, add_none, hi]
theorem er_sub (x y : Operand) (ho : o.op = .binOp .sub 3 x y 3) (u v : Int) (d : Nat) (hx : a.eval x = .int .i64 u) (hy : a.eval y = .int .i64 v) (hd : u - v = (d : Int)) (hb : d ≤ 4096) : (execOp a.eval o).run Try.prog w = .ok (.value (.int .i64 (d : Int))) w := by
  have hw : IntKind.i64.wrap (d : Int) = (d : Int) := by
    rw [IntWalk.i64_left]
    unfold wrap64
    omega
  simp only [execOp, ho, hx, hy]; simp [go_sem, hd, hw]
theorem er_c_sw (x y : Operand) (t t' : TypeId) (ho : o.op = .call { callee := .value (.func 11), args := #[x, y], argTypes := #[t, t'] }) (v u : Value) (hx : a.eval x = v) (hy : a.eval y = u) : (execOp a.eval o).run Try.prog w = .ok (.enter 11 #[v, u]) w := by
  subst hx hy
  simp [execOp, ho, go_sem, Act.eval]
theorem er_not (x : Operand) (ho : o.op = .unOp .not 4 x) (v : Bool) (hx : a.eval x = .bool v) : (execOp a.eval o).run Try.prog w = .ok (.value (.bool !v)) w := by
  simp only [execOp, ho, hx]; simp [go_sem]
theorem er_as (x : Operand) (ho : o.op = .assign x) (v : Value) (hx : a.eval x = v) : (execOp a.eval o).run Try.prog w = .ok (.value v) w := by simp only [execOp, ho, hx]; rfl
end
namespace Fy
variable {w wr : World} {F : Nat → Prop} {q z1 z2 : Nat} {size depth start most : Int} {b : Nat} {sv ev bv : Value} {S : So} {nn : Int} {inv : Value} {vs : List Value} {ins : List (List Int)} {out : Nat}
theorem hns (h : Fy w wr F q z1 z2 size depth start most b sv ev bv S nn inv vs ins out) : 0 < S.ns ∧ S.ns ≤ 1048576 := by rw [h.ns]; omega
theorem hnb (h : Fy w wr F q z1 z2 size depth start most b sv ev bv S nn inv vs ins out) : 0 < S.nb ∧ S.nb ≤ 1048576 := by rw [h.nb]; omega
theorem msl (h : Fy w wr F q z1 z2 size depth start most b sv ev bv S nn inv vs ins out) : (S.ms 0).length = ins.length - out := by
  have := h.st.len 0 h.hnb.1
  rw [h.xs, List.length_drop] at this
  exact this.symm
theorem count (h : Fy w wr F q z1 z2 size depth start most b sv ev bv S nn inv vs ins out) : Calls Try.prog 14 #[.pointer (some ⟨b, 0, none⟩), .int .i64 1] wr fun e w' => e = .returned (.tuple #[.int .i64 nn, .int .i64 0]) ∧ Kept No wr w' := by
  have c := count_any wr h.st (i := 0) h.hns.1 h.hns.2
  rw [h.cnt] at c
  exact c
theorem down (h : Fy w wr F q z1 z2 size depth start most b sv ev bv S nn inv vs ins out) (hm : most ≤ 9223372036854775807) : Calls Try.prog 7 #[.pointer (some ⟨b, 0, none⟩), .int .i64 1] wr fun e w' => e = .returned (.tuple #[.bool (decide (0 < nn)), .int .i64 0]) ∧ Fy w w' F q z1 z2 size depth start most b sv ev bv (S.semTo 0 (downI nn)) (downI nn) inv vs ins out := by
  have hlo := h.lo
  have hhi := h.hi
  have c := down_any wr h.st (i := 0) h.hns.1 h.hns.2 (by rw [h.cnt]; omega)
  rw [h.cnt] at c
  refine Calls.mono c ?_
  rintro e w' ⟨he, d⟩
  exact ⟨he, h.semTo (by unfold downI; split <;> omega) (by unfold downI; split <;> omega) d⟩
theorem up (h : Fy w wr F q z1 z2 size depth start most b sv ev bv S nn inv vs ins out) (hm : most ≤ 9223372036854775807) : Calls Try.prog 8 #[.pointer (some ⟨b, 0, none⟩), .int .i64 1] wr fun e w' => e = .returned (.tuple #[.bool (decide (nn < most)), .int .i64 0]) ∧ Fy w w' F q z1 z2 size depth start most b sv ev bv (S.semTo 0 (upI nn most)) (upI nn most) inv vs ins out := by
  have hlo := h.lo
  have hhi := h.hi
  have c := up_any wr h.st (i := 0) h.hns.1 h.hns.2 (by rw [h.cnt]; omega) (by rw [h.mx]; omega)
  rw [h.cnt, h.mx] at c
  refine Calls.mono c ?_
  rintro e w' ⟨he, d⟩
  exact ⟨he, h.semTo (by unfold upI; split <;> omega) (by unfold upI; split <;> omega) d⟩
theorem put_no (h : Fy w wr F q z1 z2 size depth start most b sv ev bv S nn inv vs ins out) (xa : Option Addr) (n xc : Nat) (hx : ¬ (n : Int) = size) : Calls Try.prog 9 #[.pointer (some ⟨b, 0, none⟩), .int .i64 1, .slice xa n xc] wr fun e w' => e = .returned (.tuple #[.bool false, .int .i64 2]) ∧ Kept No wr w' :=
  put_bad wr h.st (i := 0) h.hnb.1 h.hnb.2 xa n xc (by rw [h.sz]; exact hx)
theorem put_out (h : Fy w wr F q z1 z2 size depth start most b sv ev bv S nn inv vs ins out) {xa : Option Addr} {n xc : Nat} {x : List Int} (hz : Zs wr F xa n xc x) (hx : (n : Int) = size) (hd : depth ≤ (ins.length : Int) - out) (hs : size ≤ 64) : Calls Try.prog 9 #[.pointer (some ⟨b, 0, none⟩), .int .i64 1, .slice xa n xc] wr fun e w' => e = .returned (.tuple #[.bool false, .int .i64 0]) ∧ Kept No wr w' :=
  put_full wr h.st (i := 0) h.hnb.1 h.hnb.2 hz (by rw [h.sz]; exact hx) (by rw [h.dp, h.msl]; have := h.ole; omega) (by omega)
theorem put_in (h : Fy w wr F q z1 z2 size depth start most b sv ev bv S nn inv vs ins out) {xa : Option Addr} {n xc : Nat} {x : List Int} (hz : Zs wr F xa n xc x) (hx : (n : Int) = size) (hd : (ins.length : Int) - out < depth) (hs : size ≤ 64) (hdp : depth ≤ 64) : Calls Try.prog 9 #[.pointer (some ⟨b, 0, none⟩), .int .i64 1, .slice xa n xc] wr fun e w' => e = .returned (.tuple #[.bool true, .int .i64 0]) ∧ Puts wr w' w.heap.size b sv ev bv S 0 x :=
  put_yes wr h.st (i := 0) h.hnb.1 h.hnb.2 hz (by rw [h.sz]; exact hx) (by rw [h.dp, h.msl]; have := h.ole; omega) (by rw [h.msl]; have := h.ole; omega) (by omega)
theorem get_no (h : Fy w wr F q z1 z2 size depth start most b sv ev bv S nn inv vs ins out) (ho : out = ins.length) : Calls Try.prog 10 #[.pointer (some ⟨b, 0, none⟩), .int .i64 1] wr fun e w' => e = .returned (.tuple #[.slice none 0 0, .bool false, .int .i64 0]) ∧ Kept No wr w' :=
  get_none wr h.st (i := 0) h.hnb.1 h.hnb.2 (List.eq_nil_of_length_eq_zero (by rw [h.msl]; omega))
theorem get_one (h : Fy w wr F q z1 z2 size depth start most b sv ev bv S nn inv vs ins out) (ho : out < ins.length) (hl : ins.length ≤ 4096) : Calls Try.prog 10 #[.pointer (some ⟨b, 0, none⟩), .int .i64 1] wr fun e w' => ∃ m x, e = .returned (.tuple #[m, .bool true, .int .i64 0]) ∧ (∃ S', Fy w w' F q z1 z2 size depth start most b sv ev bv S' nn inv vs ins (out + 1)) ∧ w'.ownsRow w.heap.size 2 1 m x.length (x.map iv) ∧ ins[out]? = some x := by
  have hml := h.msl
  have hxl := h.st.len 0 h.hnb.1
  obtain ⟨m, ms, hm⟩ : ∃ m ms, S.ms 0 = m :: ms := by
    cases e : S.ms 0 with
    | nil => rw [e] at hml; simp at hml; omega
    | cons m ms => exact ⟨m, ms, rfl⟩
  obtain ⟨x, xs, hx⟩ : ∃ x xs, S.xs 0 = x :: xs := by
    cases e : S.xs 0 with
    | nil => rw [e, hm] at hxl; simp at hxl
    | cons x xs => exact ⟨x, xs, rfl⟩
  refine (get_yes wr h.st (i := 0) h.hnb.1 h.hnb.2 hm hx (by rw [hm, List.length_cons] at hml; omega)).mono ?_
  rintro e w' ⟨he, G⟩
  exact ⟨m, x, he, h.get hx G⟩
theorem in_at (h : Fy w wr F q z1 z2 size depth start most b sv ev bv S nn inv vs ins out) {j : Nat} {y : List Int} (hy : ins[j]? = some y) : ∃ g cap a' c', inv = .slice (some ⟨g, 0, none⟩) ins.length cap ∧ ins.length ≤ cap ∧ cap ≤ 9223372036854775807 ∧ wr.cell? ⟨g, j, none⟩ = some (.slice a' y.length c') ∧ Zs wr F a' y.length c' y := by
  have hj := (List.getElem?_eq_some_iff.1 hy).1
  have hvo : j < vs.length := by rw [h.len]; exact hj
  obtain ⟨a', c', hv', zd⟩ := h.dat j _ y (List.getElem?_eq_getElem hvo) hy
  rcases owns_cells h.own with ⟨_, h0⟩ | ⟨g, cap, h0, _, _, h01, h02, h03, _⟩
  · omega
  · exact ⟨g, cap, a', c', h0, h01, by unfold maxLen at h02; exact h02, by rw [← hv']; exact h03 j _ (List.getElem?_eq_getElem hvo), zd.kept h.kept (fun _ _ e => e)⟩
theorem small (h : Fy w wr F q z1 z2 size depth start most b sv ev bv S nn inv vs ins out) (hl : ins.length ≤ 4096) (hs : size ≤ 64) : Sm S := by
  refine ⟨by rw [h.ns]; omega, by rw [h.ne]; omega, by rw [h.nb]; omega, fun i hi => ?_⟩
  have hi0 : i = 0 := by rw [h.nb] at hi; omega
  subst hi0
  refine ⟨by rw [h.msl]; omega, fun x hx => ?_⟩
  rw [h.xs] at hx
  have := h.szs x (List.mem_of_mem_drop hx)
  omega
theorem state (h : Fy w wr F q z1 z2 size depth start most b sv ev bv S nn inv vs ins out) (hl : ins.length ≤ 4096) (hs : size ≤ 64) : Calls Try.prog 13 #[.pointer (some ⟨b, 0, none⟩)] wr fun e w' => ∃ ts te tb, e = .returned (.agg #[ts, te, tb]) ∧ Told wr w' ts te tb S := state_any wr h.st (h.small hl hs)
theorem reload {W : World} {ts te tb : Value} (h : Fy w wr F q z1 z2 size depth start most b sv ev bv S nn inv vs ins out) (hl : ins.length ≤ 4096) (hs : size ≤ 64) (T : Told wr W ts te tb S) : Calls Try.prog 12 #[.agg (PA z1 z2), .agg #[ts, te, tb]] W fun e w' => ∃ b', e = .returned (.tuple #[.pointer (some ⟨b', 0, none⟩), .int .i64 0]) ∧ ∃ sv' ev' bv' S', Fy w w' F q z1 z2 size depth start most b' sv' ev' bv' S' nn inv vs ins out := by
  obtain ⟨lvs, mss, hll, hor⟩ := T.or
  obtain ⟨_, _, _, _, _, _, K⟩ := T
  have hW := h.keep K
  have hsm := h.small hl hs
  have hns1 := h.ns
  have hnb1 := h.nb
  have l1 : ((List.range S.ns).map S.cnt).length = 1 := by simp [hns1]
  have l2 : (evL S).length = 0 := by simp [evL, h.ne]
  have l3 : lvs.length = 1 := by rw [hll, hnb1]
  have g1 : ((List.range S.ns).map S.cnt).getD 0 0 = nn := by simp [hns1, h.cnt]
  have g2 : (xsL S S.nb).getD 0 [] = S.xs 0 := by simp [xsL, hnb1]
  refine (load_any (F := fun _ => True) (A := PA z1 z2) (us0 := []) (f0 := fun _ => false) (f := fun _ => false) W rfl rfl rfl rfl (pp_one hW.sem) (vs_none _ _) (pp_one hW.buf) (fun i hi => by omega) (by omega) (by omega) (by omega) (Or.mono hor (fun _ _ => trivial)) (fun i hi => by omega) (fun xs hxs => ?_)).mono ?_
  · have hx0 : xs = S.xs 0 := by
      simp [xsL, hnb1] at hxs
      exact hxs
    subst hx0
    have h0 := hsm.2.2.2 0 h.hnb.1
    exact ⟨by rw [h.st.len 0 h.hnb.1]; exact h0.1, h0.2⟩
  · rintro e w' (⟨_, b', he, L⟩ | ⟨hno, _⟩)
    · obtain ⟨sv', ev', bv', S', hF⟩ := hW.load L (by show ck _ _ 1 0 = nn; unfold ck; rw [if_pos (by omega)]; exact g1) rfl rfl rfl (by show xf _ 1 0 0 = _; unfold xf; rw [if_pos (by omega)]; exact g2)
      exact ⟨b', he, sv', ev', bv', S', hF⟩
    · refine absurd ⟨l1, l2, l3, fun i hi => ?_, fun i hi => ?_⟩ hno
      · have : i = 0 := by omega
        subst this
        rw [g1]
        exact ⟨h.lo, h.hi⟩
      · have : i = 0 := by omega
        subst this
        rw [g2, h.xs]
        intro j hj
        rw [List.length_drop] at hj
        have h1 := h.room
        have h2 := h.ole
        refine ⟨by show (j : Int) < depth; omega, h.szs _ ?_⟩
        have : (ins.drop out).getD j [] = (ins.drop out)[j]'(by rw [List.length_drop]; exact hj) := by simp [List.getD, hj]
        rw [this]
        exact List.mem_of_mem_drop (List.getElem_mem _)
/-- what State told at the end -/
theorem left {W : World} {ts te tb : Value} (h : Fy w wr F q z1 z2 size depth start most b sv ev bv S nn inv vs ins out) (T : Told wr W ts te tb S) :
    ∃ g1 c1 g2 c2 lv ms, ts = .slice (some ⟨g1, 0, none⟩) 1 c1 ∧ 1 ≤ c1 ∧ c1 ≤ 9223372036854775807 ∧ (∃ ea ec, te = .slice ea 0 ec) ∧ tb = .slice (some ⟨g2, 0, none⟩) 1 c2 ∧ 1 ≤ c2 ∧ c2 ≤ 9223372036854775807 ∧ W.cell? ⟨g1, 0, none⟩ = some (.int .i64 nn) ∧ W.cell? ⟨g2, 0, none⟩ = some lv ∧ Ll W wr.heap.size lv ms (ins.drop out) ∧ Kept No wr W := by
  obtain ⟨lvs, mss, o1, o2, L, hll, K⟩ := T
  have hnb1 := h.nb
  rw [h.ns] at o1
  rw [h.ne] at o2
  rw [hnb1] at hll L
  obtain ⟨lv, ms, xs, q1, q2, q3, hL⟩ := L.at_ll (i := 0) (by omega)
  have hx : xs = ins.drop out := by
    have : xsL S 1 = [S.xs 0] := rfl
    rw [this] at q3
    simp at q3
    rw [← q3, h.xs]
  subst hx
  have oL := L.own
  rw [hll] at oL
  rcases owns_cells o1 with ⟨_, h0⟩ | ⟨g1, c1, e1, _, _, r1, r2, r3, _⟩
  · omega
  · rcases owns_cells oL with ⟨_, h0⟩ | ⟨g2, c2, e2, _, _, s1, s2, s3, _⟩
    · omega
    · obtain ⟨ea, en, ec, e3⟩ := own_slice o2
      have he : en = 0 := by
        subst e3
        rcases owns_cells o2 with ⟨h0, _⟩ | ⟨g, cap, h0, _⟩
        · injection h0
        · injection h0
      subst he
      unfold maxLen at r2 s2
      exact ⟨g1, c1, g2, c2, lv, ms, e1, r1, r2, ⟨ea, ec, e3⟩, e2, s1, s2, r3 0 _ (by rw [← h.cnt]; rfl), s3 0 lv q1, hL, K⟩
end Fy
end Go.Proofs.Ytggkajopfbokjaa
