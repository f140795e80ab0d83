/-
  Show: the program's.
-/
import Derived.Test.YtkmhpbjegkhabaaDoorLegal
import Derived.Test.YtkmhpbjegkhabaaDoorDigits
import Derived.Deep.RegionLaw
import Derived.Deep.DeepCutAuto
namespace Go.Proofs.YtkmhpbjegkhabaaDoor
open Go.RowKit
set_option linter.unusedVariables false

/-- append onto such a row, as one step of a region that draws -/
theorem stepM {P : Program} {ops : Array Oper} {o : Oper} {a : Act} {w : World} {K : Act → World → Prop} {Q : Exit → Act → World → Prop} {E : Prop}
    (hgd : o.guard = none) (s x : Operand) (t : TypeId) (ho : o.op = Op.call { callee := Callee.builtin Builtin.append, args := #[s, x], argTypes := #[t, t] })
    (B : Nat) (e : TypeId) (i : TypeInfo) (z : Value) (ht : P.underlying t = some (.slice e)) (hi : P.info? e = some i) (hz : i.zero = some z)
    (hsize : i.size = 1) (hby : i.bytes = 1) (hzs : z.cells.size = 1)
    (v : Value) (n : Nat) (xs : List Value) (hs : a.eval s = v) (hown : ownsM w B e v n xs)
    (ad : Addr) (m c : Nat) (news : List Value) (hx : a.eval x = .slice (some ad) m c) (hl : news.length = m) (hnews : ∀ j u, news[j]? = some u → w.cell? (ad.add j) = some u) (h1 : ∀ u ∈ news, u.oneCell' = true)
    (h63 : n + m ≤ maxLen) (hbytes : n + m ≤ 140737488355328) (hbase : B ≤ w.heap.size)
    (h : ∀ v' w', ownsM w' B e v' (n + m) (xs ++ news) → w.grownBy w' v.ownBlock → K (a.put o.dst v') w') :
    if Region.wanted o (yielded ops a.tmps) = true then Oper.wp P o a w K Q else E := by
  have hw : Region.wanted o (yielded ops a.tmps) = true := by simp [Region.wanted, hgd]
  rw [if_pos hw]
  obtain ⟨v', w', hr, h2, h3⟩ := appendM (P := P) w B t o.type e i z ht hi hz hsize hby hzs v n xs hown ad m c news hl hnews h1 h63 hbytes hbase
  unfold Oper.wp execOp
  simp only [ho, resolve, invoke, builtin, Sem.run_bind, Sem.run_pure, Result.andThen_ok, List.map_toArray, List.map_cons, List.map_nil, hs, hx, hr]
  exact h v' w' h2 h3

/-- what stands for a letter -/
def opd (a b c n : Int) (ch : UInt8) : List UInt8 := if ch = 97 then 114 :: Lib.itoa a else if ch = 98 then 114 :: Lib.itoa b else if ch = 99 then 114 :: Lib.itoa c else Lib.itoa n
def tail (a b c n : Int) (s : List UInt8) : List UInt8 := s.flatMap fun ch => 32 :: opd a b c n ch
def line (o a b c n : Int) : List UInt8 := nms.getD o.toNat [] ++ tail a b c n (shs.getD o.toNat [])

theorem opd_len (a b c n : Int) (ha : 0 ≤ a ∧ a < 256) (hb : 0 ≤ b ∧ b < 256) (hc : 0 ≤ c ∧ c < 256) (hn : -2147483648 ≤ n ∧ n ≤ 2147483647) (ch : UInt8) : (opd a b c n ch).length ≤ 22 := by
  have h1 := Lib.itoa_length_le a (by omega) (by omega)
  have h2 := Lib.itoa_length_le b (by omega) (by omega)
  have h3 := Lib.itoa_length_le c (by omega) (by omega)
  have h4 := Lib.itoa_length_le n (by omega) (by omega)
  unfold opd
  split
  · simp; omega
  · split
    · simp; omega
    · split
      · simp; omega
      · omega

/-- the field that a letter speaks of -/
def regP (q : Nat) (ch : Nat) : Option Addr := if ch = 97 then some ⟨q, 1, none⟩ else if ch = 98 then some ⟨q, 2, none⟩ else if ch = 99 then some ⟨q, 3, none⟩ else none

theorem register_any (q ch : Nat) (w : World) (T : Nat) (cs : Array Value) (fz : Nat × Nat) (hq : w.heap[q]? = some (.cells cs T fz)) :
    Calls Tryd.prog 28 #[.pointer (some ⟨q, 0, none⟩), .int .u8 ch] w fun ex w' => ex = .returned (.pointer (regP q ch)) ∧ w' = w := by
  by_cases h1 : ch = 97
  · subst h1
    go_enter Tryd.func28, Tryd.ntmps28
    go_wp2
    go_ret
    exact ⟨rfl, rfl⟩
  by_cases h2 : ch = 98
  · subst h2
    go_enter Tryd.func28, Tryd.ntmps28
    go_wp2
    go_ret
    exact ⟨rfl, rfl⟩
  by_cases h3 : ch = 99
  · subst h3
    go_enter Tryd.func28, Tryd.ntmps28
    go_wp2
    go_ret
    exact ⟨rfl, rfl⟩
  · have e : regP q ch = none := by unfold regP; rw [if_neg h1, if_neg h2, if_neg h3]
    rw [e]
    have i1 : ((ch : Int) == 97) = false := by simp; omega
    have i2 : ((ch : Int) == 98) = false := by simp; omega
    have i3 : ((ch : Int) == 99) = false := by simp; omega
    clear e h1 h2 h3
    go_enter Tryd.func28, Tryd.ntmps28
    go_wp2
    go_ret
    exact ⟨rfl, rfl⟩

/-- a letter: a register's, or not -/
theorem letters (q : Nat) (a b c n : Int) (ch : UInt8) :
    (∃ j x, regP q ch.toNat = some ⟨q, j, none⟩ ∧ opd a b c n ch = 114 :: Lib.itoa x ∧ ((j = 1 ∧ x = a) ∨ (j = 2 ∧ x = b) ∨ (j = 3 ∧ x = c))) ∨ (regP q ch.toNat = none ∧ opd a b c n ch = Lib.itoa n) := by
  by_cases h1 : ch = 97
  · subst h1; exact .inl ⟨1, a, rfl, rfl, .inl ⟨rfl, rfl⟩⟩
  by_cases h2 : ch = 98
  · subst h2; exact .inl ⟨2, b, rfl, rfl, .inr (.inl ⟨rfl, rfl⟩)⟩
  by_cases h3 : ch = 99
  · subst h3; exact .inl ⟨3, c, rfl, rfl, .inr (.inr ⟨rfl, rfl⟩)⟩
  · have ne : ∀ m : UInt8, ch ≠ m → ch.toNat ≠ m.toNat := fun m h e => h (UInt8.toNat_inj.1 e)
    have g1 : ch.toNat ≠ 97 := ne 97 h1
    have g2 : ch.toNat ≠ 98 := ne 98 h2
    have g3 : ch.toNat ≠ 99 := ne 99 h3
    refine .inr ⟨?_, ?_⟩
    · unfold regP; rw [if_neg g1, if_neg g2, if_neg g3]
    · unfold opd; rw [if_neg h1, if_neg h2, if_neg h3]

abbrev box (w : World) (o a b c n : Int) : World := w.alloc (.cells #[.int .u8 o, .int .u8 a, .int .u8 b, .int .u8 c, .int .i32 n] 26)
theorem tail_step (a b c n : Int) (l : List UInt8) (k : Nat) (hk : k < l.length) : tail a b c n (l.take (k + 1)) = tail a b c n (l.take k) ++ (32 :: opd a b c n l[k]) := by
  unfold tail
  rw [List.take_add_one, List.getElem?_eq_getElem hk]
  simp only [Option.toList_some, List.flatMap_append, List.flatMap_cons, List.flatMap_nil, List.append_nil]

theorem cells5 {w : World} {q : Nat} {o a b c n : Int} (h : w.heap[q]? = some (.cells #[.int .u8 o, .int .u8 a, .int .u8 b, .int .u8 c, .int .i32 n] 26)) :
    w.cell? ⟨q, 0, none⟩ = some (.int .u8 o) ∧ w.cell? ⟨q, 1, none⟩ = some (.int .u8 a) ∧ w.cell? ⟨q, 2, none⟩ = some (.int .u8 b) ∧ w.cell? ⟨q, 3, none⟩ = some (.int .u8 c) ∧ w.cell? ⟨q, 4, none⟩ = some (.int .i32 n) := by
  refine ⟨?_, ?_, ?_, ?_, ?_⟩ <;> simp [World.cell?, h]

theorem cell_one (w : World) (T : Nat) (x : Value) : ∀ j u, [x][j]? = some u → (w.alloc (.cells #[x] T)).cell? ((⟨w.heap.size, 0, none⟩ : Addr).add j) = some u := by
  intro j u hj
  match j, hj with
  | 0, hj =>
    simp at hj
    subst hj
    rw [show ((⟨w.heap.size, 0, none⟩ : Addr).add 0) = ⟨w.heap.size, 0, none⟩ from rfl, World.cell?_alloc_mark]
    simp
theorem one_one (k : IntKind) (x : Int) : ∀ u ∈ [Value.int k x], u.oneCell' = true := by
  intro u hu; simp at hu; subst hu; rfl

theorem tab_mono {P : Program} {B B' : Nat} {w : World} {name : String} {k : IntKind} {zs : List Int} (h : Lib.TabBelow P B w name k zs) (hB : B ≤ B') : Lib.TabBelow P B' w name k zs := fun w' hb => h w' (hb.mono hB)
theorem fin1 {w : World} {B N : Nat} {v : Value} {L M L' : List UInt8} (h : ownsM w B 5 v (N + 1 + M.length) (Lib.byteCells L ++ [Value.int .u8 32] ++ Lib.byteCells M)) (hN : N = L.length) (e : L' = L ++ 32 :: M) : ownsM w B 5 v L'.length (Lib.byteCells L') := by
  have e1 : L'.length = N + 1 + M.length := by rw [e, hN]; simp; omega
  have e2 : Lib.byteCells L' = Lib.byteCells L ++ [Value.int .u8 32] ++ Lib.byteCells M := by rw [e]; simp [Lib.byteCells]
  rw [e1, e2]; exact h
theorem fin2 {w : World} {B N : Nat} {v : Value} {L M L' : List UInt8} (h : ownsM w B 5 v (N + 1 + 1 + M.length) (Lib.byteCells L ++ [Value.int .u8 32] ++ [Value.int .u8 114] ++ Lib.byteCells M)) (hN : N = L.length) (e : L' = L ++ 32 :: 114 :: M) : ownsM w B 5 v L'.length (Lib.byteCells L') := by
  have e1 : L'.length = N + 1 + 1 + M.length := by rw [e, hN]; simp; omega
  have e2 : Lib.byteCells L' = Lib.byteCells L ++ [Value.int .u8 32] ++ [Value.int .u8 114] ++ Lib.byteCells M := by rw [e]; simp [Lib.byteCells]
  rw [e1, e2]; exact h

end Go.Proofs.YtkmhpbjegkhabaaDoor
