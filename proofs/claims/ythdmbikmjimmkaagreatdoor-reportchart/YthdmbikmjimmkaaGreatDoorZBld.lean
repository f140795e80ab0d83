/-
  The builder: the library's contracts, laid at this dump.
-/
import Derived.Test.YthdmbikmjimmkaaGreatDoorZCel
import Derived.Test.YthdmbikmjimmkaaGreatDoorProg
import Derived.Shelf.Lay
import Derived.Shelf.Strings.BuilderRune
import Derived.Shelf.Strings.BuilderK
namespace Go.Proofs
open Go.Shelf
set_option maxRecDepth 100000
def Tryz.renB : Go.Shelf.Ren := ⟨fun | 168 => 15 | 169 => 17 | 240 => 30 | 242 => 31 | 276 => 54 | 278 => 55 | n => n, fun | 0 => 0 | 1 => 1 | 2 => 2 | 3 => 3 | 4 => 4 | 5 => 5 | 6 => 6 | 7 => 7 | 8 => 8 | 9 => 9 | 10 => 10 | 11 => 11 | 12 => 12 | 13 => 13 | 14 => 14 | 15 => 15 | 16 => 16 | 17 => 17 | 18 => 18 | 19 => 19 | 20 => 20 | 21 => 21 | 28 => 43 | 34 => 48 | 37 => 51 | 43 => 79 | 46 => 140 | 47 => 151 | 49 => 193 | 51 => 109 | 52 => 162 | 53 => 164 | 54 => 163 | 70 => 50 | 71 => 52 | 72 => 53 | 73 => 146 | 74 => 36 | 75 => 37 | 76 => 54 | 79 => 55 | 80 => 57 | 81 => 179 | 111 => 139 | 112 => 58 | 114 => 106 | 126 => 77 | 127 => 78 | 131 => 41 | 164 => 93 | 165 => 108 | 182 => 156 | 183 => 157 | n => n, fun n => n⟩
theorem Tryz.laysWr : Lays.n168 Tryz.prog Tryz.renB where
  mixed := by kernel_rfl
  f168 := Tryz.func15.trans (congrArg some (by kernel_rfl))
  f240 := Tryz.func30.trans (congrArg some (by kernel_rfl))
  f242 := Tryz.func31.trans (congrArg some (by kernel_rfl))
  f276 := Tryz.func54.trans (congrArg some (by kernel_rfl))
  f278 := Tryz.func55.trans (congrArg some (by kernel_rfl))
  t0 := Tryz.underlying0
  a0 := Tryz.isAgg0
  z0 := Tryz.sizeOf0
  v0 := Tryz.zeroValue0
  t3 := Tryz.underlying3
  a3 := Tryz.isAgg3
  z3 := Tryz.sizeOf3
  v3 := Tryz.zeroValue3
  t4 := Tryz.underlying4
  a4 := Tryz.isAgg4
  z4 := Tryz.sizeOf4
  v4 := Tryz.zeroValue4
  t5 := Tryz.underlying5
  a5 := Tryz.isAgg5
  z5 := Tryz.sizeOf5
  v5 := Tryz.zeroValue5
  t9 := Tryz.underlying9
  a9 := Tryz.isAgg9
  z9 := Tryz.sizeOf9
  v9 := Tryz.zeroValue9
  t20 := Tryz.underlying20
  a20 := Tryz.isAgg20
  z20 := Tryz.sizeOf20
  v20 := Tryz.zeroValue20
  t21 := Tryz.underlying21
  a21 := Tryz.isAgg21
  z21 := Tryz.sizeOf21
  v21 := Tryz.zeroValue21
  t37 := Tryz.underlying51
  a37 := Tryz.isAgg51
  z37 := Tryz.sizeOf51
  v37 := Tryz.zeroValue51
  t46 := Tryz.underlying140
  a46 := Tryz.isAgg140
  z46 := Tryz.sizeOf140
  v46 := Tryz.zeroValue140
  t51 := Tryz.underlying109
  a51 := Tryz.isAgg109
  z51 := Tryz.sizeOf109
  v51 := Tryz.zeroValue109
  t70 := Tryz.underlying50
  a70 := Tryz.isAgg50
  z70 := Tryz.sizeOf50
  v70 := Tryz.zeroValue50
  t72 := Tryz.underlying53
  a72 := Tryz.isAgg53
  z72 := Tryz.sizeOf53
  v72 := Tryz.zeroValue53
  t75 := Tryz.underlying37
  a75 := Tryz.isAgg37
  z75 := Tryz.sizeOf37
  v75 := Tryz.zeroValue37
  t164 := Tryz.underlying93
  a164 := Tryz.isAgg93
  z164 := Tryz.sizeOf93
  v164 := Tryz.zeroValue93
theorem Tryz.laysSt : Lays.n169 Tryz.prog Tryz.renB where
  mixed := by kernel_rfl
  f169 := Tryz.func17.trans (congrArg some (by kernel_rfl))
  t0 := Tryz.underlying0
  a0 := Tryz.isAgg0
  z0 := Tryz.sizeOf0
  v0 := Tryz.zeroValue0
  t3 := Tryz.underlying3
  a3 := Tryz.isAgg3
  z3 := Tryz.sizeOf3
  v3 := Tryz.zeroValue3
  t9 := Tryz.underlying9
  a9 := Tryz.isAgg9
  z9 := Tryz.sizeOf9
  v9 := Tryz.zeroValue9
  t37 := Tryz.underlying51
  a37 := Tryz.isAgg51
  z37 := Tryz.sizeOf51
  v37 := Tryz.zeroValue51
  t70 := Tryz.underlying50
  a70 := Tryz.isAgg50
  z70 := Tryz.sizeOf50
  v70 := Tryz.zeroValue50
  t72 := Tryz.underlying53
  a72 := Tryz.isAgg53
  z72 := Tryz.sizeOf53
  v72 := Tryz.zeroValue53
  t127 := Tryz.underlying78
  a127 := Tryz.isAgg78
  z127 := Tryz.sizeOf78
  v127 := Tryz.zeroValue78
theorem Tryz.extraB : Builder.Extra Tryz.prog Tryz.renB where
  sizeBuilder := by kernel_rfl
  liesBuilder := by kernel_rfl
  t5 := Tryz.underlying5
  a5 := Tryz.isAgg5
  z5 := Tryz.sizeOf5
  v5 := Tryz.zeroValue5
  infoByte := by kernel_rfl
  cellsByte := by kernel_rfl
  sizeByte := by kernel_rfl
  neB5 := by decide
namespace YthdmbikmjimmkaaGreatDoor
open Go.RowKit
set_option linter.unusedVariables false
theorem alloc_new (w : World) (o : Obj) : (w.alloc o).heap[w.heap.size]? = some o := World.alloc_heap_new w o
/-- a builder that holds these bytes -/
def Bdr (w : World) (B b : Nat) (l : List UInt8) : Prop := Lib.IsBuilderF 53 5 B b (Lib.byteCells l) w
/-- what a call on it leaves -/
def Bwr (B b : Nat) (w w' : World) : Prop := Below B w w' ∧ Lib.OthersKept 5 (some b) w w'
theorem Bdr.kept {w w' : World} {B b : Nat} {l : List UInt8} (h : Bdr w B b l) (k : Kept No w w') : Bdr w' B b l := by
  have key : ∀ p, Lib.BuilderAtF 53 5 B b p (Lib.byteCells l) w → Lib.BuilderAtF 53 5 B b p (Lib.byteCells l) w' := by
    rintro p ⟨hB, v, hb, hown, hne⟩
    have hno : v.ownBlock = none ∨ v.ownBlock ≠ none := by cases v.ownBlock <;> simp
    exact ⟨hB, v, k.at' hb (fun h => h), hown.kept (row := none) ⟨k.os, k.tape, k.output, k.size, fun q hq _ => k.block q hq (fun h => h)⟩ hno, hne⟩
  exact h.elim (fun x => .inl (key _ x)) (fun x => .inr (key _ x))
theorem wrune_any (x : UInt8) (hx : x.toNat < 128) {w : World} {B b : Nat} {l : List UInt8} (h : Bdr w B b l) (hl : l.length + 4 ≤ 140737488355328) (hB : B ≤ w.heap.size) :
    Calls Tryz.prog 15 #[.pointer (some ⟨b, 0, none⟩), .int .i32 (x.toNat : Int)] w fun e w' => (∃ v, e = .returned v) ∧ Bdr w' B b (l ++ [x]) ∧ Bwr B b w w' := by
  refine (Any.Builder_WriteRune_k Tryz.laysWr Tryz.extraB B b (Lib.byteCells l) (x.toNat : Int) (by omega) (by omega) w h (by rw [Lib.byteCells_length]; exact hl) hB).mono ?_
  rintro e w' ⟨rfl, h1, h2, h3⟩
  refine ⟨⟨_, rfl⟩, ?_, h2, h3⟩
  have hr : Lib.runeCells (x.toNat : Int) = Lib.byteCells [x] := by
    rw [show Lib.runeCells (x.toNat : Int) = [.int .u8 (x.toNat : Int)] by simp [Lib.runeCells, Lib.encodeRuneZ_one (show (0 : Int) ≤ x.toNat by omega) (show (x.toNat : Int) ≤ 127 by omega)]]
    simp [Lib.byteCells]
  rw [hr] at h1
  unfold Bdr
  rw [Lib.byteCells_append]
  exact .inr h1
theorem bstr_any {w : World} {B b : Nat} {l : List UInt8} (h : Bdr w B b l) (hB : B ≤ w.heap.size) :
    Calls Tryz.prog 17 #[.pointer (some ⟨b, 0, none⟩)] w fun e w' => e = .returned (.string ⟨l.toArray⟩) ∧ Below B w w' := by
  refine (Any.Builder_String_any_f Tryz.laysSt Tryz.extraB B b l w h hB).mono ?_
  rintro e w' ⟨rfl, _, h2⟩
  exact ⟨rfl, h2⟩
theorem Bdr.new (w : World) : Bdr (w.alloc (.cells #[.pointer none, .slice none 0 0] 53)) w.heap.size w.heap.size [] := by
  refine .inl ⟨Nat.le_refl _, .slice none 0 0, alloc_new w _, ?_, fun e => by cases e⟩
  exact World.ownsRowF_of (World.ownsRow_nil _ _ _ _)

end YthdmbikmjimmkaaGreatDoor
end Go.Proofs
