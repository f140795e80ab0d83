/-
  Contracts of the library's shelf, laid at this dump.
-/
import Derived.Test.YtjhhldgbllbbhaaGreatDoorVBs
import Derived.Test.YtjhhldgbllbbhaaGreatDoorProg
import Derived.Shelf.Lay
import Derived.Shelf.Strings.Search2
import Derived.Shelf.Strings.Split
import Derived.Shelf.Strings.OnBuilder
import Derived.Shelf.Small.Wraps
import Derived.Shelf.Strconv.Itoa3
import Derived.Shelf.Strconv.Itoa4
import Derived.Shelf.Strconv.ParseIntPublic10
import Derived.Ground.NamesProg
namespace Go.Proofs
open Go.Shelf
shelf_lay Lays.n221 Nm 221 at Tryz as Tryz.laysGs
shelf_lay Lays.n143 Nm 143 at Tryz as Tryz.laysIn
shelf_lay Lays.n138 Nm 138 at Tryz as Tryz.laysCo
shelf_lay Lays.n156 Nm 156 at Tryz as Tryz.laysJn
shelf_lay LaysM.n171 Nm 171 at Tryz as Tryz.laysIt
shelf_lay LaysM.n173 Nm 173 at Tryz as Tryz.laysFi
shelf_lay LaysC.n174 Nm 174 at Tryz as Tryz.laysPi
theorem Tryz.builderExtra : Builder.Extra Tryz.prog Tryz.laysJn_ren where
  sizeBuilder := by kernel_rfl
  liesBuilder := by kernel_rfl
  t5 := Tryz.underlying5
  a5 := Tryz.isAgg5
  z5 := Tryz.sizeOf5
  v5 := Tryz.zeroValue5
  infoByte := by kernel_rfl
  cellsByte := by kernel_rfl
  sizeByte := by kernel_rfl
  neB5 := by decide
namespace YtjhhldgbllbbhaaGreatDoor
open Go.RowKit
theorem itoa_any (n : Int) (h0 : -9223372036854775808 ≤ n) (h1 : n ≤ 9223372036854775807) (w : World) (htab : Lib.TabIs Tryz.prog w "internal/strconv.uint64pow10" .u64 Lib.pow10Tab) : Calls Tryz.prog 31 #[.int .i64 n] w fun e w' => e = .returned (.string ⟨(Lib.itoa n).toArray⟩) ∧ ∃ k os, w' = Go.Sort.grow (w.drewN k) os := Any.strconv_Itoa Tryz.laysIt n h0 h1 w htab
theorem fmt_any (n : Int) (h0 : -9223372036854775808 ≤ n) (h1 : n ≤ 9223372036854775807) (w : World) (htab : Lib.TabIs Tryz.prog w "internal/strconv.uint64pow10" .u64 Lib.pow10Tab) : Calls Tryz.prog 32 #[.int .i64 n, .int .i64 10] w fun e w' => e = .returned (.string ⟨(Lib.itoa n).toArray⟩) ∧ ∃ k os, w' = Go.Sort.grow (w.drewN k) os := Any.strconv_FormatInt_10 Tryz.laysFi n h0 h1 w htab
theorem parse_ok (s : ByteArray) (hmax : s.size ≤ 9223372036854775806) (v : Int) (h : Lib.parseIntB 64 s.data.toList = .ok v) (w : World) : Calls Tryz.prog 56 #[.string s, .int .i64 10, .int .i64 64] w fun e w' => e = .returned (.tuple #[.int .i64 v, .nilIface]) ∧ (w' = w ∨ ∃ t, w' = Lib.bytesWorld w 5 t) := Any.strconv_ParseInt_10_at64_ok Tryz.laysPi s hmax v h w
theorem join_any (bk o c : Nat) (xs : List ByteArray) (sep : ByteArray) (w : World) (hcells : ∀ (j : Nat) x, xs[j]? = some x → w.cell? ⟨bk, o + j, none⟩ = some (.string x)) (hbk : bk < w.heap.size) (hN : xs.length ≤ 140737488355328) (hcap : xs.length ≤ c) (hlen : (Lib.join (xs.map (·.data.toList)) sep.data.toList).length ≤ 140737488355328) :
    Calls Tryz.prog 16 #[.slice (some ⟨bk, o, none⟩) xs.length c, .string sep] w fun e w' => e = .returned (.string ⟨(Lib.join (xs.map (·.data.toList)) sep.data.toList).toArray⟩) ∧ Below w.heap.size w w' := Any.strings_Join Tryz.laysJn Tryz.builderExtra bk o c xs sep w hcells hbk hN hcap hlen
def sp1 : ByteArray := ⟨#[32]⟩
theorem index_sp (s : ByteArray) (w : World) : Calls Tryz.prog 59 #[.string s, .string sp1] w fun e w' => e = .returned (.int .i64 (Lib.indexB s sp1)) ∧ w' = w := by
  refine (Any.strings_Index_one Tryz.laysIn s 32 w).mono fun e w' ⟨he, hw⟩ => ⟨?_, hw⟩
  rw [he]
  show _ = Ending.returned (Value.int .i64 (Lib.index s.data.toList [32]))
  rw [Lib.index_one]
theorem count_sp (s : ByteArray) (w : World) : Calls Tryz.prog 58 #[.string s, .string sp1] w fun e w' => e = .returned (.int .i64 (Lib.countB s sp1)) ∧ w' = w := by
  refine (Any.strings_Count_one Tryz.laysCo s 32 w).mono fun e w' ⟨he, hw⟩ => ⟨?_, hw⟩
  rw [he]
  show _ = Ending.returned (Value.int .i64 ((Lib.count s.data.toList [32] : Nat) : Int))
  rw [Lib.count_one]
  rfl
def toks (s : ByteArray) : List ByteArray := Lib.splitB sp1 0 (Lib.countB s sp1) s
theorem toks_len (s : ByteArray) : (toks s).length = Lib.countB s sp1 + 1 := Lib.splitB_all sp1 (by decide) 0 _ s rfl
set_option maxHeartbeats 1000000 in
theorem split_any (s : ByteArray) (w : World) (hs : s.size < 4294967281) : Calls Tryz.prog 18 #[.string s, .string sp1] w fun e w' => e = .returned (.slice (some ⟨w.heap.size, 0, none⟩) (toks s).length (toks s).length) ∧ w' = w.alloc (.cells ((toks s).map Value.string).toArray 9) := by
  have hle := Lib.countB_le sp1 (by decide) s.size s (Nat.le_refl _)
  have hlen := toks_len s
  have c := Any.strings_genSplit_core Tryz.laysGs (by kernel_rfl) s sp1 0 (-1) (Lib.countB s sp1 + 1) w hs (by decide) (Nat.zero_le _) (fun x c _ => index_sp x _) (count_sp s w) (by decide) (by decide) (by rw [if_pos (by decide)]; omega)
  rw [Nat.add_sub_cancel] at c
  have e2 : Lib.cellsOf (Lib.splitB sp1 0 (Lib.countB s sp1) s) (Lib.countB s sp1 + 1) = ((Lib.splitB sp1 0 (Lib.countB s sp1) s).map Value.string).toArray := by rw [← hlen]; exact Lib.cellsOf_full _
  rw [e2, ← hlen] at c
  have c2 : Calls Tryz.prog 38 #[.string s, .string sp1, .int .i64 0, .int .i64 (-1)] w fun e w' => e = .returned (.slice (some ⟨w.heap.size, 0, none⟩) (toks s).length (toks s).length) ∧ w' = w.alloc (.cells ((toks s).map Value.string).toArray 9) := c
  clear c e2 hlen hle
  generalize toks s = l at *
  generalize sp1 = sp at *
  go_enter Tryz.func18, Tryz.ntmps18
  go_wp2_with (go_at_call 38; refine c2.mono ?_; rintro e w' ⟨rfl, hw⟩; rw [hw])
  go_ret
  exact ⟨rfl, rfl⟩
end YtjhhldgbllbbhaaGreatDoor
end Go.Proofs
