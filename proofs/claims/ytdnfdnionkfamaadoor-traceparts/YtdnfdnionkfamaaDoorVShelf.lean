/-
  Contracts of the library's shelf, laid at this dump.
-/
import Derived.Test.YtdnfdnionkfamaaDoorVDif
import Derived.Test.YtdnfdnionkfamaaDoorProg
import Derived.Shelf.Lay
import Derived.Shelf.Strings.Search2
import Derived.Shelf.Strings.Split
import Derived.Shelf.Strings.OnBuilder
import Derived.Shelf.Small.Wraps
import Derived.Shelf.Strconv.Itoa3
import Derived.Shelf.Strconv.Itoa4
import Derived.Shelf.Strconv.ParseIntPublic10
import Derived.Ground.NamesProg
namespace Go.Proofs
open Go.Shelf
shelf_lay Lays.n221 Nm 221 at Tryd as Tryd.laysGs
shelf_lay Lays.n143 Nm 143 at Tryd as Tryd.laysIn
shelf_lay Lays.n138 Nm 138 at Tryd as Tryd.laysCo
shelf_lay Lays.n156 Nm 156 at Tryd as Tryd.laysJn
shelf_lay LaysM.n171 Nm 171 at Tryd as Tryd.laysIt
shelf_lay LaysM.n173 Nm 173 at Tryd as Tryd.laysFi
shelf_lay LaysC.n174 Nm 174 at Tryd as Tryd.laysPi
theorem Tryd.builderExtra : Builder.Extra Tryd.prog Tryd.laysJn_ren where
  sizeBuilder := by kernel_rfl
  liesBuilder := by kernel_rfl
  t5 := Tryd.underlying5
  a5 := Tryd.isAgg5
  z5 := Tryd.sizeOf5
  v5 := Tryd.zeroValue5
  infoByte := by kernel_rfl
  cellsByte := by kernel_rfl
  sizeByte := by kernel_rfl
  neB5 := by decide
namespace YtdnfdnionkfamaaDoor
open Go.RowKit
theorem itoa_any (n : Int) (h0 : -9223372036854775808 ≤ n) (h1 : n ≤ 9223372036854775807) (w : World) (htab : Lib.TabIs Tryd.prog w "internal/strconv.uint64pow10" .u64 Lib.pow10Tab) : Calls Tryd.prog 21 #[.int .i64 n] w fun e w' => e = .returned (.string ⟨(Lib.itoa n).toArray⟩) ∧ ∃ k os, w' = Go.Sort.grow (w.drewN k) os := Any.strconv_Itoa Tryd.laysIt n h0 h1 w htab
theorem fmt_any (n : Int) (h0 : -9223372036854775808 ≤ n) (h1 : n ≤ 9223372036854775807) (w : World) (htab : Lib.TabIs Tryd.prog w "internal/strconv.uint64pow10" .u64 Lib.pow10Tab) : Calls Tryd.prog 22 #[.int .i64 n, .int .i64 10] w fun e w' => e = .returned (.string ⟨(Lib.itoa n).toArray⟩) ∧ ∃ k os, w' = Go.Sort.grow (w.drewN k) os := Any.strconv_FormatInt_10 Tryd.laysFi n h0 h1 w htab
theorem parse_ok (s : ByteArray) (hmax : s.size ≤ 9223372036854775806) (v : Int) (h : Lib.parseIntB 64 s.data.toList = .ok v) (w : World) : Calls Tryd.prog 33 #[.string s, .int .i64 10, .int .i64 64] w fun e w' => e = .returned (.tuple #[.int .i64 v, .nilIface]) ∧ (w' = w ∨ ∃ t, w' = Lib.bytesWorld w 5 t) := Any.strconv_ParseInt_10_at64_ok Tryd.laysPi s hmax v h w
theorem join_any (bk o c : Nat) (xs : List ByteArray) (sep : ByteArray) (w : World) (hcells : ∀ (j : Nat) x, xs[j]? = some x → w.cell? ⟨bk, o + j, none⟩ = some (.string x)) (hbk : bk < w.heap.size) (hN : xs.length ≤ 140737488355328) (hcap : xs.length ≤ c) (hlen : (Lib.join (xs.map (·.data.toList)) sep.data.toList).length ≤ 140737488355328) :
    Calls Tryd.prog 17 #[.slice (some ⟨bk, o, none⟩) xs.length c, .string sep] w fun e w' => e = .returned (.string ⟨(Lib.join (xs.map (·.data.toList)) sep.data.toList).toArray⟩) ∧ Below w.heap.size w w' := Any.strings_Join Tryd.laysJn Tryd.builderExtra bk o c xs sep w hcells hbk hN hcap hlen
def sp1 : ByteArray := ⟨#[32]⟩
theorem index_sp (s : ByteArray) (w : World) : Calls Tryd.prog 36 #[.string s, .string sp1] w fun e w' => e = .returned (.int .i64 (Lib.indexB s sp1)) ∧ w' = w := by
  refine (Any.strings_Index_one Tryd.laysIn s 32 w).mono fun e w' ⟨he, hw⟩ => ⟨?_, hw⟩
  rw [he]
  show _ = Ending.returned (Value.int .i64 (Lib.index s.data.toList [32]))
  rw [Lib.index_one]
theorem count_sp (s : ByteArray) (w : World) : Calls Tryd.prog 35 #[.string s, .string sp1] w fun e w' => e = .returned (.int .i64 (Lib.countB s sp1)) ∧ w' = w := by
  refine (Any.strings_Count_one Tryd.laysCo s 32 w).mono fun e w' ⟨he, hw⟩ => ⟨?_, hw⟩
  rw [he]
  show _ = Ending.returned (Value.int .i64 ((Lib.count s.data.toList [32] : Nat) : Int))
  rw [Lib.count_one]
  rfl
def toks (s : ByteArray) : List ByteArray := Lib.splitB sp1 0 (Lib.countB s sp1) s
theorem toks_len (s : ByteArray) : (toks s).length = Lib.countB s sp1 + 1 := Lib.splitB_all sp1 (by decide) 0 _ s rfl
set_option maxHeartbeats 1000000 in
theorem split_any (s : ByteArray) (w : World) (hs : s.size < 4294967281) : Calls Tryd.prog 19 #[.string s, .string sp1] w fun e w' => e = .returned (.slice (some ⟨w.heap.size, 0, none⟩) (toks s).length (toks s).length) ∧ w' = w.alloc (.cells ((toks s).map Value.string).toArray 9) := by
  have hle := Lib.countB_le sp1 (by decide) s.size s (Nat.le_refl _)
  have hlen := toks_len s
  have c := Any.strings_genSplit_core Tryd.laysGs (by kernel_rfl) s sp1 0 (-1) (Lib.countB s sp1 + 1) w hs (by decide) (Nat.zero_le _) (fun x c _ => index_sp x _) (count_sp s w) (by decide) (by decide) (by rw [if_pos (by decide)]; omega)
  rw [Nat.add_sub_cancel] at c
  have e2 : Lib.cellsOf (Lib.splitB sp1 0 (Lib.countB s sp1) s) (Lib.countB s sp1 + 1) = ((Lib.splitB sp1 0 (Lib.countB s sp1) s).map Value.string).toArray := by rw [← hlen]; exact Lib.cellsOf_full _
  rw [e2, ← hlen] at c
  have c2 : Calls Tryd.prog 28 #[.string s, .string sp1, .int .i64 0, .int .i64 (-1)] w fun e w' => e = .returned (.slice (some ⟨w.heap.size, 0, none⟩) (toks s).length (toks s).length) ∧ w' = w.alloc (.cells ((toks s).map Value.string).toArray 9) := c
  clear c e2 hlen hle
  generalize toks s = l at *
  generalize sp1 = sp at *
  go_enter Tryd.func19, Tryd.ntmps19
  go_wp2_with (go_at_call 28; refine c2.mono ?_; rintro e w' ⟨rfl, hw⟩; rw [hw])
  go_ret
  exact ⟨rfl, rfl⟩
end YtdnfdnionkfamaaDoor
end Go.Proofs
