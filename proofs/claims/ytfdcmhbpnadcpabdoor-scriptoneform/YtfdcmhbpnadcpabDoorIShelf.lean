/-
  Contracts of the library's shelf, laid at this dump.
-/
import Derived.Test.YtfdcmhbpnadcpabDoorProg
import Derived.Shelf.Lay
import Derived.Shelf.Strings.Search2
import Derived.Shelf.Strings.Prefix
import Derived.Shelf.Small.Wraps
import Derived.Shelf.Strconv.Itoa3
import Derived.Shelf.Strconv.Itoa4
import Derived.Ground.NamesProg
namespace Go.Proofs
open Go.Shelf
shelf_lay Lays.n219 Nm 219 at Tryd as Tryd.laysIx
shelf_lay Lays.n99 Nm 99 at Tryd as Tryd.laysHp
shelf_lay Lays.n103 Nm 103 at Tryd as Tryd.laysCp
shelf_lay Lays.n171 Nm 171 at Tryd as Tryd.laysIt
shelf_lay Lays.n173 Nm 173 at Tryd as Tryd.laysFs
shelf_lay LaysM.n173 Nm 173 at Tryd as Tryd.laysFi
namespace YtfdcmhbpnadcpabDoor
open Go.RowKit
theorem ix_one (s : ByteArray) (c : UInt8) (w : World) : Calls Tryd.prog 61 #[.string s, .string ⟨#[c]⟩] w fun e w' => e = .returned (.int .i64 (Lib.indexByte s.data.toList c)) ∧ w' = w := Any.stringslite_Index_one Tryd.laysIx s c w
theorem has_prefix (s p : ByteArray) (w : World) : Calls Tryd.prog 33 #[.string s, .string p] w fun e w' => e = .returned (.bool (Lib.hasPrefix s.data.toList p.data.toList)) ∧ w' = w := Any.strings_HasPrefix Tryd.laysHp s p w
theorem cut_prefix (s p : ByteArray) (w : World) : Calls Tryd.prog 72 #[.string s, .string p] w fun e w' => e = .returned (.tuple #[.string ⟨(Lib.trimPrefix s.data.toList p.data.toList).toArray⟩, .bool (Lib.hasPrefix s.data.toList p.data.toList)]) ∧ w' = w := Any.strings_CutPrefix Tryd.laysCp s p w
theorem itoa_small (i : Nat) (hi : i < 100) (w : World) : Calls Tryd.prog 48 #[.int .i64 i] w fun e w' => e = .returned (.string ⟨(Lib.decDigits i).toArray⟩) ∧ w' = w := Any.strconv_Itoa_small Tryd.laysIt i hi w
theorem fmt_small (i : Nat) (hi : i < 100) (w : World) : Calls Tryd.prog 49 #[.int .i64 i, .int .i64 10] w fun e w' => e = .returned (.string ⟨(Lib.decDigits i).toArray⟩) ∧ w' = w := Any.strconv_FormatInt_10_small Tryd.laysFs i hi w
theorem fmt_any (n : Int) (h0 : -9223372036854775808 ≤ n) (h1 : n ≤ 9223372036854775807) (w : World) (htab : Lib.TabIs Tryd.prog w "internal/strconv.uint64pow10" .u64 Lib.pow10Tab) : Calls Tryd.prog 49 #[.int .i64 n, .int .i64 10] w fun e w' => e = .returned (.string ⟨(Lib.itoa n).toArray⟩) ∧ ∃ k os, w' = Go.Sort.grow (w.drewN k) os := Any.strconv_FormatInt_10 Tryd.laysFi n h0 h1 w htab
end YtfdcmhbpnadcpabDoor
end Go.Proofs
