/-
  plays: Set and Wait.
-/
import Derived.Test.YtofkacfchkimiaaPRegs
namespace Go.Proofs.Ytofkacfchkimiaa
open Go.RowKit Plain
set_option linter.unusedVariables false
set_option maxRecDepth 100000
section
variable {b g cap : Nat} {T : Tt}
set_option maxHeartbeats 4000000 in
theorem plays_12 {da : Option Addr} {dn dc : Nat} (w : World) (h : Tw w b g cap T) (hn : T.n ≤ 1048576) (p A B C D x y z : Int) :
    Calls Try.prog 29 #[.pointer (some ⟨b, 0, none⟩), .agg #[.int .i64 12, .int .i64 p, .int .i64 A, .int .i64 B, .int .i64 C, .int .i64 D, .int .i64 x, .int .i64 y, .int .i64 z, .slice da dn dc]] w (Does w b g cap T (T.cSet p (rgS x y z) A)) := by
  have k1 : Kept No w (w.alloc (.cells #[.int .i64 12, .int .i64 p, .int .i64 A, .int .i64 B, .int .i64 C, .int .i64 D, .int .i64 x, .int .i64 y, .int .i64 z, .slice da dn dc] 77)) := (Kept.refl No w).alloc _
  have ct : Hid (∀ W, Tw W b g cap T → Calls Try.prog 60 #[.pointer (some ⟨b, 0, none⟩), .int .i64 p, .agg (RgS x y z), .int .i64 A] W (Does W b g cap T (T.cSet p (rgS x y z) A))) := fun W t => set_does W t hn p (rgS x y z) A
  have rg : Hid (∀ W, Calls Try.prog 61 #[.agg #[.int .i64 x, .int .i64 y, .int .i64 z]] W fun e w' => e = .returned (.agg (RgS x y z)) ∧ Kept No W w') := fun W => regs_any W x y z
  have bx := cell_of_row (w.alloc (.cells #[.int .i64 12, .int .i64 p, .int .i64 A, .int .i64 B, .int .i64 C, .int .i64 D, .int .i64 x, .int .i64 y, .int .i64 z, .slice da dn dc] 77)) w.heap.size 2 _ _ _ (alloc_new w (.cells #[.int .i64 12, .int .i64 p, .int .i64 A, .int .i64 B, .int .i64 C, .int .i64 D, .int .i64 x, .int .i64 y, .int .i64 z, .slice da dn dc] 77))
  have by1 := cell_of_row (w.alloc (.cells #[.int .i64 12, .int .i64 p, .int .i64 A, .int .i64 B, .int .i64 C, .int .i64 D, .int .i64 x, .int .i64 y, .int .i64 z, .slice da dn dc] 77)) w.heap.size 1 _ _ _ (alloc_new w (.cells #[.int .i64 12, .int .i64 p, .int .i64 A, .int .i64 B, .int .i64 C, .int .i64 D, .int .i64 x, .int .i64 y, .int .i64 z, .slice da dn dc] 77))
  have HK : Hid (Kept No w (w.alloc (.cells #[.int .i64 12, .int .i64 p, .int .i64 A, .int .i64 B, .int .i64 C, .int .i64 D, .int .i64 x, .int .i64 y, .int .i64 z, .slice da dn dc] 77)) ∧ Tw (w.alloc (.cells #[.int .i64 12, .int .i64 p, .int .i64 A, .int .i64 B, .int .i64 C, .int .i64 D, .int .i64 x, .int .i64 y, .int .i64 z, .slice da dn dc] 77)) b g cap T) := ⟨k1, h.keep k1⟩
  clear h k1 hn
  generalize T.cSet p (rgS x y z) A = R at *
  go_enter Try.func29, Try.ntmps29
  go_upto_region 25 with fail
  go_region_with (first
    | (go_at_call 61; refine (rg.out _).mono ?_; rintro e w2 ⟨rfl, k2⟩; have q2 : Kept No (w.alloc (.cells #[.int .i64 12, .int .i64 p, .int .i64 A, .int .i64 B, .int .i64 C, .int .i64 D, .int .i64 x, .int .i64 y, .int .i64 z, .slice da dn dc] 77)) w2 := (by first | exact k2 | exact ((Kept.refl No (w.alloc (.cells #[.int .i64 12, .int .i64 p, .int .i64 A, .int .i64 B, .int .i64 C, .int .i64 D, .int .i64 x, .int .i64 y, .int .i64 z, .slice da dn dc] 77))).drew).trans k2 (fun _ e => e.elim)); have c2 := q2.cell bx (fun h => h); have c3 := q2.cell by1 (fun h => h); have H2 : Hid (Kept No w w2 ∧ Tw w2 b g cap T) := ⟨HK.out.1.trans q2 (fun _ e => e.elim), HK.out.2.keep q2⟩; clear k2 q2)
    | (go_at_call 60; refine (ct.out _ H2.out.2).mono ?_; rintro e w3 ⟨rfl, t3, k3⟩; have H3 : Hid (Tw w3 b g cap (R.getD T) ∧ Kept (Bg b g) w w3) := ⟨t3, (H2.out.1.mono (fun _ e => e.elim)).trans k3 (fun _ e => .inl e)⟩; clear t3 k3))
  all_goals (go_wp2; go_ret; exact ⟨rfl, H3.out⟩)
end
end Go.Proofs.Ytofkacfchkimiaa
