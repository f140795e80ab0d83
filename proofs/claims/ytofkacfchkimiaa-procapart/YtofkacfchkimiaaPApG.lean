/-
  Get, of any number.
-/
import Derived.Test.YtofkacfchkimiaaPDorm
namespace Go.Proofs.Ytofkacfchkimiaa
open Go.RowKit Plain
set_option linter.unusedVariables false
set_option maxRecDepth 100000

/-- nothing of a process -/
def Pr.zero : Pr := { st := 0, pri := 0, pl := 0, rg := fun _ => 0, pc := 0, rel := 0, dl := 0, un := 0, late := false, ob := 0, ad := 0, da := .slice none 0 0, ws := [], mis := 0, en := 0, pp := 0, per := 0, lim := 0 }
section
variable {b g cap : Nat} {T : Tt}
set_option maxHeartbeats 4000000 in
theorem get_no (w : World) (h : Tw w b g cap T) {p : Int} (hp : p < 1 ∨ (T.n : Int) < p) (hn : T.n ≤ 1048576) :
    Calls Try.prog 16 #[.pointer (some ⟨b, 0, none⟩), .int .i64 p] w fun e w' => e = .returned (.tuple #[.agg (Pr.zero.val (.slice none 0 0)), .bool false]) ∧ Kept No w w' := by
  have k1 : Kept No w (w.alloc (.cells Z28 48)) := (Kept.refl No w).alloc _
  have hB := alloc_new w (.cells Z28 48)
  have fi := find_no _ (h.keep k1) hp hn
  have ez : (w.alloc (.cells #[.int .i64 0, .int .i64 0, .int .i64 0, .int .i64 0, .int .i64 0, .int .i64 0, .int .i64 0, .int .i64 0, .int .i64 0, .int .i64 0, .int .i64 0, .int .i64 0, .int .i64 0, .int .i64 0, .int .i64 0, .int .i64 0, .int .i64 0, .int .i64 0, .int .i64 0, .int .i64 0, .int .i64 0, .int .i64 0, .int .i64 0, .bool false, .int .i64 0, .int .i64 0, .slice none 0 0, .int .i64 0] 48)) = w.alloc (.cells Z28 48) := rfl
  have hb : Hid (Try.prog.built 48 [] = some (Pr.zero.val (.slice none 0 0))) := by
    show Try.prog.built _ _ = _
    kernel_rfl
  clear h
  go_enter Try.func16, Try.ntmps16
  go_upto_region 1 with fail
  clear ez
  go_upto_region 3 with (go_at_call 34; refine fi.mono ?_; rintro e w2 ⟨rfl, e2⟩; subst e2; clear fi)
  refine wp_region_lit ?_
  refine list_build rfl 48 _ rfl [] (by kernel_rfl) _ hb.out ?_
  simp only [Act.put, List.setIfInBounds_toArray, List.set_cons_zero, List.set_cons_succ]
  refine wpList_store_row rfl 48 (.tmp 4) (.tmp 12) rfl w.heap.size (Pr.zero.val (.slice none 0 0)) rfl rfl _ Z28 hB Try.info48 rfl (val_one _) ?_
  simp only [Act.put]
  have hr := setRow_heap _ w.heap.size Z28 (Pr.zero.val (.slice none 0 0)) 48 (0, 0) hB
  have k5 : Kept No w ((w.alloc (.cells Z28 48)).setRow w.heap.size (Pr.zero.val (.slice none 0 0))) := k1.setRow (.inr (Nat.le_refl _)) _
  have HZ : Hid (((w.alloc (.cells Z28 48)).setRow w.heap.size (Pr.zero.val (.slice none 0 0))).heap[w.heap.size]? = some (.cells (Pr.zero.val (.slice none 0 0)) 48) ∧ Kept No w ((w.alloc (.cells Z28 48)).setRow w.heap.size (Pr.zero.val (.slice none 0 0)))) := ⟨hr, k5⟩
  clear hr k5 hB k1 hb
  generalize ((w.alloc (.cells Z28 48)).setRow w.heap.size (Pr.zero.val (.slice none 0 0))) = w4 at *
  go_wp2
  refine bodyPost_ret (results_ct rfl _ _ w.heap.size (.agg (Pr.zero.val (.slice none 0 0))) rfl (run_loadVar_row (P := Try.prog) _ w.heap.size 48 48 _ (0, 0) _ HZ.out.1 Try.underlying48 rfl Try.info48)) rfl ?_
  exact ⟨rfl, HZ.out.2⟩
theorem get_any (w : World) (h : Tw w b g cap T) (hn : T.n ≤ 1048576) (hm : ∀ i, i < T.n → (T.ps i).ws.length ≤ 1048576) (p : Int) :
    Calls Try.prog 16 #[.pointer (some ⟨b, 0, none⟩), .int .i64 p] w fun e w' => ∃ (X : Pr) (ya : Option Addr) (m yc : Nat) (xs : List Value) (ok : Bool), e = .returned (.tuple #[.agg (X.val (.slice ya m yc)), .bool ok]) ∧ w'.ownsRow w.heap.size 2 1 (.slice ya m yc) m xs ∧ Kept No w w' := by
  by_cases hp : p < 1 ∨ (T.n : Int) < p
  · refine (get_no w h hp hn).mono ?_
    rintro e w' ⟨rfl, k⟩
    exact ⟨Pr.zero, none, 0, 0, [], false, rfl, World.ownsRow_nil _ _ _ _, k⟩
  · obtain ⟨i, hi, rfl⟩ : ∃ i : Nat, i < T.n ∧ p = (i : Int) + 1 := ⟨(p - 1).toNat, by omega, by omega⟩
    refine (get_yes w h hi hn (hm i hi)).mono ?_
    rintro e w' ⟨ya, yc, rfl, o, k⟩
    exact ⟨T.ps i, ya, _, yc, _, true, rfl, o, k⟩
end
end Go.Proofs.Ytofkacfchkimiaa
