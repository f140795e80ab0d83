/-
  'play': any other kind.
-/
import Derived.Test.YtdojmmnojpeklaaWPlay0
namespace Go.Proofs.Ytdojmmnojpeklaa
open Go.RowKit
set_option linter.unusedVariables false
set_option maxRecDepth 100000

set_option maxHeartbeats 8000000 in
theorem play_else {W : World} {F : Nat → Prop} {b n m : Nat} {L : List Fi} {v : Value} (hW : Wh W F b n L) (hF : ∀ k, F k → k < W.heap.size) (hv : W.ownsRow 0 32 2 v m (fcL L)) (hvF : ∀ g, v.ownBlock = some g → ¬ F g) (s : Bool) (kd : Int) (hk1 : kd ≠ 1) (hk2 : kd ≠ 2) (hk4 : kd ≠ 4) (hk5 : kd ≠ 5) (id tick : Int) (h6 : I6 id ∧ I6 tick) : Calls Try.prog 20 #[pv b n v, .agg #[.int .i64 kd, .bool s, .int .i64 id, .int .i64 tick]] W (Pans W F v b) := by
  obtain ⟨hl, a, c, rfl, hc1, hc2, -⟩ := owns_fis hv
  have hfew : m ≤ 65536 := by have := (Wh.few' hW); omega
  have HS1 : Hid (Py W F (.slice a m c) b n L L (.slice a m c) [] [] (.slice none 0 0) (.slice none 0 0) (((W.alloc (.cells #[.pointer (some ⟨b, 0, none⟩), .int .i64 n, .slice a m c] 51)).alloc (.cells #[.int .i64 kd, .bool s, .int .i64 id, .int .i64 tick] 54)).alloc (.cells #[.pointer none, .int .i64 0, .slice none 0 0] 51))) := py_new hW hF hv hvF _ _ _
  have HX1 : Hid (By (((W.alloc (.cells #[.pointer (some ⟨b, 0, none⟩), .int .i64 n, .slice a m c] 51)).alloc (.cells #[.int .i64 kd, .bool s, .int .i64 id, .int .i64 tick] 54)).alloc (.cells #[.pointer none, .int .i64 0, .slice none 0 0] 51)) W.heap.size #[.pointer (some ⟨b, 0, none⟩), .int .i64 n, .slice a m c] #[.int .i64 kd, .bool s, .int .i64 id, .int .i64 tick] #[.pointer none, .int .i64 0, .slice none 0 0]) := by_new _ _ _ _
  have HF : Hid (∀ k, F k → k < W.heap.size) := hF
  have HLM : Hid (L.length = m) := hl
  have H6 : Hid (I6 id ∧ I6 tick) := h6
  have HSZ : Hid ((((W.alloc (.cells #[.pointer (some ⟨b, 0, none⟩), .int .i64 n, .slice a m c] 51)).alloc (.cells #[.int .i64 kd, .bool s, .int .i64 id, .int .i64 tick] 54)).alloc (.cells #[.pointer none, .int .i64 0, .slice none 0 0] 51)).heap.size = W.heap.size + 3) := (show _ = _ by simp)
  unfold pv
  clear hW hF hv hvF hl h6
  go_enter Try.func20, Try.ntmps20
  go_upto_region 1 with fail
  generalize ((W.alloc (.cells #[.pointer (some ⟨b, 0, none⟩), .int .i64 n, .slice a m c] 51)).alloc (.cells #[.int .i64 kd, .bool s, .int .i64 id, .int .i64 tick] 54)).alloc (.cells #[.pointer none, .int .i64 0, .slice none 0 0] 51) = w1 at *
  have o0 := cell_of_row (k := 0) (v := .int .i64 kd) HX1.out.o rfl
  go_upto_region 21 with fail
  clear o0
  have cX : Calls Try.prog 22 #[.agg #[.pointer (some ⟨b, 0, none⟩), .int .i64 n, .slice a m c], .int .i64 id] w1.drew fun ex w' => ex = .returned (.bool true) ∧ Below w1.drew.heap.size w1.drew w' := (by
    have hb : Below w1.heap.size w1 w1.drew := ⟨rfl, rfl, rfl, Nat.le_refl _, fun _ _ => rfl⟩
    have h := HS1.out.below HF.out hb
    obtain ⟨F', h1, -⟩ := h.wh
    exact asked_any h1 h.row id H6.out.1)
  have HSD : Hid (∀ w5, Below w1.drew.heap.size w1.drew w5 → Py W F (.slice a m c) b n L L (.slice a m c) [] [] (.slice none 0 0) (.slice none 0 0) w5 ∧ By w5 W.heap.size #[.pointer (some ⟨b, 0, none⟩), .int .i64 n, .slice a m c] #[.int .i64 kd, .bool s, .int .i64 id, .int .i64 tick] #[.pointer none, .int .i64 0, .slice none 0 0]) := (fun w5 hb5 => by
    have hb : Below w1.heap.size w1 w1.drew := ⟨rfl, rfl, rfl, Nat.le_refl _, fun _ _ => rfl⟩
    exact ⟨(HS1.out.below HF.out hb).below HF.out hb5, (HX1.out.below hb).below hb5⟩)
  have hb0 : Below w1.drew.heap.size w1.drew w1.drew := Below.refl _ _
  have z0 := cell_of_row (k := 0) (v := .pointer (some ⟨b, 0, none⟩)) (HSD.out _ hb0).2.a rfl
  have z1 := cell_of_row (k := 1) (v := .int .i64 n) (HSD.out _ hb0).2.a rfl
  have z2 := cell_of_row (k := 2) (v := .slice a m c) (HSD.out _ hb0).2.a rfl
  have z3 := cell_of_row (k := 2) (v := .int .i64 id) (HSD.out _ hb0).2.o rfl
  clear hb0
  go_region_with (go_at_call 22; refine cX.mono ?_; rintro ex w5 ⟨rfl, hb5⟩; have HS5 : Hid (Py W F (.slice a m c) b n L L (.slice a m c) [] [] (.slice none 0 0) (.slice none 0 0) w5) := (HSD.out w5 hb5).1; have HX5 : Hid (By w5 W.heap.size #[.pointer (some ⟨b, 0, none⟩), .int .i64 n, .slice a m c] #[.int .i64 kd, .bool s, .int .i64 id, .int .i64 tick] #[.pointer none, .int .i64 0, .slice none 0 0]) := (HSD.out w5 hb5).2; have x0 := cell_of_row (k := 0) (v := .pointer (some ⟨b, 0, none⟩)) HX5.out.a rfl; have x1 := cell_of_row (k := 1) (v := .int .i64 n) HX5.out.a rfl; have x2 := cell_of_row (k := 2) (v := .slice a m c) HX5.out.a rfl; have p0 := cell_of_row (k := 0) (v := .pointer none) HX5.out.z rfl; have p1 := cell_of_row (k := 1) (v := .int .i64 0) HX5.out.z rfl; have p2 := cell_of_row (k := 2) (v := .slice none 0 0) HX5.out.z rfl; have pf := fz_row HX5.out.z)
  all_goals
    go_wp2
    have hld := ld51 (set3' HX5.out.z (.pointer (some ⟨b, 0, none⟩)) (.int .i64 n) (.slice a m c))
    refine bodyPost_ret (v := .tuple #[.agg #[.pointer (some ⟨b, 0, none⟩), .int .i64 n, .slice a m c], .slice none 0 0, .slice none 0 0, .bool true]) ?_ rfl ⟨n, L, _, [], _, _, rfl, HS5.out.own HF.out (set3_keptF _ _ _ _) (fun j e => by omega), (fun y hy => by cases hy), Nat.zero_le _⟩
    rw [results_c4 rfl]
    simp only [Act.put, List.setIfInBounds_toArray]
    simp [asAddr, Result.andThen, hld]
end Go.Proofs.Ytdojmmnojpeklaa
