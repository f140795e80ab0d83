/-
  'play': KArm.
-/
import Derived.Test.YtdojmmnojpeklaaWPlay0
namespace Go.Proofs.Ytdojmmnojpeklaa
open Go.RowKit
set_option linter.unusedVariables false
set_option maxRecDepth 100000

set_option maxHeartbeats 8000000 in
theorem play_arm {W : World} {F : Nat → Prop} {b n m : Nat} {L : List Fi} {v : Value} (hW : Wh W F b n L) (hF : ∀ k, F k → k < W.heap.size) (hv : W.ownsRow 0 32 2 v m (fcL L)) (hvF : ∀ g, v.ownBlock = some g → ¬ F g) (s : Bool) (id tick : Int) (h6 : I6 id ∧ I6 tick) : Calls Try.prog 20 #[pv b n v, .agg #[.int .i64 1, .bool s, .int .i64 id, .int .i64 tick]] W (Pans W F v b) := by
  obtain ⟨hl, a, c, rfl, hc1, hc2, -⟩ := owns_fis hv
  have hfew : m ≤ 65536 := by have := (Wh.few' hW); omega
  have HS1 : Hid (Py W F (.slice a m c) b n L L (.slice a m c) [] [] (.slice none 0 0) (.slice none 0 0) (((W.alloc (.cells #[.pointer (some ⟨b, 0, none⟩), .int .i64 n, .slice a m c] 51)).alloc (.cells #[.int .i64 1, .bool s, .int .i64 id, .int .i64 tick] 54)).alloc (.cells #[.pointer none, .int .i64 0, .slice none 0 0] 51))) := py_new hW hF hv hvF _ _ _
  have HX1 : Hid (By (((W.alloc (.cells #[.pointer (some ⟨b, 0, none⟩), .int .i64 n, .slice a m c] 51)).alloc (.cells #[.int .i64 1, .bool s, .int .i64 id, .int .i64 tick] 54)).alloc (.cells #[.pointer none, .int .i64 0, .slice none 0 0] 51)) W.heap.size #[.pointer (some ⟨b, 0, none⟩), .int .i64 n, .slice a m c] #[.int .i64 1, .bool s, .int .i64 id, .int .i64 tick] #[.pointer none, .int .i64 0, .slice none 0 0]) := by_new _ _ _ _
  have HF : Hid (∀ k, F k → k < W.heap.size) := hF
  have HLM : Hid (L.length = m) := hl
  have H6 : Hid (I6 id ∧ I6 tick) := h6
  have HSZ : Hid ((((W.alloc (.cells #[.pointer (some ⟨b, 0, none⟩), .int .i64 n, .slice a m c] 51)).alloc (.cells #[.int .i64 1, .bool s, .int .i64 id, .int .i64 tick] 54)).alloc (.cells #[.pointer none, .int .i64 0, .slice none 0 0] 51)).heap.size = W.heap.size + 3) := (show _ = _ by simp)
  unfold pv
  clear hW hF hv hvF hl h6
  go_enter Try.func20, Try.ntmps20
  go_upto_region 1 with fail
  generalize ((W.alloc (.cells #[.pointer (some ⟨b, 0, none⟩), .int .i64 n, .slice a m c] 51)).alloc (.cells #[.int .i64 1, .bool s, .int .i64 id, .int .i64 tick] 54)).alloc (.cells #[.pointer none, .int .i64 0, .slice none 0 0] 51) = w1 at *
  have a0 := cell_of_row (k := 0) (v := .pointer (some ⟨b, 0, none⟩)) HX1.out.a rfl
  have o0 := cell_of_row (k := 0) (v := .int .i64 1) HX1.out.o rfl
  have o2 := cell_of_row (k := 2) (v := .int .i64 id) HX1.out.o rfl
  have o3 := cell_of_row (k := 3) (v := .int .i64 tick) HX1.out.o rfl
  obtain ⟨F1, hL1, hF1, hvF1⟩ := HS1.out.wh
  have HF1 : Hid (∀ j, F1 j → (F j ∨ W.heap.size + 3 ≤ j) ∧ j < w1.heap.size) := hF1
  have HVF1 : Hid (∀ g, ((Value.slice a m c).ownBlock = some g ∨ (Value.slice none 0 0).ownBlock = some g ∨ (Value.slice none 0 0).ownBlock = some g) → ¬ F1 g) := hvF1
  have HF1q : Hid (∀ j, F1 j → j < W.heap.size) := (fun j hj => by
    rcases (hF1 j hj).1 with e | e
    · exact HF.out j e
    · have := (hF1 j hj).2; have := HSZ.out; omega)
  have cP : Calls Try.prog 9 #[.pointer (some ⟨b, 0, none⟩), .int .i64 id, .int .i64 tick] w1 _ := arm_wh hL1 ⟨tick, id⟩
  obtain ⟨L2, hL2e⟩ : ∃ L2, armF n L ⟨tick, id⟩ = L2 := ⟨_, rfl⟩
  obtain ⟨er, here⟩ : ∃ er : Int, (if Ok n ⟨tick, id⟩ then 0 else 2) = er := ⟨_, rfl⟩
  have HEL : Hid (armF n L ⟨tick, id⟩ = L2 ∧ (if Ok n ⟨tick, id⟩ then 0 else 2) = er) := ⟨hL2e, here⟩
  rw [hL2e, here] at cP
  have her : er = 0 ∨ er = 2 := by rw [← here]; split <;> simp
  clear hL1 hF1 hvF1 hL2e here
  go_upto_region 5 with (go_at_call 9; refine cP.mono ?_; rintro ex w2 ⟨rfl, F2, hL2, hK2, hF2⟩)
  have HS2 : Hid (Py W F (.slice a m c) b n L2 L (.slice a m c) [] [] (.slice none 0 0) (.slice none 0 0) w2) := HS1.out.turn HF1.out HVF1.out (Nat.le_of_eq HSZ.out.symm) hL2 hK2 hF2 (World.ownsRow_nil _ _ _ _) (fun g e => by cases e)
  have HX2 : Hid (By w2 W.heap.size #[.pointer (some ⟨b, 0, none⟩), .int .i64 n, .slice a m c] #[.int .i64 1, .bool s, .int .i64 id, .int .i64 tick] #[.pointer none, .int .i64 0, .slice none 0 0]) := HX1.out.kept hK2 HF1q.out
  have HW2 : Hid (W.heap.size + 3 ≤ w2.heap.size) := (show _ ≤ _ by have := hK2.size; have := HSZ.out; omega)
  have cR : Calls Try.prog 29 #[mv n (.slice a m c), .int .i64 id, .int .i64 tick] w2 _ := rarm_any (N := n) ⟨tick, id⟩ HS2.out.row (by rw [HLM.out]; omega)
  rw [HEL.out.1, HEL.out.2] at cR
  unfold mv at cR
  clear hL2 hK2 hF2 a0 o0 o2 o3 cP
  have z1 := cell_of_row (k := 1) (v := .int .i64 n) HX2.out.a rfl
  have z2 := cell_of_row (k := 2) (v := .slice a m c) HX2.out.a rfl
  have o2 := cell_of_row (k := 2) (v := .int .i64 id) HX2.out.o rfl
  have o3 := cell_of_row (k := 3) (v := .int .i64 tick) HX2.out.o rfl
  go_upto_region 6 with (go_at_call 29; refine cR.mono ?_; rintro ex w3 ⟨u, rfl, own3, hfr3, hb3⟩; clear cR; obtain ⟨a3, n3, c3, hu3⟩ : ∃ a n c, u = .slice a n c := (by
      obtain ⟨_, a, c, e, _⟩ := owns_fis own3
      exact ⟨a, _, c, e⟩); subst hu3; have HX3 : Hid (By w3 W.heap.size #[.pointer (some ⟨b, 0, none⟩), .int .i64 n, .slice a m c] #[.int .i64 1, .bool s, .int .i64 id, .int .i64 tick] #[.pointer none, .int .i64 0, .slice none 0 0]) := HX2.out.below hb3; have y1 := cell_of_row (k := 1) (v := .int .i64 n) HX3.out.a rfl; have y2 := cell_of_row (k := 2) (v := .slice a m c) HX3.out.a rfl; have yf := fz_row HX3.out.a)
  have HS4 : Hid (Py W F (.slice a m c) b n L2 L2 (.slice a3 n3 c3) [] [] (.slice none 0 0) (.slice none 0 0) ((w3.setCell ⟨W.heap.size, 1, none⟩ (.int .i64 n)).setCell ⟨W.heap.size, 2, none⟩ (.slice a3 n3 c3))) := (HS2.out.fresh HF.out hb3 own3 hfr3 (World.ownsRow_nil _ _ _ _) (fun g e => by cases e) HW2.out).own HF.out (set12_keptF _ _ _) (fun j e => by omega)
  have HX4 : Hid (By ((w3.setCell ⟨W.heap.size, 1, none⟩ (.int .i64 n)).setCell ⟨W.heap.size, 2, none⟩ (.slice a3 n3 c3)) W.heap.size #[.pointer (some ⟨b, 0, none⟩), .int .i64 n, .slice a3 n3 c3] #[.int .i64 1, .bool s, .int .i64 id, .int .i64 tick] #[.pointer none, .int .i64 0, .slice none 0 0]) := HX3.out.set _ _
  clear hb3 own3 hfr3 z1 z2 o2 o3 y1 y2 yf
  generalize (w3.setCell ⟨W.heap.size, 1, none⟩ (.int .i64 n)).setCell ⟨W.heap.size, 2, none⟩ (.slice a3 n3 c3) = w4 at *
  have cX : Calls Try.prog 22 #[.agg #[.pointer (some ⟨b, 0, none⟩), .int .i64 n, .slice a3 n3 c3], .int .i64 id] w4.drew fun ex w' => ex = .returned (.bool true) ∧ Below w4.drew.heap.size w4.drew w' := (by
    have hb : Below w4.heap.size w4 w4.drew := ⟨rfl, rfl, rfl, Nat.le_refl _, fun _ _ => rfl⟩
    have h := HS4.out.below HF.out hb
    obtain ⟨F', h1, -⟩ := h.wh
    exact asked_any h1 h.row id H6.out.1)
  have HSD : Hid (∀ w5, Below w4.drew.heap.size w4.drew w5 → Py W F (.slice a m c) b n L2 L2 (.slice a3 n3 c3) [] [] (.slice none 0 0) (.slice none 0 0) w5 ∧ By w5 W.heap.size #[.pointer (some ⟨b, 0, none⟩), .int .i64 n, .slice a3 n3 c3] #[.int .i64 1, .bool s, .int .i64 id, .int .i64 tick] #[.pointer none, .int .i64 0, .slice none 0 0]) := (fun w5 hb5 => by
    have hb : Below w4.heap.size w4 w4.drew := ⟨rfl, rfl, rfl, Nat.le_refl _, fun _ _ => rfl⟩
    exact ⟨(HS4.out.below HF.out hb).below HF.out hb5, (HX4.out.below hb).below hb5⟩)
  have hb0 : Below w4.drew.heap.size w4.drew w4.drew := Below.refl _ _
  have z0 := cell_of_row (k := 0) (v := .pointer (some ⟨b, 0, none⟩)) (HSD.out _ hb0).2.a rfl
  have z1 := cell_of_row (k := 1) (v := .int .i64 n) (HSD.out _ hb0).2.a rfl
  have z2 := cell_of_row (k := 2) (v := .slice a3 n3 c3) (HSD.out _ hb0).2.a rfl
  have z3 := cell_of_row (k := 2) (v := .int .i64 id) (HSD.out _ hb0).2.o rfl
  clear hb0
  go_region_with (go_at_call 22; refine cX.mono ?_; rintro ex w5 ⟨rfl, hb5⟩; have HS5 : Hid (Py W F (.slice a m c) b n L2 L2 (.slice a3 n3 c3) [] [] (.slice none 0 0) (.slice none 0 0) w5) := (HSD.out w5 hb5).1; have HX5 : Hid (By w5 W.heap.size #[.pointer (some ⟨b, 0, none⟩), .int .i64 n, .slice a3 n3 c3] #[.int .i64 1, .bool s, .int .i64 id, .int .i64 tick] #[.pointer none, .int .i64 0, .slice none 0 0]) := (HSD.out w5 hb5).2; have x0 := cell_of_row (k := 0) (v := .pointer (some ⟨b, 0, none⟩)) HX5.out.a rfl; have x1 := cell_of_row (k := 1) (v := .int .i64 n) HX5.out.a rfl; have x2 := cell_of_row (k := 2) (v := .slice a3 n3 c3) HX5.out.a rfl; have p0 := cell_of_row (k := 0) (v := .pointer none) HX5.out.z rfl; have p1 := cell_of_row (k := 1) (v := .int .i64 0) HX5.out.z rfl; have p2 := cell_of_row (k := 2) (v := .slice none 0 0) HX5.out.z rfl; have pf := fz_row HX5.out.z)
  all_goals
    go_wp2
    have hld := ld51 (set3' HX5.out.z (.pointer (some ⟨b, 0, none⟩)) (.int .i64 n) (.slice a3 n3 c3))
    refine bodyPost_ret (v := .tuple #[.agg #[.pointer (some ⟨b, 0, none⟩), .int .i64 n, .slice a3 n3 c3], .slice none 0 0, .slice none 0 0, .bool true]) ?_ rfl ⟨n, L2, _, [], _, _, rfl, HS5.out.own HF.out (set3_keptF _ _ _ _) (fun j e => by omega), (fun y hy => by cases hy), Nat.zero_le _⟩
    rw [results_c4 rfl]
    simp only [Act.put, List.setIfInBounds_toArray]
    simp [asAddr, Result.andThen, hld]
end Go.Proofs.Ytdojmmnojpeklaa
