/-
  'play': KStep.
-/
import Derived.Test.YtdojmmnojpeklaaWPlay4
namespace Go.Proofs.Ytdojmmnojpeklaa
open Go.RowKit
set_option linter.unusedVariables false
set_option maxRecDepth 100000

set_option maxHeartbeats 8000000 in
theorem play_step {W : World} {F : Nat → Prop} {b n m : Nat} {L : List Fi} {v : Value} (hW : Wh W F b n L) (hF : ∀ k, F k → k < W.heap.size) (hv : W.ownsRow 0 32 2 v m (fcL L)) (hvF : ∀ g, v.ownBlock = some g → ¬ F g) (s : Bool) (id tick : Int) (h6 : I6 id ∧ I6 tick) : Calls Try.prog 20 #[pv b n v, .agg #[.int .i64 5, .bool s, .int .i64 id, .int .i64 tick]] W (Pans W F v b) := by
  obtain ⟨hl, a, c, rfl, hc1, hc2, -⟩ := owns_fis hv
  have hfew : m ≤ 65536 := by have := (Wh.few' hW); omega
  have HS1 : Hid (Py W F (.slice a m c) b n L L (.slice a m c) [] [] (.slice none 0 0) (.slice none 0 0) (((W.alloc (.cells #[.pointer (some ⟨b, 0, none⟩), .int .i64 n, .slice a m c] 51)).alloc (.cells #[.int .i64 5, .bool s, .int .i64 id, .int .i64 tick] 54)).alloc (.cells #[.pointer none, .int .i64 0, .slice none 0 0] 51))) := py_new hW hF hv hvF _ _ _
  have HX1 : Hid (By (((W.alloc (.cells #[.pointer (some ⟨b, 0, none⟩), .int .i64 n, .slice a m c] 51)).alloc (.cells #[.int .i64 5, .bool s, .int .i64 id, .int .i64 tick] 54)).alloc (.cells #[.pointer none, .int .i64 0, .slice none 0 0] 51)) W.heap.size #[.pointer (some ⟨b, 0, none⟩), .int .i64 n, .slice a m c] #[.int .i64 5, .bool s, .int .i64 id, .int .i64 tick] #[.pointer none, .int .i64 0, .slice none 0 0]) := by_new _ _ _ _
  have HF : Hid (∀ k, F k → k < W.heap.size) := hF
  have HLM : Hid (L.length = m) := hl
  have H6 : Hid (I6 id ∧ I6 tick) := h6
  have HSZ : Hid ((((W.alloc (.cells #[.pointer (some ⟨b, 0, none⟩), .int .i64 n, .slice a m c] 51)).alloc (.cells #[.int .i64 5, .bool s, .int .i64 id, .int .i64 tick] 54)).alloc (.cells #[.pointer none, .int .i64 0, .slice none 0 0] 51)).heap.size = W.heap.size + 3) := (show _ = _ by simp)
  unfold pv
  clear hW hF hv hvF hl h6
  go_enter Try.func20, Try.ntmps20
  go_upto_region 1 with fail
  generalize ((W.alloc (.cells #[.pointer (some ⟨b, 0, none⟩), .int .i64 n, .slice a m c] 51)).alloc (.cells #[.int .i64 5, .bool s, .int .i64 id, .int .i64 tick] 54)).alloc (.cells #[.pointer none, .int .i64 0, .slice none 0 0] 51) = w1 at *
  have a0 := cell_of_row (k := 0) (v := .pointer (some ⟨b, 0, none⟩)) HX1.out.a rfl
  have o0 := cell_of_row (k := 0) (v := .int .i64 5) HX1.out.o rfl
  have o2 := cell_of_row (k := 2) (v := .int .i64 id) HX1.out.o rfl
  have o3 := cell_of_row (k := 3) (v := .int .i64 tick) HX1.out.o rfl
  obtain ⟨F1, hL1, hF1, hvF1⟩ := HS1.out.wh
  have HF1 : Hid (∀ j, F1 j → (F j ∨ W.heap.size + 3 ≤ j) ∧ j < w1.heap.size) := hF1
  have HVF1 : Hid (∀ g, ((Value.slice a m c).ownBlock = some g ∨ (Value.slice none 0 0).ownBlock = some g ∨ (Value.slice none 0 0).ownBlock = some g) → ¬ F1 g) := hvF1
  have HF1q : Hid (∀ j, F1 j → j < W.heap.size) := (fun j hj => by
    rcases (hF1 j hj).1 with e | e
    · exact HF.out j e
    · have := (hF1 j hj).2; have := HSZ.out; omega)
  have a1 := cell_of_row (k := 1) (v := .int .i64 n) HX1.out.a rfl
  go_upto_region 17 with fail
  generalize wrap64 ((n : Int) + tick) = x
  obtain ⟨er, n2, T2, L2, hav⟩ := av_any n L x
  have her := hav.err
  have HAV : Hid (Av n L x er n2 T2 L2) := hav
  have cP := hav.wheel w1 F1 b hL1
  have HI6 : Hid (∀ y, y ∈ T2 → I6 y.t ∧ I6 y.i) := (fun y hy => by have := Wh.ok hL1 y (hav.tl y hy); unfold Ok at this; have := hL1.1; unfold I6; omega)
  have HTL : Hid (T2.length ≤ 65536) := (show _ ≤ _ by have := hav.len; have := Wh.few' hL1; omega)
  clear hL1 hF1 hvF1 hav
  go_upto_region 18 with (go_at_call 12; refine cP.mono ?_; rintro ex w2 ⟨l, F2, rfl, hL2, hK2, hF2, hrl, hlF⟩; obtain ⟨al, nl, cl, hul⟩ : ∃ a n c, l = .slice a n c := (by
      obtain ⟨_, a, c, e, _⟩ := owns_fis hrl
      exact ⟨a, _, c, e⟩); subst hul)
  have HS2 : Hid (Py W F (.slice a m c) b n2 L2 L (.slice a m c) T2 [] (.slice al nl cl) (.slice none 0 0) w2) := HS1.out.turn HF1.out HVF1.out (Nat.le_of_eq HSZ.out.symm) hL2 hK2 hF2 hrl hlF
  have HX2 : Hid (By w2 W.heap.size #[.pointer (some ⟨b, 0, none⟩), .int .i64 n, .slice a m c] #[.int .i64 5, .bool s, .int .i64 id, .int .i64 tick] #[.pointer none, .int .i64 0, .slice none 0 0]) := HX1.out.kept hK2 HF1q.out
  have HW2 : Hid (W.heap.size + 3 ≤ w2.heap.size) := (show _ ≤ _ by have := hK2.size; have := HSZ.out; omega)
  have cR := HAV.out.doc w2 _ _ HS2.out.row (by rw [HLM.out]; omega)
  unfold mv at cR
  clear hL2 hK2 hF2 a0 a1 o0 o2 o3 cP hrl hlF
  have z1 := cell_of_row (k := 1) (v := .int .i64 n) HX2.out.a rfl
  have z2 := cell_of_row (k := 2) (v := .slice a m c) HX2.out.a rfl
  go_upto_region 19 with (go_at_call 31; refine cR.mono ?_; rintro ex w3 ⟨u, o, rfl, hro, own3, hfr3, hou, hb3⟩; clear cR; obtain ⟨a3, n3, c3, hu3⟩ : ∃ a n c, u = .slice a n c := (by
      obtain ⟨_, a, c, e, _⟩ := owns_fis own3
      exact ⟨a, _, c, e⟩); subst hu3; obtain ⟨ak, nk, ck, huk⟩ : ∃ a n c, o = .slice a n c := (by
      obtain ⟨_, a, c, e, _⟩ := owns_fis hro
      exact ⟨a, _, c, e⟩); subst huk)
  have HS3 : Hid (Py W F (.slice a m c) b n2 L2 L2 (.slice a3 n3 c3) T2 T2 (.slice al nl cl) (.slice ak nk ck) (w3.alloc (.cells #[.int .i64 n2, .slice a3 n3 c3] 47))) := (HS2.out.fresh HF.out hb3 own3 hfr3 hro hou HW2.out).below HF.out ((Below.refl _ w3).alloc (Nat.le_refl _) _)
  have HX3 : Hid (By (w3.alloc (.cells #[.int .i64 n2, .slice a3 n3 c3] 47)) W.heap.size #[.pointer (some ⟨b, 0, none⟩), .int .i64 n, .slice a m c] #[.int .i64 5, .bool s, .int .i64 id, .int .i64 tick] #[.pointer none, .int .i64 0, .slice none 0 0]) := (HX2.out.below hb3).below ((Below.refl _ w3).alloc (Nat.le_refl _) _)
  have y := heap_last w3 (.cells #[.int .i64 n2, .slice a3 n3 c3] 47)
  have yy0 := cell_of_row (k := 0) (v := .int .i64 n2) y rfl
  have yy1 := cell_of_row (k := 1) (v := .slice a3 n3 c3) y rfl
  clear y hb3 own3 hfr3 z1 z2 hro hou
  generalize w3.alloc (.cells #[.int .i64 n2, .slice a3 n3 c3] 47) = w3' at *
  have y1 := cell_of_row (k := 1) (v := .int .i64 n) HX3.out.a rfl
  have y2 := cell_of_row (k := 2) (v := .slice a m c) HX3.out.a rfl
  have yf := fz_row HX3.out.a
  go_upto_region 20 with fail
  have HS4 : Hid (Py W F (.slice a m c) b n2 L2 L2 (.slice a3 n3 c3) T2 T2 (.slice al nl cl) (.slice ak nk ck) ((w3'.setCell ⟨W.heap.size, 1, none⟩ (.int .i64 n2)).setCell ⟨W.heap.size, 2, none⟩ (.slice a3 n3 c3))) := HS3.out.own HF.out (set12_keptF _ _ _) (fun j e => by omega)
  have HX4 : Hid (By ((w3'.setCell ⟨W.heap.size, 1, none⟩ (.int .i64 n2)).setCell ⟨W.heap.size, 2, none⟩ (.slice a3 n3 c3)) W.heap.size #[.pointer (some ⟨b, 0, none⟩), .int .i64 n2, .slice a3 n3 c3] #[.int .i64 5, .bool s, .int .i64 id, .int .i64 tick] #[.pointer none, .int .i64 0, .slice none 0 0]) := HX3.out.set _ _
  clear yy0 yy1 y1 y2 yf
  generalize (w3'.setCell ⟨W.heap.size, 1, none⟩ (.int .i64 n2)).setCell ⟨W.heap.size, 2, none⟩ (.slice a3 n3 c3) = w4 at *
  have HSD : Hid (∀ w5, Below w4.drew.heap.size w4.drew w5 → Py W F (.slice a m c) b n2 L2 L2 (.slice a3 n3 c3) T2 T2 (.slice al nl cl) (.slice ak nk ck) w5 ∧ By w5 W.heap.size #[.pointer (some ⟨b, 0, none⟩), .int .i64 n2, .slice a3 n3 c3] #[.int .i64 5, .bool s, .int .i64 id, .int .i64 tick] #[.pointer none, .int .i64 0, .slice none 0 0]) := (fun w5 hb5 => by
    have hb : Below w4.heap.size w4 w4.drew := ⟨rfl, rfl, rfl, Nat.le_refl _, fun _ _ => rfl⟩
    exact ⟨(HS4.out.below HF.out hb).below HF.out hb5, (HX4.out.below hb).below hb5⟩)
  have cS : Calls Try.prog 17 #[.slice al nl cl, .slice ak nk ck] w4.drew fun ex w' => ex = .returned (.bool true) ∧ Below w4.drew.heap.size w4.drew w' := (by
    have h := (HSD.out w4.drew (Below.refl _ _)).1
    have e1 := h.rl
    have e2 := h.rk
    obtain ⟨hl1, a1, c1, ee1, -⟩ := owns_fis e1
    obtain ⟨hl2, a2, c2, ee2, -⟩ := owns_fis e2
    injection ee1 with _ en1 _
    injection ee2 with _ en2 _
    subst en1
    subst en2
    refine (same_eq _ _ _ _ _ _ _ T2 _ (Fs.of_own e1 HI6.out) (Fs.of_own e2 HI6.out)).mono ?_
    rintro ex w' ⟨rfl, q, rfl⟩
    exact ⟨rfl, ⟨rfl, rfl, rfl, Nat.le_refl _, fun _ _ => rfl⟩⟩)
  have HXA : Hid (∀ w5, Below w4.drew.heap.size w4.drew w5 → Calls Try.prog 22 #[.agg #[.pointer (some ⟨b, 0, none⟩), .int .i64 n2, .slice a3 n3 c3], .int .i64 id] w5 fun ex w' => ex = .returned (.bool true) ∧ Below w5.heap.size w5 w') := (fun w5 hb5 => by
    have h := (HSD.out w5 hb5).1
    obtain ⟨F', h1, -⟩ := h.wh
    exact asked_any h1 h.row id H6.out.1)
  have hb0 : Below w4.drew.heap.size w4.drew w4.drew := Below.refl _ _
  have z0 := cell_of_row (k := 0) (v := .pointer (some ⟨b, 0, none⟩)) (HSD.out _ hb0).2.a rfl
  have z1 := cell_of_row (k := 1) (v := .int .i64 n2) (HSD.out _ hb0).2.a rfl
  have z2 := cell_of_row (k := 2) (v := .slice a3 n3 c3) (HSD.out _ hb0).2.a rfl
  have z3 := cell_of_row (k := 2) (v := .int .i64 id) (HSD.out _ hb0).2.o rfl
  clear hb0
  go_region_with (first
    | (go_at_call 17; refine cS.mono ?_; rintro ex w5 ⟨rfl, hb5⟩; have HB5 : Hid (Below w4.drew.heap.size w4.drew w5) := hb5; have cX := HXA.out w5 hb5; have u0 := cell_of_row (k := 0) (v := .pointer (some ⟨b, 0, none⟩)) (HSD.out _ hb5).2.a rfl; have u1 := cell_of_row (k := 1) (v := .int .i64 n2) (HSD.out _ hb5).2.a rfl; have u2 := cell_of_row (k := 2) (v := .slice a3 n3 c3) (HSD.out _ hb5).2.a rfl; have u3 := cell_of_row (k := 2) (v := .int .i64 id) (HSD.out _ hb5).2.o rfl; clear hb5)
    | (go_at_call 22; refine cX.mono ?_; rintro ex w6 ⟨rfl, hb6⟩; have hb56 : Below w4.drew.heap.size w4.drew w6 := HB5.out.trans (hb6.mono HB5.out.size); have HS5 : Hid (Py W F (.slice a m c) b n2 L2 L2 (.slice a3 n3 c3) T2 T2 (.slice al nl cl) (.slice ak nk ck) w6) := (HSD.out w6 hb56).1; have HX5 : Hid (By w6 W.heap.size #[.pointer (some ⟨b, 0, none⟩), .int .i64 n2, .slice a3 n3 c3] #[.int .i64 5, .bool s, .int .i64 id, .int .i64 tick] #[.pointer none, .int .i64 0, .slice none 0 0]) := (HSD.out w6 hb56).2; have x0 := cell_of_row (k := 0) (v := .pointer (some ⟨b, 0, none⟩)) HX5.out.a rfl; have x1 := cell_of_row (k := 1) (v := .int .i64 n2) HX5.out.a rfl; have x2 := cell_of_row (k := 2) (v := .slice a3 n3 c3) HX5.out.a rfl; have p0 := cell_of_row (k := 0) (v := .pointer none) HX5.out.z rfl; have p1 := cell_of_row (k := 1) (v := .int .i64 0) HX5.out.z rfl; have p2 := cell_of_row (k := 2) (v := .slice none 0 0) HX5.out.z rfl; have pf := fz_row HX5.out.z))
  all_goals
    go_wp2
    have hld := ld51 (set3' HX5.out.z (.pointer (some ⟨b, 0, none⟩)) (.int .i64 n2) (.slice a3 n3 c3))
    refine bodyPost_ret (v := .tuple #[.agg #[.pointer (some ⟨b, 0, none⟩), .int .i64 n2, .slice a3 n3 c3], .slice al nl cl, .slice ak nk ck, .bool true]) ?_ rfl ⟨n2, L2, _, T2, _, _, rfl, HS5.out.own HF.out (set3_keptF _ _ _ _) (fun j e => by omega), HI6.out, HTL.out⟩
    rw [results_c4 rfl]
    simp only [Act.put, List.setIfInBounds_toArray]
    simp [asAddr, Result.andThen, hld]
end Go.Proofs.Ytdojmmnojpeklaa
