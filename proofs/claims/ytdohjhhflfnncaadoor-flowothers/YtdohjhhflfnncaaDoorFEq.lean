/-
  slices.Equal of a list and itself.
-/
import Derived.Test.YtdohjhhflfnncaaDoorFRow
import Derived.BigQuiet
import Derived.Laws.StructEq
namespace Go.Proofs.YtdohjhhflfnncaaDoor
open Go.RowKit
set_option linter.unusedVariables false
set_option maxRecDepth 100000

set_option maxHeartbeats 4000000 in
theorem eq_int {F : Nat → Prop} {a : Option Addr} {n c : Nat} {xs : List Int} (w : World) (h : Ls 1 elI w F a n c xs) :
    Calls Tryd.prog 33 #[.slice a n c, .slice a n c] w fun e w' => e = .returned (.bool true) ∧ Kept No w w' := by
  have hl := h.len
  have hcap := h.cap
  have hmax := h.max
  have HH : Hid (Ls 1 elI w F a n c xs ∧ xs.length = n) := ⟨h, hl⟩
  clear h hl
  go_enter Tryd.func33, Tryd.ntmps33
  go_wp2
  go_loopw [13] (fun y wr => ∃ i : Nat, i ≤ n ∧ y = .int .i64 i ∧ Kept No w wr) (fun y _ => n - (intOf y).toNat)
  case atStart => exact ⟨0, by omega, rfl, Kept.refl _ _⟩
  case round =>
    obtain ⟨i, hi, rfl, K⟩ := hrel
    by_cases hlt : i < n
    · obtain ⟨x, hx⟩ : ∃ x, xs[i]? = some x := ⟨_, List.getElem?_eq_getElem (by rw [HH.out.2]; exact hlt)⟩
      obtain ⟨b, o, cs, rfl, _, _, hr, ⟨hcs, _⟩⟩ := HH.out.1.at' i x hx
      have y0 : wr.cell? ⟨b, o + i, none⟩ = some (.int .i64 x) := by
        have := K.cell (hr 0 _ (by rw [hcs]; rfl)) (fun h => h)
        simpa using this
      have HK := hid K
      have hiz : (i : Int) < (n : Int) := by omega
      clear hr hcs K hx
      go_wp2
      go_quiet (fail)
      go_wp2
      go_roundw
      case rel => exact ⟨i + 1, by omega, by go_num, by first | exact HK.out | exact HK.out.drew | exact HK.out.drewN _⟩
      case measure => simp [intOf]; omega
    · have hiz : ¬ (i : Int) < (n : Int) := by omega
      go_wp2
      go_ret
      exact ⟨rfl, K⟩

set_option maxHeartbeats 4000000 in
theorem eq_w64 {F : Nat → Prop} {a : Option Addr} {n c : Nat} {xs : List Int} (w : World) (h : Ls 1 elI w F a n c xs) :
    Calls Tryd.prog 42 #[.slice a n c, .slice a n c] w fun e w' => e = .returned (.bool true) ∧ Kept No w w' := by
  have hl := h.len
  have hcap := h.cap
  have hmax := h.max
  have HH : Hid (Ls 1 elI w F a n c xs ∧ xs.length = n) := ⟨h, hl⟩
  clear h hl
  go_enter Tryd.func42, Tryd.ntmps42
  go_wp2
  go_loopw [13] (fun y wr => ∃ i : Nat, i ≤ n ∧ y = .int .i64 i ∧ Kept No w wr) (fun y _ => n - (intOf y).toNat)
  case atStart => exact ⟨0, by omega, rfl, Kept.refl _ _⟩
  case round =>
    obtain ⟨i, hi, rfl, K⟩ := hrel
    by_cases hlt : i < n
    · obtain ⟨x, hx⟩ : ∃ x, xs[i]? = some x := ⟨_, List.getElem?_eq_getElem (by rw [HH.out.2]; exact hlt)⟩
      obtain ⟨b, o, cs, rfl, _, _, hr, ⟨hcs, _⟩⟩ := HH.out.1.at' i x hx
      have y0 : wr.cell? ⟨b, o + i, none⟩ = some (.int .i64 x) := by
        have := K.cell (hr 0 _ (by rw [hcs]; rfl)) (fun h => h)
        simpa using this
      have HK := hid K
      have hiz : (i : Int) < (n : Int) := by omega
      clear hr hcs K hx
      go_wp2
      go_quiet (fail)
      go_wp2
      go_roundw
      case rel => exact ⟨i + 1, by omega, by go_num, by first | exact HK.out | exact HK.out.drew | exact HK.out.drewN _⟩
      case measure => simp [intOf]; omega
    · have hiz : ¬ (i : Int) < (n : Int) := by omega
      go_wp2
      go_ret
      exact ⟨rfl, K⟩

set_option maxHeartbeats 4000000 in
theorem eq_bool {F : Nat → Prop} {a : Option Addr} {n c : Nat} {xs : List Bool} (w : World) (h : Ls 1 elB w F a n c xs) :
    Calls Tryd.prog 46 #[.slice a n c, .slice a n c] w fun e w' => e = .returned (.bool true) ∧ Kept No w w' := by
  have hl := h.len
  have hcap := h.cap
  have hmax := h.max
  have HH : Hid (Ls 1 elB w F a n c xs ∧ xs.length = n) := ⟨h, hl⟩
  clear h hl
  go_enter Tryd.func46, Tryd.ntmps46
  go_wp2
  go_loopw [13] (fun y wr => ∃ i : Nat, i ≤ n ∧ y = .int .i64 i ∧ Kept No w wr) (fun y _ => n - (intOf y).toNat)
  case atStart => exact ⟨0, by omega, rfl, Kept.refl _ _⟩
  case round =>
    obtain ⟨i, hi, rfl, K⟩ := hrel
    by_cases hlt : i < n
    · obtain ⟨x, hx⟩ : ∃ x, xs[i]? = some x := ⟨_, List.getElem?_eq_getElem (by rw [HH.out.2]; exact hlt)⟩
      obtain ⟨b, o, cs, rfl, _, _, hr, hcs⟩ := HH.out.1.at' i x hx
      have y0 : wr.cell? ⟨b, o + i, none⟩ = some (.bool x) := by
        have := K.cell (hr 0 _ (by rw [hcs]; rfl)) (fun h => h)
        simpa using this
      have HK := hid K
      have hiz : (i : Int) < (n : Int) := by omega
      clear hr hcs K hx
      go_wp2
      go_quiet (fail)
      go_wp2
      go_roundw
      case rel => exact ⟨i + 1, by omega, by go_num, by first | exact HK.out | exact HK.out.drew | exact HK.out.drewN _⟩
      case measure => simp [intOf]; omega
    · have hiz : ¬ (i : Int) < (n : Int) := by omega
      go_wp2
      go_ret
      exact ⟨rfl, K⟩

set_option maxHeartbeats 4000000 in
theorem eq_Ins {F : Nat → Prop} {a : Option Addr} {n c : Nat} {xs : List Ins} (w : World) (h : Ls 5 elIns w F a n c xs) :
    Calls Tryd.prog 43 #[.slice a n c, .slice a n c] w fun e w' => e = .returned (.bool true) ∧ Kept No w w' := by
  have hl := h.len
  have hcap := h.cap
  have hmax := h.max
  have HH : Hid (Ls 5 elIns w F a n c xs ∧ xs.length = n) := ⟨h, hl⟩
  clear h hl
  go_enter Tryd.func43, Tryd.ntmps43
  go_wp2
  go_loopw [13] (fun y wr => ∃ i : Nat, i ≤ n ∧ y = .int .i64 i ∧ Kept No w wr) (fun y _ => n - (intOf y).toNat)
  case atStart => exact ⟨0, by omega, rfl, Kept.refl _ _⟩
  case round =>
    obtain ⟨i, hi, rfl, K⟩ := hrel
    by_cases hlt : i < n
    · obtain ⟨x, hx⟩ : ∃ x, xs[i]? = some x := ⟨_, List.getElem?_eq_getElem (by rw [HH.out.2]; exact hlt)⟩
      obtain ⟨b, o, cs, rfl, _, _, hr, ⟨hcs, _⟩⟩ := HH.out.1.at' i x hx
      have y0 : wr.cell? ⟨b, o + i * 5, none⟩ = some (.int .u8 x.op) := by
        have := K.cell (hr 0 _ (by rw [hcs]; rfl)) (fun h => h)
        simpa using this
      have y1 : wr.cell? ⟨b, o + i * 5 + 1, none⟩ = some (.int .u8 x.a) := by
        have := K.cell (hr 1 _ (by rw [hcs]; rfl)) (fun h => h)
        simpa using this
      have y2 : wr.cell? ⟨b, o + i * 5 + 2, none⟩ = some (.int .u8 x.b) := by
        have := K.cell (hr 2 _ (by rw [hcs]; rfl)) (fun h => h)
        simpa using this
      have y3 : wr.cell? ⟨b, o + i * 5 + 3, none⟩ = some (.int .u8 x.c) := by
        have := K.cell (hr 3 _ (by rw [hcs]; rfl)) (fun h => h)
        simpa using this
      have y4 : wr.cell? ⟨b, o + i * 5 + 4, none⟩ = some (.int .i32 x.imm) := by
        have := K.cell (hr 4 _ (by rw [hcs]; rfl)) (fun h => h)
        simpa using this
      have HK := hid K
      have hiz : (i : Int) < (n : Int) := by omega
      clear hr hcs K hx
      generalize x.op = X0 at *
      generalize x.a = X1 at *
      generalize x.b = X2 at *
      generalize x.c = X3 at *
      generalize x.imm = X4 at *
      go_wp2
      go_quiet (fail)
      go_wp2
      go_roundw
      case rel => exact ⟨i + 1, by omega, by go_num, by first | exact HK.out | exact HK.out.drew | exact HK.out.drewN _⟩
      case measure => simp [intOf]; omega
    · have hiz : ¬ (i : Int) < (n : Int) := by omega
      go_wp2
      go_ret
      exact ⟨rfl, K⟩

set_option maxHeartbeats 4000000 in
theorem eq_Prc {F : Nat → Prop} {a : Option Addr} {n c : Nat} {xs : List Prc} (w : World) (h : Ls 6 elPrc w F a n c xs) :
    Calls Tryd.prog 44 #[.slice a n c, .slice a n c] w fun e w' => e = .returned (.bool true) ∧ Kept No w w' := by
  have hl := h.len
  have hcap := h.cap
  have hmax := h.max
  have HH : Hid (Ls 6 elPrc w F a n c xs ∧ xs.length = n) := ⟨h, hl⟩
  clear h hl
  go_enter Tryd.func44, Tryd.ntmps44
  go_wp2
  go_loopw [13] (fun y wr => ∃ i : Nat, i ≤ n ∧ y = .int .i64 i ∧ Kept No w wr) (fun y _ => n - (intOf y).toNat)
  case atStart => exact ⟨0, by omega, rfl, Kept.refl _ _⟩
  case round =>
    obtain ⟨i, hi, rfl, K⟩ := hrel
    by_cases hlt : i < n
    · obtain ⟨x, hx⟩ : ∃ x, xs[i]? = some x := ⟨_, List.getElem?_eq_getElem (by rw [HH.out.2]; exact hlt)⟩
      obtain ⟨b, o, cs, rfl, _, _, hr, ⟨hcs, _⟩⟩ := HH.out.1.at' i x hx
      have y0 : wr.cell? ⟨b, o + i * 6, none⟩ = some (.int .i64 x.en) := by
        have := K.cell (hr 0 _ (by rw [hcs]; rfl)) (fun h => h)
        simpa using this
      have y1 : wr.cell? ⟨b, o + i * 6 + 1, none⟩ = some (.int .i64 x.pr) := by
        have := K.cell (hr 1 _ (by rw [hcs]; rfl)) (fun h => h)
        simpa using this
      have y2 : wr.cell? ⟨b, o + i * 6 + 2, none⟩ = some (.int .i64 x.pe) := by
        have := K.cell (hr 2 _ (by rw [hcs]; rfl)) (fun h => h)
        simpa using this
      have y3 : wr.cell? ⟨b, o + i * 6 + 3, none⟩ = some (.int .i64 x.li) := by
        have := K.cell (hr 3 _ (by rw [hcs]; rfl)) (fun h => h)
        simpa using this
      have y4 : wr.cell? ⟨b, o + i * 6 + 4, none⟩ = some (.int .i64 x.ca) := by
        have := K.cell (hr 4 _ (by rw [hcs]; rfl)) (fun h => h)
        simpa using this
      have y5 : wr.cell? ⟨b, o + i * 6 + 5, none⟩ = some (.bool x.auto) := by
        have := K.cell (hr 5 _ (by rw [hcs]; rfl)) (fun h => h)
        simpa using this
      have HK := hid K
      have hiz : (i : Int) < (n : Int) := by omega
      clear hr hcs K hx
      generalize x.en = X0 at *
      generalize x.pr = X1 at *
      generalize x.pe = X2 at *
      generalize x.li = X3 at *
      generalize x.ca = X4 at *
      generalize x.auto = X5 at *
      go_wp2
      go_quiet (fail)
      go_wp2
      go_roundw
      case rel => exact ⟨i + 1, by omega, by go_num, by first | exact HK.out | exact HK.out.drew | exact HK.out.drewN _⟩
      case measure => simp [intOf]; omega
    · have hiz : ¬ (i : Int) < (n : Int) := by omega
      go_wp2
      go_ret
      exact ⟨rfl, K⟩

set_option maxHeartbeats 4000000 in
theorem eq_Sm {F : Nat → Prop} {a : Option Addr} {n c : Nat} {xs : List Sm} (w : World) (h : Ls 2 elSm w F a n c xs) :
    Calls Tryd.prog 45 #[.slice a n c, .slice a n c] w fun e w' => e = .returned (.bool true) ∧ Kept No w w' := by
  have hl := h.len
  have hcap := h.cap
  have hmax := h.max
  have HH : Hid (Ls 2 elSm w F a n c xs ∧ xs.length = n) := ⟨h, hl⟩
  clear h hl
  go_enter Tryd.func45, Tryd.ntmps45
  go_wp2
  go_loopw [13] (fun y wr => ∃ i : Nat, i ≤ n ∧ y = .int .i64 i ∧ Kept No w wr) (fun y _ => n - (intOf y).toNat)
  case atStart => exact ⟨0, by omega, rfl, Kept.refl _ _⟩
  case round =>
    obtain ⟨i, hi, rfl, K⟩ := hrel
    by_cases hlt : i < n
    · obtain ⟨x, hx⟩ : ∃ x, xs[i]? = some x := ⟨_, List.getElem?_eq_getElem (by rw [HH.out.2]; exact hlt)⟩
      obtain ⟨b, o, cs, rfl, _, _, hr, ⟨hcs, _⟩⟩ := HH.out.1.at' i x hx
      have y0 : wr.cell? ⟨b, o + i * 2, none⟩ = some (.int .i64 x.st) := by
        have := K.cell (hr 0 _ (by rw [hcs]; rfl)) (fun h => h)
        simpa using this
      have y1 : wr.cell? ⟨b, o + i * 2 + 1, none⟩ = some (.int .i64 x.mx) := by
        have := K.cell (hr 1 _ (by rw [hcs]; rfl)) (fun h => h)
        simpa using this
      have HK := hid K
      have hiz : (i : Int) < (n : Int) := by omega
      clear hr hcs K hx
      generalize x.st = X0 at *
      generalize x.mx = X1 at *
      go_wp2
      go_quiet (fail)
      go_wp2
      go_roundw
      case rel => exact ⟨i + 1, by omega, by go_num, by first | exact HK.out | exact HK.out.drew | exact HK.out.drewN _⟩
      case measure => simp [intOf]; omega
    · have hiz : ¬ (i : Int) < (n : Int) := by omega
      go_wp2
      go_ret
      exact ⟨rfl, K⟩

set_option maxHeartbeats 4000000 in
theorem eq_Bf {F : Nat → Prop} {a : Option Addr} {n c : Nat} {xs : List Bf} (w : World) (h : Ls 2 elBf w F a n c xs) :
    Calls Tryd.prog 47 #[.slice a n c, .slice a n c] w fun e w' => e = .returned (.bool true) ∧ Kept No w w' := by
  have hl := h.len
  have hcap := h.cap
  have hmax := h.max
  have HH : Hid (Ls 2 elBf w F a n c xs ∧ xs.length = n) := ⟨h, hl⟩
  clear h hl
  go_enter Tryd.func47, Tryd.ntmps47
  go_wp2
  go_loopw [13] (fun y wr => ∃ i : Nat, i ≤ n ∧ y = .int .i64 i ∧ Kept No w wr) (fun y _ => n - (intOf y).toNat)
  case atStart => exact ⟨0, by omega, rfl, Kept.refl _ _⟩
  case round =>
    obtain ⟨i, hi, rfl, K⟩ := hrel
    by_cases hlt : i < n
    · obtain ⟨x, hx⟩ : ∃ x, xs[i]? = some x := ⟨_, List.getElem?_eq_getElem (by rw [HH.out.2]; exact hlt)⟩
      obtain ⟨b, o, cs, rfl, _, _, hr, ⟨hcs, _⟩⟩ := HH.out.1.at' i x hx
      have y0 : wr.cell? ⟨b, o + i * 2, none⟩ = some (.int .i64 x.sz) := by
        have := K.cell (hr 0 _ (by rw [hcs]; rfl)) (fun h => h)
        simpa using this
      have y1 : wr.cell? ⟨b, o + i * 2 + 1, none⟩ = some (.int .i64 x.dp) := by
        have := K.cell (hr 1 _ (by rw [hcs]; rfl)) (fun h => h)
        simpa using this
      have HK := hid K
      have hiz : (i : Int) < (n : Int) := by omega
      clear hr hcs K hx
      generalize x.sz = X0 at *
      generalize x.dp = X1 at *
      go_wp2
      go_quiet (fail)
      go_wp2
      go_roundw
      case rel => exact ⟨i + 1, by omega, by go_num, by first | exact HK.out | exact HK.out.drew | exact HK.out.drewN _⟩
      case measure => simp [intOf]; omega
    · have hiz : ¬ (i : Int) < (n : Int) := by omega
      go_wp2
      go_ret
      exact ⟨rfl, K⟩

set_option maxHeartbeats 4000000 in
theorem eq_Po {F : Nat → Prop} {a : Option Addr} {n c : Nat} {xs : List Po} (w : World) (h : Ls 6 elPo w F a n c xs) :
    Calls Tryd.prog 25 #[.slice a n c, .slice a n c] w fun e w' => e = .returned (.bool true) ∧ Kept No w w' := by
  have hl := h.len
  have hcap := h.cap
  have hmax := h.max
  have HH : Hid (Ls 6 elPo w F a n c xs ∧ xs.length = n) := ⟨h, hl⟩
  clear h hl
  go_enter Tryd.func25, Tryd.ntmps25
  go_wp2
  go_loopw [13] (fun y wr => ∃ i : Nat, i ≤ n ∧ y = .int .i64 i ∧ Kept No w wr) (fun y _ => n - (intOf y).toNat)
  case atStart => exact ⟨0, by omega, rfl, Kept.refl _ _⟩
  case round =>
    obtain ⟨i, hi, rfl, K⟩ := hrel
    by_cases hlt : i < n
    · obtain ⟨x, hx⟩ : ∃ x, xs[i]? = some x := ⟨_, List.getElem?_eq_getElem (by rw [HH.out.2]; exact hlt)⟩
      obtain ⟨b, o, cs, rfl, _, _, hr, ⟨hcs, _⟩⟩ := HH.out.1.at' i x hx
      have y0 : wr.cell? ⟨b, o + i * 6, none⟩ = some (.int .i64 x.pt) := by
        have := K.cell (hr 0 _ (by rw [hcs]; rfl)) (fun h => h)
        simpa using this
      have y1 : wr.cell? ⟨b, o + i * 6 + 1, none⟩ = some (.int .i64 x.kd) := by
        have := K.cell (hr 1 _ (by rw [hcs]; rfl)) (fun h => h)
        simpa using this
      have y2 : wr.cell? ⟨b, o + i * 6 + 2, none⟩ = some (.bool x.out) := by
        have := K.cell (hr 2 _ (by rw [hcs]; rfl)) (fun h => h)
        simpa using this
      have y3 : wr.cell? ⟨b, o + i * 6 + 3, none⟩ = some (.int .i64 x.sz) := by
        have := K.cell (hr 3 _ (by rw [hcs]; rfl)) (fun h => h)
        simpa using this
      have y4 : wr.cell? ⟨b, o + i * 6 + 4, none⟩ = some (.int .i64 x.dp) := by
        have := K.cell (hr 4 _ (by rw [hcs]; rfl)) (fun h => h)
        simpa using this
      have y5 : wr.cell? ⟨b, o + i * 6 + 5, none⟩ = some (.int .i64 x.rf) := by
        have := K.cell (hr 5 _ (by rw [hcs]; rfl)) (fun h => h)
        simpa using this
      have HK := hid K
      have hiz : (i : Int) < (n : Int) := by omega
      clear hr hcs K hx
      generalize x.pt = X0 at *
      generalize x.kd = X1 at *
      generalize x.out = X2 at *
      generalize x.sz = X3 at *
      generalize x.dp = X4 at *
      generalize x.rf = X5 at *
      go_wp2
      go_quiet (fail)
      go_wp2
      go_roundw
      case rel => exact ⟨i + 1, by omega, by go_num, by first | exact HK.out | exact HK.out.drew | exact HK.out.drewN _⟩
      case measure => simp [intOf]; omega
    · have hiz : ¬ (i : Int) < (n : Int) := by omega
      go_wp2
      go_ret
      exact ⟨rfl, K⟩

theorem eqn_Ins {a a' : Option Addr} {n c m c' : Nat} (w : World) (h : n ≠ m) :
    Calls Tryd.prog 43 #[.slice a n c, .slice a' m c'] w fun e w' => e = .returned (.bool false) ∧ w' = w := by
  have hz : ¬ (n : Int) = (m : Int) := by omega
  go_enter Tryd.func43, Tryd.ntmps43
  go_wp2
  go_ret
  exact ⟨rfl, rfl⟩
end Go.Proofs.YtdohjhhflfnncaaDoor
