/-
  The document's reader In: numbers, Bool, Count, Done, Left.
-/
import Derived.Test.YtakdfpenpodplaaRefIn
import Derived.Test.YtakdfpenpodplaaRdCount
namespace Go.Proofs.Ytakdfpenpodplaa
open Go.RowKit
set_option linter.unusedVariables false

theorem Il.lt {w : World} {F : Nat → Prop} {p : Nat} {xs : List Nat} {e : Int} (h : Il w F p xs e) : ∀ x ∈ xs, x < 256 := by
  obtain ⟨a, n, c, bs, m, hv, hx, _⟩ := h
  intro x hm
  rw [hx] at hm
  exact hv.bs.lt x (List.mem_of_mem_drop hm)
theorem Il.kept {w w' : World} {F G : Nat → Prop} {p : Nat} {xs : List Nat} {e : Int} (h : Il w F p xs e) (k : Kept G w w') (hd : ∀ b, F b → ¬ G b) : Il w' F p xs e := by
  obtain ⟨a, n, c, bs, m, hv, hx, hn⟩ := h
  exact ⟨a, n, c, bs, m, hv.kept k hd, hx, hn⟩
theorem Il.drewN {w : World} {F : Nat → Prop} {p : Nat} {xs : List Nat} {e : Int} (h : Il w F p xs e) (n : Nat) : Il (w.drewN n) F p xs e := h.kept ((Kept.refl No w).drewN n) (fun _ _ h => h)
theorem Il.drew {w : World} {F : Nat → Prop} {p : Nat} {xs : List Nat} {e : Int} (h : Il w F p xs e) : Il w.drew F p xs e := h.kept ((Kept.refl No w).drew) (fun _ _ h => h)
theorem IlDid.ahead {F : Nat → Prop} {p : Nat} {xs : List Nat} {e : Int} {w0 w w1 : World} (h : IlDid F p xs e w w1) (hk : Kept (fun k => k = p) w0 w) (hc : w.cell? ⟨p, 0, none⟩ = w0.cell? ⟨p, 0, none⟩) : IlDid F p xs e w0 w1 := ⟨h.1, hk.trans h.2.1 (fun _ h => .inl h), h.2.2.trans hc⟩

set_option maxHeartbeats 1000000 in
theorem inNumber_any (F : Nat → Prop) (p : Nat) (xs : List Nat) (e : Int) (width : Nat) (w : World) (h : Il w F p xs e) (hw : width ≤ 8) :
    Calls Try.prog 99 #[.pointer (some ⟨p, 0, none⟩), .int .i64 width] w fun ex w' => ex = .returned (.int .u64 (rdN xs e width)) ∧ IlDid F p (tkRest xs e width) (tkE xs e width) w w' := by
  have cc := inBytes_any F p xs e width w h
  have hlt := tkXs_lt e width h.lt
  clear h
  have hlen : (tkXs xs e width).length ≤ 8 := by have := tkXs_len xs e width; omega
  obtain ⟨ys, hys⟩ : ∃ ys, ys = tkXs xs e width := ⟨_, rfl⟩
  have HR : Hid (rdN xs e width = (val ys : Int)) := (show rdN xs e width = (val ys : Int) by rw [hys]; rfl)
  rw [← hys] at cc hlen hlt
  clear hys
  have HLT : Hid (∀ x ∈ ys, x < 256) := hlt
  clear hlt
  go_enter Try.func99, Try.ntmps99
  go_wp2_with (go_at_call 73; refine cc.mono ?_; rintro ex w1 ⟨v, rfl, own, hd⟩; obtain ⟨a, c, rfl, hB⟩ := Bs.of_owns own HLT.out; have HB : Hid (Bs w1 (fun g => (Value.slice a ys.length c).ownBlock = some g) a ys.length c ys) := hB; have HD : Hid (IlDid F p (tkRest xs e width) (tkE xs e width) w w1) := hd; clear hB hd own)
  obtain ⟨k, hk⟩ : ∃ k, k = ys.length := ⟨_, rfl⟩
  rw [← hk] at hlen HB
  rw [← hk]
  have HK : Hid (k = ys.length) := hk
  clear hk cc
  go_loop [6, 7] (fun x i => ∃ j : Nat, j ≤ k ∧ i = .int .i64 j ∧ x = .int .u64 (val (ys.take j) : Nat)) (fun _ i => k - (intOf i).toNat)
  case atStart => exact ⟨0, by omega, rfl, rfl⟩
  case round =>
    obtain ⟨j, hj, rfl, rfl⟩ := hrel
    by_cases hlt : j < k
    · obtain ⟨b, o, rfl, _, hc0⟩ := HB.out.at' j hlt
      have hlen2 : j < ys.length := by rw [← HK.out]; exact hlt
      obtain ⟨y, hy⟩ : ∃ y, y = ys.getD j 0 := ⟨_, rfl⟩
      have hc : w1.cell? ⟨b, o + j, none⟩ = some (.int .u8 (y : Nat)) := by rw [hy]; exact hc0
      have hv := val_lt ys HLT.out j (by omega)
      have hv2 := val_take ys j hlen2
      rw [← hy] at hv2
      obtain ⟨X, hX⟩ : ∃ X, X = val (ys.take j) := ⟨_, rfl⟩
      have hy2 : y < 256 := by
        have : ys.getD j 0 = ys[j] := by simp [List.getD, hlen2]
        rw [hy, this]; exact HLT.out _ (List.getElem_mem _)
      have hXl : X < 72057594037927936 := by
        rw [hX]; exact Nat.lt_of_lt_of_le hv (Nat.le_trans (Nat.pow_le_pow_right (by decide) (show j ≤ 7 by omega)) (by decide))
      rw [← hX]
      have HV2 : Hid (val (ys.take (j + 1)) = X * 256 + y) := by rw [hX]; exact hv2
      clear hc0 hv hv2 hy hX
      go_wp2
      go_round
      case rel =>
        refine ⟨j + 1, by omega, by go_num, ?_⟩
        rw [HV2.out]; simp
      case measure => simp [intOf]; omega
    · have hjk : j = k := by omega
      subst hjk
      rw [List.take_of_length_le (by rw [HK.out]; exact Nat.le_refl _)]
      go_wp2
      go_ret
      exact ⟨by rw [HR.out]; rfl, HD.out⟩

theorem inU8_any (F : Nat → Prop) (p : Nat) (xs : List Nat) (e : Int) (w : World) (h : Il w F p xs e) :
    Calls Try.prog 68 #[.pointer (some ⟨p, 0, none⟩)] w fun ex w' => ex = .returned (.int .i64 (rdN xs e 1)) ∧ IlDid F p (tkRest xs e 1) (tkE xs e 1) w w' := by
  have cc : Calls Try.prog 99 #[.pointer (some ⟨p, 0, none⟩), .int .i64 1] w fun ex w' => ex = .returned (.int .u64 (rdN xs e 1)) ∧ IlDid F p (tkRest xs e 1) (tkE xs e 1) w w' := inNumber_any F p xs e 1 w h (by omega)
  have hb := rdN_lt e 1 h.lt
  obtain ⟨x, hx⟩ : ∃ x, x = rdN xs e 1 := ⟨_, rfl⟩
  rw [← hx] at cc hb ⊢
  have e1 : IntKind.i64.wrap x = x := by rw [IntKind.wrap_i64]; omega
  clear h hb hx
  go_enter Try.func68, Try.ntmps68
  go_wp2_with (go_at_call 99; refine cc.mono ?_; rintro ex w1 ⟨rfl, hd⟩)
  go_ret
  exact ⟨rfl, hd⟩

theorem inU16_any (F : Nat → Prop) (p : Nat) (xs : List Nat) (e : Int) (w : World) (h : Il w F p xs e) :
    Calls Try.prog 69 #[.pointer (some ⟨p, 0, none⟩)] w fun ex w' => ex = .returned (.int .i64 (rdN xs e 2)) ∧ IlDid F p (tkRest xs e 2) (tkE xs e 2) w w' := by
  have cc : Calls Try.prog 99 #[.pointer (some ⟨p, 0, none⟩), .int .i64 2] w fun ex w' => ex = .returned (.int .u64 (rdN xs e 2)) ∧ IlDid F p (tkRest xs e 2) (tkE xs e 2) w w' := inNumber_any F p xs e 2 w h (by omega)
  have hb := rdN_lt e 2 h.lt
  obtain ⟨x, hx⟩ : ∃ x, x = rdN xs e 2 := ⟨_, rfl⟩
  rw [← hx] at cc hb ⊢
  have e1 : IntKind.i64.wrap x = x := by rw [IntKind.wrap_i64]; omega
  clear h hb hx
  go_enter Try.func69, Try.ntmps69
  go_wp2_with (go_at_call 99; refine cc.mono ?_; rintro ex w1 ⟨rfl, hd⟩)
  go_ret
  exact ⟨rfl, hd⟩

theorem inU32_any (F : Nat → Prop) (p : Nat) (xs : List Nat) (e : Int) (w : World) (h : Il w F p xs e) :
    Calls Try.prog 70 #[.pointer (some ⟨p, 0, none⟩)] w fun ex w' => ex = .returned (.int .i64 (rdN xs e 4)) ∧ IlDid F p (tkRest xs e 4) (tkE xs e 4) w w' := by
  have cc : Calls Try.prog 99 #[.pointer (some ⟨p, 0, none⟩), .int .i64 4] w fun ex w' => ex = .returned (.int .u64 (rdN xs e 4)) ∧ IlDid F p (tkRest xs e 4) (tkE xs e 4) w w' := inNumber_any F p xs e 4 w h (by omega)
  have hb := rdN_lt e 4 h.lt
  obtain ⟨x, hx⟩ : ∃ x, x = rdN xs e 4 := ⟨_, rfl⟩
  rw [← hx] at cc hb ⊢
  have e1 : IntKind.i64.wrap x = x := by rw [IntKind.wrap_i64]; omega
  clear h hb hx
  go_enter Try.func70, Try.ntmps70
  go_wp2_with (go_at_call 99; refine cc.mono ?_; rintro ex w1 ⟨rfl, hd⟩)
  go_ret
  exact ⟨rfl, hd⟩

theorem inI64_any (F : Nat → Prop) (p : Nat) (xs : List Nat) (e : Int) (w : World) (h : Il w F p xs e) :
    Calls Try.prog 71 #[.pointer (some ⟨p, 0, none⟩)] w fun ex w' => ex = .returned (.int .i64 (rdI xs e)) ∧ IlDid F p (tkRest xs e 8) (tkE xs e 8) w w' := by
  have cc : Calls Try.prog 99 #[.pointer (some ⟨p, 0, none⟩), .int .i64 8] w fun ex w' => ex = .returned (.int .u64 (rdN xs e 8)) ∧ IlDid F p (tkRest xs e 8) (tkE xs e 8) w w' := inNumber_any F p xs e 8 w h (by omega)
  unfold rdI
  clear h
  go_enter Try.func71, Try.ntmps71
  go_wp2_with (go_at_call 99; refine cc.mono ?_; rintro ex w1 ⟨rfl, hd⟩)
  go_ret
  exact ⟨rfl, hd⟩

theorem inLeft_any (F : Nat → Prop) (p : Nat) (xs : List Nat) (e : Int) (w : World) (h : Il w F p xs e) :
    Calls Try.prog 41 #[.pointer (some ⟨p, 0, none⟩)] w fun ex w' => ex = .returned (.int .i64 xs.length) ∧ ∃ n, w' = w.drewN n := by
  obtain ⟨a, n, c, bs, m, hv, hx, hN⟩ := h
  have hle := hv.le
  have hxl : xs.length = n - m := by rw [hx, List.length_drop, hv.bs.len]
  have c0 := hv.c0
  have c1 := hv.c1
  have hwr : IntKind.i64.wrap ((n : Int) - m) = (n : Int) - m := by rw [IntKind.wrap_i64]; omega
  have HXL : Hid ((xs.length : Int) = (n : Int) - m) := (show (xs.length : Int) = (n : Int) - m by omega)
  clear hv hx hxl
  go_enter Try.func41, Try.ntmps41
  go_wp2
  go_quiet (fail)
  go_wp2
  go_ret
  exact ⟨by rw [HXL.out]; rfl, _, rfl⟩

set_option maxHeartbeats 1000000 in
theorem inDone_any (F : Nat → Prop) (p : Nat) (xs : List Nat) (e : Int) (w : World) (h : Il w F p xs e) :
    Calls Try.prog 40 #[.pointer (some ⟨p, 0, none⟩)] w fun ex w' => ex = .returned (.int .i64 (rdDone xs e)) ∧ ∃ n, w' = w.drewN n := by
  obtain ⟨a, n, c, bs, m, hv, hx, hN⟩ := h
  have hle := hv.le
  have hxl : xs.length = n - m := by rw [hx, List.length_drop, hv.bs.len]
  have c0 := hv.c0
  have c1 := hv.c1
  have c2 := hv.c2
  clear hv hx
  by_cases he : e = 0
  · subst he
    by_cases hn : m < n
    · have hx : xs ≠ [] := by rintro rfl; simp at hxl; omega
      rw [show rdDone xs 0 = 20 from by simp [rdDone, hx]]
      have hd : decide ((m : Int) < n) = true := by simp; omega
      clear hx hxl
      go_enter Try.func40, Try.ntmps40
      go_wp2
      go_quiet (fail)
      go_wp2
      go_ret
      exact ⟨rfl, _, rfl⟩
    · have hx : xs = [] := List.eq_nil_of_length_eq_zero (by omega)
      rw [show rdDone xs 0 = 0 from by simp [rdDone, hx]]
      have hd : decide ((m : Int) < n) = false := by simp; omega
      clear hx hxl
      go_enter Try.func40, Try.ntmps40
      go_wp2
      go_quiet (fail)
      go_wp2
      go_ret
      exact ⟨rfl, _, rfl⟩
  · have he2 : (e == 0) = false := by simpa using he
    rw [show rdDone xs e = e from if_pos he]
    clear hxl he
    go_enter Try.func40, Try.ntmps40
    go_wp2
    go_quiet (fail)
    go_wp2
    go_ret
    exact ⟨rfl, _, rfl⟩

end Go.Proofs.Ytakdfpenpodplaa
