/-
  One text: RIn, RIn2, RSum, RSeal, RUns.
-/
import Derived.Test.YtkmpgcgdamcikaaGreatDoorGCod
import Derived.Deep.DeepCutAuto
namespace Go.Proofs.YtkmpgcgdamcikaaGreatDoor
open Go.RowKit
set_option linter.unusedVariables false

/-- block p is an In: of the bytes bs it has come to place m, its fault is e. -/
structure InV (w : World) (F : Nat → Prop) (p : Nat) (a : Option Addr) (n c : Nat) (bs : List Nat) (m : Nat) (e : Int) : Prop where
  obj : w.heap[p]? = some (.cells #[.slice a n c, .int .i64 m, .int .i64 e] 50 (0, 0))
  bs : Bs w (fun b => F b ∧ b ≠ p) a n c bs
  le : m ≤ n
  fp : F p

def Il (w : World) (F : Nat → Prop) (p : Nat) (xs : List Nat) (e : Int) : Prop := ∃ a n c bs m, InV w F p a n c bs m e ∧ xs = bs.drop m ∧ n ≤ 140737488351232

namespace InV
variable {w w' : World} {F G : Nat → Prop} {p : Nat} {a : Option Addr} {n c : Nat} {bs : List Nat} {m : Nat} {e : Int}
theorem c0 (h : InV w F p a n c bs m e) : w.cell? ⟨p, 0, none⟩ = some (.slice a n c) := by simp [World.cell?, h.obj]
theorem c1 (h : InV w F p a n c bs m e) : w.cell? ⟨p, 1, none⟩ = some (.int .i64 m) := by simp [World.cell?, h.obj]
theorem c2 (h : InV w F p a n c bs m e) : w.cell? ⟨p, 2, none⟩ = some (.int .i64 e) := by simp [World.cell?, h.obj]
theorem fz (h : InV w F p a n c bs m e) (i : Nat) : w.frozen? ⟨p, i, none⟩ = false := by simp [World.frozen?, h.obj]
theorem plt (h : InV w F p a n c bs m e) : p < w.heap.size := heap_lt h.obj
theorem kept (h : InV w F p a n c bs m e) (k : Kept G w w') (hd : ∀ b, F b → ¬ G b) : InV w' F p a n c bs m e :=
  ⟨k.at' h.obj (hd p h.fp), h.bs.kept k (fun b hb => hd b hb.1), h.le, h.fp⟩
theorem put1 (h : InV w F p a n c bs m e) (m' : Nat) (hm : m' ≤ n) : InV (w.setCell ⟨p, 1, none⟩ (.int .i64 m')) F p a n c bs m' e := by
  have hk : Kept (fun k => k = p) w (w.setCell ⟨p, 1, none⟩ (.int .i64 m')) := (Kept.refl (fun k => k = p) w).setCell (p := ⟨p, 1, none⟩) (.inl rfl) _
  refine ⟨?_, h.bs.kept hk (fun b hb => hb.2), hm, h.fp⟩
  simp [World.setCell, Array.getElem?_modify, h.obj]
theorem put2 (h : InV w F p a n c bs m e) (e' : Int) : InV (w.setCell ⟨p, 2, none⟩ (.int .i64 e')) F p a n c bs m e' := by
  have hk : Kept (fun k => k = p) w (w.setCell ⟨p, 2, none⟩ (.int .i64 e')) := (Kept.refl (fun k => k = p) w).setCell (p := ⟨p, 2, none⟩) (.inl rfl) _
  refine ⟨?_, h.bs.kept hk (fun b hb => hb.2), h.le, h.fp⟩
  simp [World.setCell, Array.getElem?_modify, h.obj]
theorem drewN (h : InV w F p a n c bs m e) (k : Nat) : InV (w.drewN k) F p a n c bs m e := h.kept ((Kept.refl No w).drewN k) (fun _ _ h => h)
theorem below (h : InV w F p a n c bs m e) (b : Below w.heap.size w w') : InV w' F p a n c bs m e := h.kept (Kept.of_below (F := No) b) (fun _ _ h => h)
end InV

/-- what a call on it leaves -/
def IlDid (F : Nat → Prop) (p : Nat) (xs' : List Nat) (e' : Int) (w w' : World) : Prop := Il w' F p xs' e' ∧ Kept (fun k => k = p) w w' ∧ w'.cell? ⟨p, 0, none⟩ = w.cell? ⟨p, 0, none⟩

theorem failIn_any (F : Nat → Prop) (p : Nat) (a : Option Addr) (n c : Nat) (bs : List Nat) (m : Nat) (x : Int) (w : World) (h : InV w F p a n c bs m 0) :
    Calls Tryz.prog 66 #[.pointer (some ⟨p, 0, none⟩), .int .i64 x] w fun ex w' => ex = .returned (.tuple #[]) ∧ InV w' F p a n c bs m x ∧ Kept (fun k => k = p) w w' := by
  have c2 := h.c2
  have f2 := h.fz 2
  have H : Hid (InV w F p a n c bs m 0) := h
  clear h
  go_enter Tryz.func66, Tryz.ntmps66
  go_wp2
  go_end0
  exact ⟨rfl, H.out.put2 x, (Kept.refl (fun k => k = p) w).setCell (p := ⟨p, 2, none⟩) (.inl rfl) _⟩

set_option maxHeartbeats 4000000 in
set_option maxRecDepth 100000 in
theorem inBytes_any (F : Nat → Prop) (p : Nat) (xs : List Nat) (e n : Int) (w : World) (h : Il w F p xs e) :
    Calls Tryz.prog 55 #[.pointer (some ⟨p, 0, none⟩), .int .i64 n] w fun ex w' => ∃ v, ex = .returned v ∧ w'.ownsRow w.heap.size 5 1 v (tkXs xs e n).length ((tkXs xs e n).map bv) ∧ IlDid F p (tkRest xs e n) (tkE xs e n) w w' := by
  obtain ⟨a, N, c, bs, m, hv, hxs, hN⟩ := h
  have hle := hv.le
  have hbl := hv.bs.len
  have hxl : xs.length = N - m := by rw [hxs, List.length_drop]; omega
  have c0 := hv.c0
  have c1 := hv.c1
  have c2 := hv.c2
  have hwr : IntKind.i64.wrap ((N : Int) - m) = (N : Int) - m := by rw [IntKind.wrap_i64]; omega
  by_cases he : e = 0
  · subst he
    by_cases h0 : n < 0
    · have k1 : tkOk xs 0 n = false := by simp [tkOk]; omega
      rw [show tkXs xs 0 n = [] by simp [tkXs, k1], show tkRest xs 0 n = xs by simp [tkRest, k1], show tkE xs 0 n = 20 by simp [tkE, k1]]
      have cf := fun w0 (h : InV w0 F p a N c bs m 0) => failIn_any F p a N c bs m 20 w0 h
      have HV : Hid (InV w F p a N c bs m 0) := hv
      have HX : Hid (xs = bs.drop m) := hxs
      clear hv k1 hxs hxl hbl
      go_enter Tryz.func55, Tryz.ntmps55
      go_wp2
      go_quiet (fail)
      go_wp2_with (go_at_call 66; refine (cf _ (HV.out.drewN _)).mono ?_; rintro ex w2 ⟨rfl, hi2, k2⟩)
      go_ret
      exact ⟨_, rfl, World.ownsRow_nil _ _ _ _, ⟨a, N, c, bs, m, hi2, HX.out, hN⟩, ((Kept.refl (fun k => k = p) w).drewN _).trans k2 (fun _ h => .inl h), hi2.c0.trans HV.out.c0.symm⟩
    · by_cases h1 : (N : Int) - m < n
      · have k1 : tkOk xs 0 n = false := by simp [tkOk]; omega
        rw [show tkXs xs 0 n = [] by simp [tkXs, k1], show tkRest xs 0 n = xs by simp [tkRest, k1], show tkE xs 0 n = 20 by simp [tkE, k1]]
        have cf := fun w0 (h : InV w0 F p a N c bs m 0) => failIn_any F p a N c bs m 20 w0 h
        have HV : Hid (InV w F p a N c bs m 0) := hv
        have HX : Hid (xs = bs.drop m) := hxs
        clear hv k1 hxs hxl hbl
        go_enter Tryz.func55, Tryz.ntmps55
        go_wp2
        go_quiet (fail)
        go_wp2_with (go_at_call 66; refine (cf _ (HV.out.drewN _)).mono ?_; rintro ex w2 ⟨rfl, hi2, k2⟩)
        go_ret
        exact ⟨_, rfl, World.ownsRow_nil _ _ _ _, ⟨a, N, c, bs, m, hi2, HX.out, hN⟩, ((Kept.refl (fun k => k = p) w).drewN _).trans k2 (fun _ h => .inl h), hi2.c0.trans HV.out.c0.symm⟩
      · have k1 : tkOk xs 0 n = true := by simp [tkOk]; omega
        rw [show tkXs xs 0 n = xs.take n.toNat by simp [tkXs, k1], show tkRest xs 0 n = xs.drop n.toNat by simp [tkRest, k1], show tkE xs 0 n = 0 by simp [tkE, k1]]
        obtain ⟨k, rfl⟩ : ∃ k : Nat, n = k := ⟨n.toNat, by omega⟩
        rw [Int.toNat_natCast]
        have hkm : m + k ≤ N := by omega
        obtain ⟨i0, hi, hz0, hz1, hz2⟩ := info_parts Tryz.info5
        have hxt : (xs.take k).length = k := by rw [List.length_take]; omega
        rw [hxt]
        have HV : Hid (InV w F p a N c bs m 0) := hv
        have HX : Hid (xs = bs.drop m) := hxs
        have HXL : Hid (xs.length = N - m) := hxl
        clear hv k1 hxs hxl hbl hxt
        go_enter Tryz.func55, Tryz.ntmps55
        go_wp2
        go_quiet (fail)
        go_wp2
        go_loopw [5, 6] (fun l i wr => ∃ j : Nat, j ≤ k ∧ i = .int .i64 j ∧ wr.ownsRow w.heap.size 5 1 l j ((xs.take j).map bv) ∧ Below w.heap.size w wr) (fun _ i _ => k - (intOf i).toNat)
        case atStart => exact ⟨0, by omega, rfl, World.ownsRow_nil _ _ _ _, (Kept.below0 ((Kept.refl No w).drewN _))⟩
        case round =>
          obtain ⟨j, hj, rfl, hown, hbel⟩ := hrel
          have hvr := HV.out.below hbel
          have d0 := hvr.c0
          have d1 := hvr.c1
          have d2 := hvr.c2
          have g1 := hvr.fz 1
          have HVR : Hid (InV wr F p a N c bs m 0) := hvr
          have HBEL : Hid (Below w.heap.size w wr) := hbel
          have hszr := hbel.size
          by_cases hlt : j < k
          · obtain ⟨b, o, hab, _, hc0⟩ := hvr.bs.at' (m + j) (by omega)
            subst hab
            obtain ⟨y, hy⟩ : ∃ y, y = bs.getD (m + j) 0 := ⟨_, rfl⟩
            have hc : wr.cell? ⟨b, o + (m + j), none⟩ = some (.int .u8 (y : Nat)) := by rw [hy]; exact hc0
            have hwm : IntKind.i64.wrap ((m : Int) + j) = (m : Int) + j := by rw [IntKind.wrap_i64]; omega
            have hbN : m + j < bs.length := by rw [HV.out.bs.len]; omega
            have hgx : xs[j]? = some y := by rw [HX.out, List.getElem?_drop, List.getElem?_eq_getElem hbN, hy]; simp [List.getD, hbN]
            have HST : Hid (xs.take (j + 1) = xs.take j ++ [y]) := (show xs.take (j + 1) = xs.take j ++ [y] by rw [List.take_add_one, hgx]; rfl)
            have ht1 : (m : Int) + j < N := by omega
            have ht0 : 0 ≤ (m : Int) + j := by omega
            have htn : ((m : Int) + j).toNat = m + j := by omega
            clear hbN hgx
            have HO : Hid (wr.ownsRow w.heap.size 5 1 u5 j ((xs.take j).map bv)) := hown
            clear hown hbel hvr hc0 hy c0 c1 c2
            go_wp2
            go_region_law (refine step_append_own rfl (.tmp 35) (.tmp 48) 22 rfl w.heap.size 5 i0 (.int .u8 0) 1 1 Tryz.underlying22 hi hz0 hz1 hz2 rfl (by decide) u5 _ _ rfl (((HO.out : World.ownsRow wr.drew _ 5 1 u5 _ _)).alloc _) ⟨wr.heap.size, 0, none⟩ 1 1 [.int .u8 y] rfl rfl (cell_one_new wr _ _) (one_one _ _) (by unfold maxLen; omega) (by omega) (by simp; omega) ?_; intro v1 w1 own1 grow1 _ _; have bel1 : Below w.heap.size w w1 := ((HBEL.out.drew).alloc (by simp; omega) _).grown grow1 (by simp; omega) (fun g hg => (HO.out.lt g hg).1); clear grow1)
            all_goals
              go_wp2
              go_roundw
              case rel =>
                refine ⟨j + 1, by omega, by go_num, ?_, bel1⟩
                rw [HST.out, List.map_append]; exact own1
              case measure => simp [intOf]; omega
          · have hjk : j = k := by omega
            subst hjk
            have HO : Hid (wr.ownsRow w.heap.size 5 1 u5 j ((xs.take j).map bv)) := hown
            have hwm : wrap64 ((m : Int) + j) = (m : Int) + j := by unfold wrap64; omega
            clear hown hbel hvr c0 c1 c2
            go_wp2
            go_ret
            have kp : Kept (fun k => k = p) wr (wr.setCell ⟨p, 1, none⟩ (.int .i64 ((m : Int) + j))) := (Kept.refl (fun k => k = p) wr).setCell (p := ⟨p, 1, none⟩) (.inl rfl) _
            have hfin : InV (wr.setCell ⟨p, 1, none⟩ (.int .i64 ((m : Int) + j))) F p a N c bs (m + j) 0 := by
              have := HVR.out.put1 (m + j) hkm
              simpa using this
            refine ⟨u5, rfl, kp.owns HO.out (fun g hg e => ?_), ⟨a, N, c, bs, m + j, hfin, ?_, hN⟩, (Kept.of_below (F := fun k => k = p) HBEL.out).trans kp (fun _ h => .inl h), hfin.c0.trans HV.out.c0.symm⟩
            · have h1 := (HO.out.lt g hg).1
              have h2 := HV.out.plt
              omega
            · rw [HX.out, List.drop_drop]
  · have he2 : (e == 0) = false := by simpa using he
    have k1 : tkOk xs e n = false := by simp [tkOk, he]
    rw [show tkXs xs e n = [] by simp [tkXs, k1], show tkRest xs e n = xs by simp [tkRest, k1], show tkE xs e n = e by simp [tkE, he]]
    have HV : Hid (InV w F p a N c bs m e) := hv
    have HX : Hid (xs = bs.drop m) := hxs
    clear hv k1 hxs hxl hbl he
    go_enter Tryz.func55, Tryz.ntmps55
    go_wp2
    go_ret
    exact ⟨_, rfl, World.ownsRow_nil _ _ _ _, ⟨a, N, c, bs, m, HV.out, HX.out, hN⟩, Kept.refl _ _, rfl⟩

end Go.Proofs.YtkmpgcgdamcikaaGreatDoor

namespace Go.Proofs.YtkmpgcgdamcikaaGreatDoor
open Go.RowKit
set_option linter.unusedVariables false
set_option maxRecDepth 100000

theorem Il.lt {w : World} {F : Nat → Prop} {p : Nat} {xs : List Nat} {e : Int} (h : Il w F p xs e) : ∀ x ∈ xs, x < 256 := by
  obtain ⟨a, n, c, bs, m, hv, hx, _⟩ := h
  intro x hm
  rw [hx] at hm
  exact hv.bs.lt x (List.mem_of_mem_drop hm)
theorem Il.kept {w w' : World} {F G : Nat → Prop} {p : Nat} {xs : List Nat} {e : Int} (h : Il w F p xs e) (k : Kept G w w') (hd : ∀ b, F b → ¬ G b) : Il w' F p xs e := by
  obtain ⟨a, n, c, bs, m, hv, hx, hn⟩ := h
  exact ⟨a, n, c, bs, m, hv.kept k hd, hx, hn⟩
theorem Il.drewN {w : World} {F : Nat → Prop} {p : Nat} {xs : List Nat} {e : Int} (h : Il w F p xs e) (n : Nat) : Il (w.drewN n) F p xs e := h.kept ((Kept.refl No w).drewN n) (fun _ _ h => h)
theorem Il.drew {w : World} {F : Nat → Prop} {p : Nat} {xs : List Nat} {e : Int} (h : Il w F p xs e) : Il w.drew F p xs e := h.kept ((Kept.refl No w).drew) (fun _ _ h => h)
theorem IlDid.ahead {F : Nat → Prop} {p : Nat} {xs : List Nat} {e : Int} {w0 w w1 : World} (h : IlDid F p xs e w w1) (hk : Kept (fun k => k = p) w0 w) (hc : w.cell? ⟨p, 0, none⟩ = w0.cell? ⟨p, 0, none⟩) : IlDid F p xs e w0 w1 := ⟨h.1, hk.trans h.2.1 (fun _ h => .inl h), h.2.2.trans hc⟩

set_option maxHeartbeats 1000000 in
theorem inNumber_any (F : Nat → Prop) (p : Nat) (xs : List Nat) (e : Int) (width : Nat) (w : World) (h : Il w F p xs e) (hw : width ≤ 8) :
    Calls Tryz.prog 39 #[.pointer (some ⟨p, 0, none⟩), .int .i64 width] w fun ex w' => ex = .returned (.int .u64 (rdN xs e width)) ∧ IlDid F p (tkRest xs e width) (tkE xs e width) w w' := by
  have cc := inBytes_any F p xs e width w h
  have hlt := tkXs_lt e width h.lt
  clear h
  have hlen : (tkXs xs e width).length ≤ 8 := by have := tkXs_len xs e width; omega
  obtain ⟨ys, hys⟩ : ∃ ys, ys = tkXs xs e width := ⟨_, rfl⟩
  have HR : Hid (rdN xs e width = (val ys : Int)) := (show rdN xs e width = (val ys : Int) by rw [hys]; rfl)
  rw [← hys] at cc hlen hlt
  clear hys
  have HLT : Hid (∀ x ∈ ys, x < 256) := hlt
  clear hlt
  go_enter Tryz.func39, Tryz.ntmps39
  go_wp2_with (go_at_call 55; refine cc.mono ?_; rintro ex w1 ⟨v, rfl, own, hd⟩; obtain ⟨a, c, rfl, hB⟩ := Bs.of_owns own HLT.out; have HB : Hid (Bs w1 (fun g => (Value.slice a ys.length c).ownBlock = some g) a ys.length c ys) := hB; have HD : Hid (IlDid F p (tkRest xs e width) (tkE xs e width) w w1) := hd; clear hB hd own)
  obtain ⟨k, hk⟩ : ∃ k, k = ys.length := ⟨_, rfl⟩
  rw [← hk] at hlen HB
  rw [← hk]
  have HK : Hid (k = ys.length) := hk
  clear hk cc
  go_loop [6, 7] (fun x i => ∃ j : Nat, j ≤ k ∧ i = .int .i64 j ∧ x = .int .u64 (val (ys.take j) : Nat)) (fun _ i => k - (intOf i).toNat)
  case atStart => exact ⟨0, by omega, rfl, rfl⟩
  case round =>
    obtain ⟨j, hj, rfl, rfl⟩ := hrel
    by_cases hlt : j < k
    · obtain ⟨b, o, rfl, _, hc0⟩ := HB.out.at' j hlt
      have hlen2 : j < ys.length := by rw [← HK.out]; exact hlt
      obtain ⟨y, hy⟩ : ∃ y, y = ys.getD j 0 := ⟨_, rfl⟩
      have hc : w1.cell? ⟨b, o + j, none⟩ = some (.int .u8 (y : Nat)) := by rw [hy]; exact hc0
      have hv := val_lt ys HLT.out j (by omega)
      have hv2 := val_take ys j hlen2
      rw [← hy] at hv2
      obtain ⟨X, hX⟩ : ∃ X, X = val (ys.take j) := ⟨_, rfl⟩
      have hy2 : y < 256 := by
        have : ys.getD j 0 = ys[j] := by simp [List.getD, hlen2]
        rw [hy, this]; exact HLT.out _ (List.getElem_mem _)
      have hXl : X < 72057594037927936 := by
        rw [hX]; exact Nat.lt_of_lt_of_le hv (Nat.le_trans (Nat.pow_le_pow_right (by decide) (show j ≤ 7 by omega)) (by decide))
      rw [← hX]
      have HV2 : Hid (val (ys.take (j + 1)) = X * 256 + y) := by rw [hX]; exact hv2
      clear hc0 hv hv2 hy hX
      go_wp2
      go_round
      case rel =>
        refine ⟨j + 1, by omega, by go_num, ?_⟩
        rw [HV2.out]; simp
      case measure => simp [intOf]; omega
    · have hjk : j = k := by omega
      subst hjk
      rw [List.take_of_length_le (by rw [HK.out]; exact Nat.le_refl _)]
      go_wp2
      go_ret
      exact ⟨by rw [HR.out]; rfl, HD.out⟩

theorem inU8_any (F : Nat → Prop) (p : Nat) (xs : List Nat) (e : Int) (w : World) (h : Il w F p xs e) :
    Calls Tryz.prog 40 #[.pointer (some ⟨p, 0, none⟩)] w fun ex w' => ex = .returned (.int .i64 (rdN xs e 1)) ∧ IlDid F p (tkRest xs e 1) (tkE xs e 1) w w' := by
  have cc : Calls Tryz.prog 39 #[.pointer (some ⟨p, 0, none⟩), .int .i64 1] w fun ex w' => ex = .returned (.int .u64 (rdN xs e 1)) ∧ IlDid F p (tkRest xs e 1) (tkE xs e 1) w w' := inNumber_any F p xs e 1 w h (by omega)
  have hb := rdN_lt e 1 h.lt
  obtain ⟨x, hx⟩ : ∃ x, x = rdN xs e 1 := ⟨_, rfl⟩
  rw [← hx] at cc hb ⊢
  have e1 : IntKind.i64.wrap x = x := by rw [IntKind.wrap_i64]; omega
  clear h hb hx
  go_enter Tryz.func40, Tryz.ntmps40
  go_wp2_with (go_at_call 39; refine cc.mono ?_; rintro ex w1 ⟨rfl, hd⟩)
  go_ret
  exact ⟨rfl, hd⟩

theorem inU32_any (F : Nat → Prop) (p : Nat) (xs : List Nat) (e : Int) (w : World) (h : Il w F p xs e) :
    Calls Tryz.prog 20 #[.pointer (some ⟨p, 0, none⟩)] w fun ex w' => ex = .returned (.int .i64 (rdN xs e 4)) ∧ IlDid F p (tkRest xs e 4) (tkE xs e 4) w w' := by
  have cc : Calls Tryz.prog 39 #[.pointer (some ⟨p, 0, none⟩), .int .i64 4] w fun ex w' => ex = .returned (.int .u64 (rdN xs e 4)) ∧ IlDid F p (tkRest xs e 4) (tkE xs e 4) w w' := inNumber_any F p xs e 4 w h (by omega)
  have hb := rdN_lt e 4 h.lt
  obtain ⟨x, hx⟩ : ∃ x, x = rdN xs e 4 := ⟨_, rfl⟩
  rw [← hx] at cc hb ⊢
  have e1 : IntKind.i64.wrap x = x := by rw [IntKind.wrap_i64]; omega
  clear h hb hx
  go_enter Tryz.func20, Tryz.ntmps20
  go_wp2_with (go_at_call 39; refine cc.mono ?_; rintro ex w1 ⟨rfl, hd⟩)
  go_ret
  exact ⟨rfl, hd⟩

set_option maxHeartbeats 1000000 in
theorem inDone_any (F : Nat → Prop) (p : Nat) (xs : List Nat) (e : Int) (w : World) (h : Il w F p xs e) :
    Calls Tryz.prog 22 #[.pointer (some ⟨p, 0, none⟩)] w fun ex w' => ex = .returned (.int .i64 (rdDone xs e)) ∧ ∃ n, w' = w.drewN n := by
  obtain ⟨a, n, c, bs, m, hv, hx, hN⟩ := h
  have hle := hv.le
  have hxl : xs.length = n - m := by rw [hx, List.length_drop, hv.bs.len]
  have c0 := hv.c0
  have c1 := hv.c1
  have c2 := hv.c2
  clear hv hx
  by_cases he : e = 0
  · subst he
    by_cases hn : m < n
    · have hx : xs ≠ [] := by rintro rfl; simp at hxl; omega
      rw [show rdDone xs 0 = 20 from by simp [rdDone, hx]]
      have hd : decide ((m : Int) < n) = true := by simp; omega
      clear hx hxl
      go_enter Tryz.func22, Tryz.ntmps22
      go_wp2
      go_quiet (fail)
      go_wp2
      go_ret
      exact ⟨rfl, _, rfl⟩
    · have hx : xs = [] := List.eq_nil_of_length_eq_zero (by omega)
      rw [show rdDone xs 0 = 0 from by simp [rdDone, hx]]
      have hd : decide ((m : Int) < n) = false := by simp; omega
      clear hx hxl
      go_enter Tryz.func22, Tryz.ntmps22
      go_wp2
      go_quiet (fail)
      go_wp2
      go_ret
      exact ⟨rfl, _, rfl⟩
  · have he2 : (e == 0) = false := by simpa using he
    rw [show rdDone xs e = e from if_pos he]
    clear hxl he
    go_enter Tryz.func22, Tryz.ntmps22
    go_wp2
    go_quiet (fail)
    go_wp2
    go_ret
    exact ⟨rfl, _, rfl⟩

end Go.Proofs.YtkmpgcgdamcikaaGreatDoor

namespace Go.Proofs.YtkmpgcgdamcikaaGreatDoor
open Go.RowKit
set_option linter.unusedVariables false
set_option maxRecDepth 100000

def refBit (S b : Nat) : Nat := (S / 2) ^^^ (if S % 2 ≠ b then 3988292384 else 0)
def refBits : Nat → Nat → Nat → Nat
  | 0, s, _ => s
  | k + 1, s, x => refBit (refBits k s x) (x / 2 ^ k % 2)
theorem xor_div2 (a b : Nat) : (a ^^^ b) / 2 = (a / 2) ^^^ (b / 2) := by
  have := Nat.shiftRight_xor_distrib (a := a) (b := b) (i := 1)
  simpa [Nat.shiftRight_eq_div_pow] using this
theorem xor_mod2 (a b : Nat) : (a ^^^ b) % 2 = (a % 2 + b % 2) % 2 := by
  have h := Nat.testBit_xor a b 0
  rw [Nat.testBit_zero, Nat.testBit_zero, Nat.testBit_zero] at h
  have ha : a % 2 = 0 ∨ a % 2 = 1 := by omega
  have hb : b % 2 = 0 ∨ b % 2 = 1 := by omega
  have hc : (a ^^^ b) % 2 = 0 ∨ (a ^^^ b) % 2 = 1 := by omega
  rcases ha with ha | ha <;> rcases hb with hb | hb <;> rcases hc with hc | hc <;> rw [ha, hb, hc] at h <;> simp at h <;> omega
theorem ref_crc (s x : Nat) : ∀ k, crcBits k (s ^^^ x) = refBits k s x ^^^ (x / 2 ^ k) := by
  intro k
  induction k with
  | zero => simp [crcBits, refBits]
  | succ k ih =>
    show crcBit (crcBits k (s ^^^ x)) = refBit (refBits k s x) (x / 2 ^ k % 2) ^^^ (x / 2 ^ (k + 1))
    rw [ih]
    obtain ⟨S, hS⟩ : ∃ S, S = refBits k s x := ⟨_, rfl⟩
    obtain ⟨y, hy⟩ : ∃ y, y = x / 2 ^ k := ⟨_, rfl⟩
    rw [← hS, ← hy, show x / 2 ^ (k + 1) = y / 2 from by rw [hy, Nat.pow_succ, Nat.div_div_eq_div_mul]]
    unfold crcBit refBit
    rw [xor_div2, xor_mod2]
    have h1 : 3988292384 * ((S % 2 + y % 2) % 2) = if S % 2 ≠ y % 2 then 3988292384 else 0 := by
      by_cases h : S % 2 ≠ y % 2
      · rw [if_pos h, show (S % 2 + y % 2) % 2 = 1 from by omega]
      · rw [if_neg h, show (S % 2 + y % 2) % 2 = 0 from by omega]
    rw [h1, Nat.xor_assoc, Nat.xor_comm (y / 2), ← Nat.xor_assoc]
theorem ref_byte (s x : Nat) (hx : x < 256) : refBits 8 s x = crcByte s x := by
  have := ref_crc s x 8
  rw [show x / 2 ^ 8 = 0 from by omega, Nat.xor_zero] at this
  exact this.symm
theorem refBit_lt {S b : Nat} (h : S < 4294967296) : refBit S b < 4294967296 := by
  unfold refBit
  refine xor_lt (by omega) ?_
  split <;> omega
theorem refBits_lt {s x : Nat} (h : s < 4294967296) : ∀ k, refBits k s x < 4294967296
  | 0 => h
  | k + 1 => refBit_lt (refBits_lt h k)

set_option maxHeartbeats 2000000 in
theorem refSum_any (F : Nat → Prop) (a : Option Addr) (n c : Nat) (xs : List Nat) (w : World) (h : Bs w F a n c xs) :
    Calls Tryz.prog 54 #[.slice a n c] w fun ex w' => ex = .returned (.int .u32 (crc xs : Nat)) ∧ w' = w := by
  have hl := h.len
  have HB : Hid (Bs w F a n c xs) := h
  have HL : Hid (xs.length = n) := hl
  have hcap := h.cap
  have hmx := h.max
  clear h hl
  go_enter Tryz.func54, Tryz.ntmps54
  go_wp2
  go_loop [3, 4] (fun r i => ∃ k : Nat, k ≤ n ∧ i = .int .i64 k ∧ r = .int .u32 ((xs.take k).foldl crcByte 4294967295 : Nat)) (fun _ i => n - (intOf i).toNat)
  case atStart => exact ⟨0, by omega, rfl, rfl⟩
  case round =>
    obtain ⟨k, hk, rfl, rfl⟩ := hrel
    by_cases hlt : k < n
    · obtain ⟨b, o, rfl, _, hc1⟩ := HB.out.at' k hlt
      obtain ⟨x, hxx⟩ : ∃ x, x = xs.getD k 0 := ⟨_, rfl⟩
      have d1 : w.cell? ⟨b, o + k, none⟩ = some (.int .u8 (x : Nat)) := by rw [hxx]; exact hc1
      have hR := crcReg_lt xs HB.out.lt k
      have hst := crcReg_step xs k (by rw [HL.out]; exact hlt)
      rw [← hxx] at hst
      obtain ⟨R, hRR⟩ : ∃ R, R = (xs.take k).foldl crcByte 4294967295 := ⟨_, rfl⟩
      rw [← hRR] at hR hst ⊢
      have hx2 : x < 256 := by
        have : xs.getD k 0 = xs[k]'(by rw [HL.out]; exact hlt) := by simp [List.getD, show k < xs.length by rw [HL.out]; exact hlt]
        rw [hxx, this]; exact HB.out.lt _ (List.getElem_mem _)
      have HST : Hid ((xs.take (k + 1)).foldl crcByte 4294967295 = crcByte R x) := hst
      have HRX : Hid (R < 4294967296 ∧ x < 256) := ⟨hR, hx2⟩
      clear hst hc1 hxx hRR hR
      go_wp2
      go_loop [3, 5] (fun r j => ∃ q : Nat, q ≤ 8 ∧ j = .int .i64 q ∧ r = .int .u32 (refBits q R x : Nat)) (fun _ j => 8 - (intOf j).toNat)
      case atStart => exact ⟨0, by omega, rfl, rfl⟩
      case round =>
        obtain ⟨q, hq, rfl, rfl⟩ := hrel
        by_cases hq8 : q < 8
        · have hZ := refBits_lt (x := x) HRX.out.1 q
          obtain ⟨Z, hZZ⟩ : ∃ Z, Z = refBits q R x := ⟨_, rfl⟩
          have HZ : Hid (refBits (q + 1) R x = refBit Z (x / 2 ^ q % 2)) := by show refBit (refBits q R x) (x / 2 ^ q % 2) = _; rw [← hZZ]
          rw [← hZZ] at hZ ⊢
          obtain ⟨y, hy⟩ : ∃ y, y = x / 2 ^ q := ⟨_, rfl⟩
          have e1 : (x : Int) / 2 ^ q = (y : Int) := by rw [hy]; simp
          have hy2 : y < 256 := by rw [hy]; exact Nat.lt_of_le_of_lt (Nat.div_le_self _ _) hx2
          rw [← hy] at HZ
          have e2 : IntKind.u32.wrap (y : Int) = (y : Int) := by rw [IntKind.wrap_u32]; omega
          clear hZZ hy
          have e4 : bits .xor .u32 ((Z : Int) / 2) 3988292384 = (((Z / 2) ^^^ 3988292384 : Nat) : Int) := u32_xor_nat (Z / 2) 3988292384 (by omega) (by decide)
          by_cases hun : Z % 2 = y % 2
          · have hb : ((Z : Int) % 2 == (y : Int) % 2) = true := by simp; omega
            have hb2 : ((Z : Int) % 2 != (y : Int) % 2) = false := by simp; omega
            have HUN : Hid (Z % 2 = y % 2) := hun
            clear hun
            go_wp2
            go_round
            case rel =>
              refine ⟨q + 1, by omega, by go_num, ?_⟩
              have hun := HUN.out
              rw [HZ.out]
              unfold refBit
              rw [if_neg (by omega), Nat.xor_zero]
              first | rfl | (simp; done)
            case measure => simp [intOf]; omega
          · have hb : ((Z : Int) % 2 == (y : Int) % 2) = false := by simp; omega
            have hb2 : ((Z : Int) % 2 != (y : Int) % 2) = true := by simp; omega
            have HUN : Hid (Z % 2 ≠ y % 2) := hun
            clear hun
            go_wp2
            go_round
            case rel =>
              refine ⟨q + 1, by omega, by go_num, ?_⟩
              rw [HZ.out]
              unfold refBit
              rw [if_pos HUN.out]
            case measure => simp [intOf]; omega
        · have hq8 : q = 8 := by omega
          subst hq8
          have HC : Hid (refBits 8 R x = crcByte R x) := ref_byte R x HRX.out.2
          go_wp2
          go_round
          case rel =>
            refine ⟨k + 1, by omega, by go_num, ?_⟩
            rw [HST.out, HC.out]
          case measure => simp [intOf]; omega
    · have hkn : k = n := by omega
      subst hkn
      have hR := crcReg_lt xs HB.out.lt k
      have e1 : xs.take k = xs := List.take_of_length_le (by rw [HL.out]; omega)
      rw [e1] at hR ⊢
      have hc : ((crc xs : Nat) : Int) = 4294967295 - ((xs.foldl crcByte 4294967295 : Nat) : Int) := by unfold crc crcReg; omega
      obtain ⟨R, hRR⟩ : ∃ R, R = xs.foldl crcByte 4294967295 := ⟨_, rfl⟩
      rw [← hRR] at hR hc ⊢
      have HC : Hid (((crc xs : Nat) : Int) = 4294967295 - (R : Int)) := hc
      have e2 : IntKind.u32.wrap (4294967295 - (R : Int)) = 4294967295 - (R : Int) := by rw [IntKind.wrap_u32]; omega
      clear hc hRR e1
      go_wp2
      go_ret
      refine ⟨?_, rfl⟩
      rw [HC.out]
      first | rfl | (simp; omega)

/-- the document's bytes of a number -/
theorem number_ref_any (x n : Nat) (w : World) (hx : x < 18446744073709551616) (hn : n ≤ 8) :
    Calls Tryz.prog 53 #[.int .u64 x, .int .i64 n] w fun ex w' => ∃ v, ex = .returned v ∧ w'.ownsRow w.heap.size 5 1 v n ((be x n).map bv) ∧ Below w.heap.size w w' := by
  obtain ⟨i0, hi, hz0, hz1, hz2⟩ := info_parts Tryz.info5
  go_enter Tryz.func53, Tryz.ntmps53
  go_wp2
  go_loopw [5, 6] (fun l q wr => ∃ k : Nat, k ≤ n ∧ q = .int .i64 ((n : Int) - 1 - k) ∧ wr.ownsRow w.heap.size 5 1 l k (((be x n).take k).map bv) ∧ Below w.heap.size w wr) (fun _ i _ => (intOf i + 1).toNat)
  case atStart => exact ⟨0, by omega, by go_num, World.ownsRow_nil _ _ _ _, Below.refl _ _⟩
  case round =>
    obtain ⟨k, hk, rfl, hown, hbel⟩ := hrel
    have HOW : Hid (wr.ownsRow w.heap.size 5 1 u5 k (((be x n).take k).map bv)) := hown
    have HBE : Hid (Below w.heap.size w wr) := hbel
    have hs := hbel.size
    by_cases hlt : k < n
    · obtain ⟨s, hs2⟩ : ∃ s : Nat, s = 8 * (n - 1 - k) := ⟨_, rfl⟩
      obtain ⟨y, hy⟩ : ∃ y : Nat, y = x / 2 ^ s % 256 := ⟨_, rfl⟩
      have e1 : IntKind.i64.wrap (8 * ((n : Int) - 1 - k)) = (s : Int) := by rw [IntKind.wrap_i64]; omega
      have e1' : 8 * ((n : Int) - 1 - k) = (s : Int) := by omega
      have e3 : IntKind.u8.wrap ((x : Int) / 2 ^ min s 64) = (y : Int) := by rw [hy, IntKind.wrap_u8, Nat.min_eq_left (by omega)]; simp
      have e3' : (x : Int) / 2 ^ s % 256 = (y : Int) := by rw [hy]; simp
      have HT : Hid ((be x n).take (k + 1) = (be x n).take k ++ [y]) := by rw [hy, hs2]; exact be_take x n k hlt
      clear hown hbel hs2 hy
      go_wp2_with (at_builtin; (refine wpList_append_own _ rfl _ _ 22 rfl w.heap.size 5 i0 (.int .u8 0) 1 1 Tryz.underlying22 hi hz0 hz1 hz2 rfl (by decide) _ _ _ rfl (HOW.out.alloc _) ⟨wr.heap.size, 0, none⟩ 1 1 [.int .u8 y] rfl rfl (cell_one_new _ _ _) (one_one _ _) (by unfold maxLen; omega) (by omega) (by simp; omega) ?_); intro v1 w1 own1 grow1 _)
      have hb1 : Below w.heap.size w w1 := (HBE.out.alloc hs _).grown grow1 (by simp; omega) (fun j hj => (HOW.out.lt j hj).1)
      have own2 : w1.ownsRow w.heap.size 5 1 v1 (k + 1) (((be x n).take (k + 1)).map bv) := by rw [HT.out, List.map_append]; exact own1
      clear grow1 own1
      go_wp2
      go_roundw
      case rel => exact ⟨k + 1, by omega, by go_num, own2, hb1⟩
      case measure => simp [intOf]; omega
    · have hkn : k = n := by omega
      subst hkn
      rw [be_all _ _ _ (Nat.le_refl _)] at hown
      clear HOW
      have HOW : Hid (wr.ownsRow w.heap.size 5 1 u5 k ((be x k).map bv)) := hown
      clear hown hbel
      go_wp2
      go_ret
      exact ⟨_, rfl, HOW.out, HBE.out⟩

end Go.Proofs.YtkmpgcgdamcikaaGreatDoor

namespace Go.Proofs.YtkmpgcgdamcikaaGreatDoor
open Go.RowKit
set_option linter.unusedVariables false
set_option maxRecDepth 100000

theorem lit4_own (w : World) (kind : Nat) : (w.alloc (.cells #[.int .u8 66, .int .u8 75, .int .u8 kind, .int .u8 1] 5)).ownsRow w.heap.size 5 1 (.slice (some ⟨w.heap.size, 0, none⟩) 4 4) 4 (([66, 75, kind, 1] : List Nat).map bv) :=
  ⟨rfl, .inr ⟨w.heap.size, 4, _, rfl, Nat.le_refl _, heap_alloc_new _ _, Nat.le_refl _, by unfold maxLen; omega, rfl, rfl⟩⟩
theorem le_take (S j : Nat) : le S (j + 1) = le S j ++ [S / 2 ^ (8 * j) % 256] := by
  rw [le_succ, show (256 : Nat) ^ j = 2 ^ (8 * j) from by rw [Nat.pow_mul]]

set_option maxHeartbeats 4000000 in
theorem refSeal_any (G : Nat → Prop) (kind : Nat) (a : Option Addr) (n c : Nat) (xs : List Nat) (w : World) (hk : kind < 256) (h : Bs w G a n c xs) :
    Calls Tryz.prog 38 #[.int .u8 kind, .slice a n c] w fun ex w' => ∃ a' n' c', ex = .returned (.tuple #[.slice a' n' c', .int .i64 (sealE xs)]) ∧ w'.ownsRow w.heap.size 5 1 (.slice a' n' c') (sealX kind xs).length ((sealX kind xs).map bv) ∧ Below w.heap.size w w' := by
  obtain ⟨i0, hi, hz0, hz1, hz2⟩ := info_parts Tryz.info5
  have hl := h.len
  have HL : Hid (xs.length = n) := hl
  have HB : Hid (Bs w G a n c xs) := h
  by_cases hn : 4194304 < n
  · rw [show sealX kind xs = [] from if_pos (by omega), show sealE xs = 1 from if_pos (by omega)]
    clear h hl
    go_enter Tryz.func38, Tryz.ntmps38
    go_wp2
    go_ret2
    exact ⟨none, 0, 0, rfl, World.ownsRow_nil _ _ _ _, Below.refl _ _⟩
  · have e1 : sealX kind xs = sealed kind xs := if_neg (by omega)
    have e2 : sealE xs = 0 := if_neg (by omega)
    rw [e1, e2]
    have HO1 : Hid ((w.alloc (.cells #[.int .u8 66, .int .u8 75, .int .u8 kind, .int .u8 1] 5)).ownsRow w.heap.size 5 1 (.slice (some ⟨w.heap.size, 0, none⟩) 4 4) 4 (([66, 75, kind, 1] : List Nat).map bv)) := lit4_own w kind
    have HBL1 : Hid (Below w.heap.size w (w.alloc (.cells #[.int .u8 66, .int .u8 75, .int .u8 kind, .int .u8 1] 5))) := (Below.refl _ _).alloc (Nat.le_refl _) _
    have hs1 : (w.alloc (.cells #[.int .u8 66, .int .u8 75, .int .u8 kind, .int .u8 1] 5)).heap.size = w.heap.size + 1 := size_alloc _ _
    have HS1 : Hid ((w.alloc (.cells #[.int .u8 66, .int .u8 75, .int .u8 kind, .int .u8 1] 5)).heap.size = w.heap.size + 1) := hs1
    have c53 := number_ref_any n 4 (w.alloc (.cells #[.int .u8 66, .int .u8 75, .int .u8 kind, .int .u8 1] 5)) (by omega) (by omega)
    have e3 : IntKind.u64.wrap (n : Int) = (n : Int) := by rw [IntKind.wrap_u64]; omega
    clear e1 e2 h hl hs1
    go_enter Tryz.func38, Tryz.ntmps38
    go_upto_region 4 with fail
    go_cut [6] (fun out wx => wx.ownsRow w.heap.size 5 1 out 8 (([66, 75, kind, 1] ++ be n 4).map bv) ∧ Below w.heap.size w wx)
    case first =>
      go_wp2_with (first | (go_at_call 53; refine c53.mono ?_; rintro ex w2 ⟨v2, rfl, own2, bel2⟩; obtain ⟨g2, k2, hv2, hB2⟩ := Bs.of_owns (w := w2) (base := (w.alloc (.cells #[.int .u8 66, .int .u8 75, .int .u8 kind, .int .u8 1] 5)).heap.size) (e := 5) (v := v2) (xs := be n 4) (by rw [be_length]; exact own2) (be_lt _ _); rw [be_length] at hv2 hB2; obtain ⟨gb, go, rfl, _, _⟩ := hB2.at' 0 (by omega); subst hv2; have own3 : w2.ownsRow w.heap.size 5 1 (.slice (some ⟨w.heap.size, 0, none⟩) 4 4) 4 (([66, 75, kind, 1] : List Nat).map bv) := (Kept.of_below (F := No) bel2).owns HO1.out (fun _ _ h => h); have hw2 : w.heap.size ≤ w2.heap.size := (by have := bel2.size; rw [HS1.out] at this; omega); clear own2) | (at_builtin; refine wpList_append_own _ rfl _ _ 22 rfl w.heap.size 5 i0 (.int .u8 0) 1 1 Tryz.underlying22 hi hz0 hz1 hz2 rfl (by decide) _ _ _ rfl own3 ⟨gb, go, none⟩ 4 k2 ((be n 4).map bv) rfl (by rw [List.length_map, be_length]) hB2.news (bv_one _) (by unfold maxLen; omega) (by omega) hw2 ?_; intro v4 w4 own4 grow4 _))
      have bel4 : Below w.heap.size w w4 := (HBL1.out.trans (bel2.mono (by rw [HS1.out]; omega))).grown grow4 hw2 (fun j hj => (own3.lt j hj).1)
      rw [← List.map_append] at own4
      clear grow4 own3 hB2 bel2
      go_wp2
      go_meet
      case rel => exact ⟨own4, bel4⟩
    case rest =>
      obtain ⟨hown, hbel⟩ := hcut
      have OWN : Hid (wc.ownsRow w.heap.size 5 1 u6 8 (([66, 75, kind, 1] ++ be n 4).map bv)) := hown
      have BEL : Hid (Below w.heap.size w wc) := hbel
      have hsc := hbel.size
      clear hown hbel c53
      go_upto_region 5 with fail
      go_cut [6] (fun out wx => wx.ownsRow w.heap.size 5 1 out (8 + n) ((sealHead kind xs).map bv) ∧ Below w.heap.size w wx)
      case first =>
        have hsh : sealHead kind xs = ([66, 75, kind, 1] ++ be n 4) ++ xs := by unfold sealHead; rw [HL.out]
        have HSH : Hid (sealHead kind xs = ([66, 75, kind, 1] ++ be n 4) ++ xs) := hsh
        have HBc : Hid (Bs wc G a n c xs) := HB.out.below BEL.out
        clear hsh
        cases a with
        | none =>
          have hc0 := HB.out.nil rfl
          have hn0 : n = 0 := by have := HB.out.cap; omega
          have hx0 : xs = [] := List.eq_nil_of_length_eq_zero (by rw [HL.out]; exact hn0)
          subst hc0 hn0 hx0
          go_wp2_with (at_builtin; refine wpList_append_own_none rfl (.tmp 20) (.tmp 21) 22 rfl w.heap.size 5 i0 1 Tryz.underlying22 hi _ _ _ rfl OWN.out rfl ?_)
          go_meet
          case rel => exact ⟨by rw [HSH.out, List.append_nil]; exact OWN.out, BEL.out⟩
        | some ad =>
          go_wp2_with (at_builtin; refine wpList_append_own _ rfl _ _ 22 rfl w.heap.size 5 i0 (.int .u8 0) 1 1 Tryz.underlying22 hi hz0 hz1 hz2 rfl (by decide) _ _ _ rfl OWN.out ad n c (xs.map bv) rfl (by rw [List.length_map, HL.out]; omega) HBc.out.news (bv_one _) (by unfold maxLen; omega) (by omega) hsc ?_; intro v4 w4 own4 grow4 _)
          have bel4 : Below w.heap.size w w4 := BEL.out.grown grow4 hsc (fun j hj => (OWN.out.lt j hj).1)
          rw [← List.map_append, ← HSH.out] at own4
          clear grow4
          go_wp2
          go_meet
          case rel => exact ⟨own4, bel4⟩
      case rest =>
        obtain ⟨hown, hbel⟩ := hcut
        obtain ⟨Wc, hWc⟩ : ∃ Wc, Wc = wc := ⟨_, rfl⟩
        have hhl : (sealHead kind xs).length = 8 + n := by rw [sealHead_length, HL.out]; omega
        have hlt : ∀ x ∈ sealHead kind xs, x < 256 := fun x hx => sealed_lt hk HB.out.lt x (by unfold sealed; exact List.mem_append_left _ hx)
        obtain ⟨ga, gc, hv, hBs⟩ := Bs.of_owns (w := wc) (base := w.heap.size) (e := 5) (v := u6) (xs := sealHead kind xs) (by rw [hhl]; exact hown) hlt
        rw [hhl] at hv hBs
        subst hv
        have c15 := refSum_any _ ga (8 + n) gc (sealHead kind xs) wc hBs
        have OWN2 : Hid (wc.ownsRow w.heap.size 5 1 (.slice ga (8 + n) gc) (8 + n) ((sealHead kind xs).map bv)) := hown
        have BEL2 : Hid (Below w.heap.size w wc) := hbel
        have hS := crc_lt (sealHead kind xs)
        have HSE : Hid (sealed kind xs = sealHead kind xs ++ le (crc (sealHead kind xs)) 4) := rfl
        obtain ⟨hd, hhd⟩ : ∃ hd, hd = sealHead kind xs := ⟨_, rfl⟩
        have HHD : Hid (hd = sealHead kind xs) := hhd
        rw [← hhd] at c15 hS OWN2
        obtain ⟨S, hSS⟩ : ∃ S, S = crc hd := ⟨_, rfl⟩
        have HSS : Hid (S = crc hd) := hSS
        rw [← hSS] at c15 hS
        clear hown hbel hBs hlt hhl hhd hSS hWc
        go_upto_region 7 with (go_at_call 54; refine c15.mono ?_; rintro ex w5 ⟨rfl, hw⟩; obtain rfl := hw.symm)
        clear c15
        go_wp2
        go_loopw [6, 8] (fun out i wr => ∃ j : Nat, j ≤ 4 ∧ i = .int .i64 j ∧ wr.ownsRow w.heap.size 5 1 out (8 + n + j) ((hd ++ le S j).map bv) ∧ Below w.heap.size w wr) (fun _ i _ => 4 - (intOf i).toNat)
        case atStart => exact ⟨0, by omega, rfl, by simpa [le] using OWN2.out, BEL2.out⟩
        case round =>
          obtain ⟨j, hj, rfl, hown, hbel⟩ := hrel
          have HOW : Hid (wr.ownsRow w.heap.size 5 1 u6 (8 + n + j) ((hd ++ le S j).map bv)) := hown
          have HBE : Hid (Below w.heap.size w wr) := hbel
          have hs := hbel.size
          by_cases hj4 : j < 4
          · obtain ⟨s, hs2⟩ : ∃ s : Nat, s = 8 * j := ⟨_, rfl⟩
            obtain ⟨y, hy⟩ : ∃ y : Nat, y = S / 2 ^ s % 256 := ⟨_, rfl⟩
            have e5 : IntKind.i64.wrap (8 * (j : Int)) = (s : Int) := by rw [IntKind.wrap_i64]; omega
            have e5' : 8 * (j : Int) = (s : Int) := by omega
            have e6 : (S : Int) / 2 ^ s % 256 = (y : Int) := by rw [hy]; simp
            have e7 : IntKind.u8.wrap ((S : Int) / 2 ^ s) = (y : Int) := by rw [hy, IntKind.wrap_u8]; simp
            have hs32 : s < 32 := by omega
            have HT : Hid (le S (j + 1) = le S j ++ [y]) := by rw [hy, hs2]; exact le_take S j
            clear hown hbel hs2 hy
            go_wp2_with (at_builtin; refine wpList_append_own _ rfl _ _ 22 rfl w.heap.size 5 i0 (.int .u8 0) 1 1 Tryz.underlying22 hi hz0 hz1 hz2 rfl (by decide) _ _ _ rfl (HOW.out.alloc _) ⟨wr.heap.size, 0, none⟩ 1 1 [.int .u8 y] rfl rfl (cell_one_new _ _ _) (one_one _ _) (by unfold maxLen; omega) (by omega) (by simp; omega) ?_; intro v1 w1 own1 grow1 _)
            have hb1 : Below w.heap.size w w1 := (HBE.out.alloc hs _).grown grow1 (by simp; omega) (fun i hi => (HOW.out.lt i hi).1)
            have own2 : w1.ownsRow w.heap.size 5 1 v1 (8 + n + (j + 1)) ((hd ++ le S (j + 1)).map bv) := by rw [HT.out, ← List.append_assoc, List.map_append]; exact own1
            clear grow1 own1
            go_wp2
            go_roundw
            case rel => exact ⟨j + 1, by omega, by go_num, own2, hb1⟩
            case measure => simp [intOf]; omega
          · have hj4 : j = 4 := by omega
            subst hj4
            have hsl : (sealed kind xs).length = 8 + n + 4 := by rw [sealed_length, HL.out]; omega
            have hse : hd ++ le S 4 = sealed kind xs := by rw [HSE.out, ← HHD.out, ← HSS.out]
            rw [hse] at hown
            obtain ⟨a9, c9, rfl⟩ : ∃ a9 c9, u6 = .slice a9 (8 + n + 4) c9 := by
              rcases owns_cells hown with ⟨_, h0⟩ | ⟨g, cap, rfl, _⟩
              · omega
              · exact ⟨_, cap, rfl⟩
            have HOW9 : Hid (wr.ownsRow w.heap.size 5 1 (.slice a9 (8 + n + 4) c9) (sealed kind xs).length ((sealed kind xs).map bv)) := by rw [hsl]; exact hown
            clear hown hbel hse hsl HOW
            go_wp2
            go_ret2
            exact ⟨a9, _, c9, rfl, HOW9.out, HBE.out⟩

end Go.Proofs.YtkmpgcgdamcikaaGreatDoor

namespace Go.Proofs.YtkmpgcgdamcikaaGreatDoor
open Go.RowKit
set_option linter.unusedVariables false
set_option maxRecDepth 100000

set_option maxHeartbeats 4000000 in
theorem refUnseal_any (G : Nat → Prop) (kind : Nat) (a : Option Addr) (n c : Nat) (xs : List Nat) (w : World) (hk : kind < 256) (h : Bs w G a n c xs) :
    Calls Tryz.prog 19 #[.int .u8 kind, .slice a n c] w fun ex w' => ∃ a' n' c', ex = .returned (.tuple #[.slice a' n' c', .int .i64 (unsE kind xs)]) ∧ w'.ownsRow w.heap.size 5 1 (.slice a' n' c') (unsX kind xs).length ((unsX kind xs).map bv) ∧ Below w.heap.size w w' := by
  obtain ⟨i0, hi, hz0, hz1, hz2⟩ := info_parts Tryz.info5
  have hl := h.len
  have hcap := h.cap
  have hmx := h.max
  have HB : Hid (Bs w G a n c xs) := h
  have HL : Hid (xs.length = n) := hl
  clear h
  by_cases hn : 4194316 < n
  · have k1 : unsOk kind xs = false := by unfold unsOk; rw [decide_eq_false (show ¬ xs.length ≤ 4194316 by omega)]; simp
    rw [show unsX kind xs = [] from by simp [unsX, k1], show unsE kind xs = 1 from if_pos (by omega)]
    clear k1
    go_enter Tryz.func19, Tryz.ntmps19
    go_wp2
    go_ret2
    exact ⟨none, 0, 0, rfl, World.ownsRow_nil _ _ _ _, Below.refl _ _⟩
  · by_cases hn2 : n < 12
    · have k1 : unsOk kind xs = false := by unfold unsOk; rw [decide_eq_false (show ¬ 12 ≤ xs.length by omega)]; simp
      rw [show unsX kind xs = [] from by simp [unsX, k1], show unsE kind xs = 20 from by unfold unsE; rw [if_neg (by omega), k1]; rfl]
      clear k1
      go_enter Tryz.func19, Tryz.ntmps19
      go_wp2
      go_ret2
      exact ⟨none, 0, 0, rfl, World.ownsRow_nil _ _ _ _, Below.refl _ _⟩
    · obtain ⟨bk, o, rfl, hGb, _⟩ := HB.out.at' 0 (by omega)
      have hBi : Bs w G (some ⟨bk, o + 8, none⟩) (n - 4 - 8) (c - 8) (inner xs) := by
        have h1 := (HB.out.drop 8 (by omega) ⟨bk, o + 8, none⟩ (fun _ => by rw [add_none])).take (n - 4 - 8) (by omega)
        unfold inner; rw [hl, show n - 12 = n - 4 - 8 from by omega]; exact h1
      have hil : (inner xs).length = n - 4 - 8 := hBi.len
      have hxlt : ∀ x ∈ inner xs, x < 256 := hBi.lt
      have HBI : Hid (Bs w G (some ⟨bk, o + 8, none⟩) (n - 4 - 8) (c - 8) (inner xs)) := hBi
      have HIL : Hid ((inner xs).length = n - 4 - 8) := hil
      have HSL : Hid ((sealed kind (inner xs)).length = n) := by
        have h0 : (sealed kind (inner xs)).length = n := by rw [sealed_length, hil]; omega
        exact h0
      have HXE : Hid (unsE kind xs = (if sealed kind (inner xs) = xs then 0 else 20) ∧ unsX kind xs = (if sealed kind (inner xs) = xs then inner xs else [])) := by
        constructor
        · unfold unsE unsOk; rw [if_neg (by omega), decide_eq_true (show 12 ≤ xs.length by omega), decide_eq_true (show xs.length ≤ 4194316 by omega)]; simp
        · unfold unsX unsOk; rw [decide_eq_true (show 12 ≤ xs.length by omega), decide_eq_true (show xs.length ≤ 4194316 by omega)]; simp
      obtain ⟨uX, huX⟩ : ∃ uX, uX = unsX kind xs := ⟨_, rfl⟩
      obtain ⟨uE, huE⟩ : ∃ uE, uE = unsE kind xs := ⟨_, rfl⟩
      rw [← huX, ← huE] at HXE ⊢
      have hne : ¬ (c = 8) := by omega
      clear hBi hil hxlt huX huE hl
      go_enter Tryz.func19, Tryz.ntmps19
      go_upto_region 7 with (at_builtin; refine wpList_append_own _ rfl _ _ 22 rfl w.heap.size 5 i0 (.int .u8 0) 1 1 Tryz.underlying22 hi hz0 hz1 hz2 rfl (by decide) _ 0 [] rfl (World.ownsRow_nil _ _ _ _) ⟨bk, o + 8, none⟩ (n - 4 - 8) (c - 8) ((inner xs).map bv) rfl (by rw [List.length_map, HIL.out]; omega) HBI.out.news (bv_one _) (by unfold maxLen; omega) (by omega) (Nat.le_refl _) ?_; intro v1 w1 own1 grow1 _)
      have bel1 : Below w.heap.size w w1 := (Below.refl _ _).grown grow1 (Nat.le_refl _) (fun k hk => by cases hk)
      rw [Nat.zero_add, List.nil_append, ← HIL.out] at own1
      obtain ⟨ga, gc, rfl, hB1⟩ := Bs.of_owns own1 HBI.out.lt
      rw [HIL.out] at hB1 own1 ⊢
      have c16 := refSeal_any _ kind ga (n - 4 - 8) gc (inner xs) w1 hk hB1
      rw [show sealX kind (inner xs) = sealed kind (inner xs) from if_neg (by rw [HIL.out]; omega), show sealE (inner xs) = 0 from if_neg (by rw [HIL.out]; omega)] at c16
      have OWN1 : Hid (w1.ownsRow w.heap.size 5 1 (.slice ga (n - 4 - 8) gc) (n - 4 - 8) ((inner xs).map bv)) := own1
      have BEL1 : Hid (Below w.heap.size w w1) := bel1
      clear grow1 own1 hB1 bel1
      go_upto_region 8 with (go_at_call 38; refine c16.mono ?_; rintro ex w2 ⟨a2, n2, k2, rfl, own2, bel2⟩)
      have hslt : ∀ x ∈ sealed kind (inner xs), x < 256 := sealed_lt hk HBI.out.lt
      obtain ⟨g2, c2, hv2, hB2⟩ := Bs.of_owns own2 hslt
      obtain ⟨rfl, rfl, rfl⟩ : a2 = g2 ∧ n2 = (sealed kind (inner xs)).length ∧ k2 = c2 := by injection hv2 with h1 h2 h3; exact ⟨h1, h2, h3⟩
      rw [HSL.out] at hB2 ⊢
      have HB2 : Hid (Bs w2 (fun g => (Value.slice a2 n k2).ownBlock = some g) a2 n k2 (sealed kind (inner xs))) := hB2
      have bel3 : Below w.heap.size w w2 := BEL1.out.trans (bel2.mono BEL1.out.size)
      have HBx : Hid (Bs w2 G (some ⟨bk, o, none⟩) n c xs) := HB.out.below bel3
      have BEL2 : Hid (Below w.heap.size w w2) := bel3
      have OWN2 : Hid (w2.ownsRow w.heap.size 5 1 (.slice ga (n - 4 - 8) gc) (n - 4 - 8) ((inner xs).map bv)) := (Kept.of_below (F := No) bel2).owns OWN1.out (fun _ _ h => h)
      have hc2 := hB2.cap
      have hm2 := hB2.max
      clear own2 hv2 hB2 bel2 bel3 hslt c16
      go_wp2
      go_loopw [9] (fun i wr => ∃ k : Nat, k ≤ n ∧ i = .int .i64 k ∧ (∀ j, j < k → (sealed kind (inner xs)).getD j 0 = xs.getD j 0) ∧ ∃ q, wr = w2.drewN q) (fun i _ => n - (intOf i).toNat)
      case atStart => exact ⟨0, by omega, rfl, fun j hj => by omega, 0, rfl⟩
      case round =>
        obtain ⟨k, hk, rfl, heq, q, rfl⟩ := hrel
        by_cases hlt : k < n
        · obtain ⟨b', o', rfl, _, hc1⟩ := HB2.out.at' k hlt
          obtain ⟨b3, o3, hb3, _, hc3⟩ := HBx.out.at' k hlt
          simp only [Option.some.injEq, Addr.mk.injEq] at hb3
          obtain ⟨rfl, rfl, _⟩ := hb3
          obtain ⟨x, hxx⟩ : ∃ x, x = (sealed kind (inner xs)).getD k 0 := ⟨_, rfl⟩
          obtain ⟨y, hyy⟩ : ∃ y, y = xs.getD k 0 := ⟨_, rfl⟩
          have d1 : w2.cell? ⟨b', o' + k, none⟩ = some (.int .u8 (x : Nat)) := by rw [hxx]; exact hc1
          have d2 : w2.cell? ⟨bk, o + k, none⟩ = some (.int .u8 (y : Nat)) := by rw [hyy]; exact hc3
          have HE : Hid (∀ j, j < k → (sealed kind (inner xs)).getD j 0 = xs.getD j 0) := heq
          have HXY : Hid (x = (sealed kind (inner xs)).getD k 0 ∧ y = xs.getD k 0) := ⟨hxx, hyy⟩
          clear hc1 hc3 heq hxx hyy
          by_cases hxy : x = y
          · subst hxy
            go_wp2
            go_quiet (fail)
            go_wp2
            go_roundw
            case rel =>
              refine ⟨k + 1, by omega, by go_num, ?_, _, rfl⟩
              intro j hj
              by_cases hjk : j = k
              · subst hjk; rw [← HXY.out.1, ← HXY.out.2]
              · exact HE.out j (by omega)
            case measure => simp [intOf]; omega
          · have hne2 : ((x : Int) == (y : Int)) = false := by simp; omega
            have hnq : ¬ sealed kind (inner xs) = xs := by
              intro h0
              apply hxy
              rw [HXY.out.1, HXY.out.2, h0]
            have X : Hid (uE = 20 ∧ uX = []) := ⟨HXE.out.1.trans (if_neg hnq), HXE.out.2.trans (if_neg hnq)⟩
            clear hnq
            go_wp2
            go_quiet (fail)
            go_wp2
            go_ret2
            obtain ⟨x1, x2⟩ := X.out
            rw [x1, x2]
            exact ⟨none, 0, 0, rfl, World.ownsRow_nil _ _ _ _, below_drewN (below_drewN BEL2.out _) _⟩
        · have hkn : k = n := by omega
          subst hkn
          have hyes : sealed kind (inner xs) = xs := by
            have hsl := HSL.out
            have hxl := HL.out
            apply List.ext_getElem (by omega)
            intro i h1 h2
            have := heq i (by omega)
            simpa [List.getD, h1, h2] using this
          have X : Hid (uE = 0 ∧ uX = inner xs) := ⟨HXE.out.1.trans (if_pos hyes), HXE.out.2.trans (if_pos hyes)⟩
          clear hyes heq
          go_wp2
          go_ret2
          obtain ⟨x1, x2⟩ := X.out
          rw [x1, x2]
          exact ⟨ga, _, gc, rfl, by rw [HIL.out]; exact OWN2.out, below_drewN BEL2.out _⟩

end Go.Proofs.YtkmpgcgdamcikaaGreatDoor
