/-
  The document's reader In: its object, Fail, Bytes.
-/
import Derived.Test.YtakdfpenpodplaaRdCalls
namespace Go.Proofs.Ytakdfpenpodplaa
open Go.RowKit
set_option linter.unusedVariables false

/-- block p is an In: of the bytes bs it has come to place m, its fault is e. -/
structure InV (w : World) (F : Nat → Prop) (p : Nat) (a : Option Addr) (n c : Nat) (bs : List Nat) (m : Nat) (e : Int) : Prop where
  obj : w.heap[p]? = some (.cells #[.slice a n c, .int .i64 m, .int .i64 e] 57 (0, 0))
  bs : Bs w (fun b => F b ∧ b ≠ p) a n c bs
  le : m ≤ n
  fp : F p

def Il (w : World) (F : Nat → Prop) (p : Nat) (xs : List Nat) (e : Int) : Prop := ∃ a n c bs m, InV w F p a n c bs m e ∧ xs = bs.drop m ∧ n ≤ 140737488351232

namespace InV
variable {w w' : World} {F G : Nat → Prop} {p : Nat} {a : Option Addr} {n c : Nat} {bs : List Nat} {m : Nat} {e : Int}
theorem c0 (h : InV w F p a n c bs m e) : w.cell? ⟨p, 0, none⟩ = some (.slice a n c) := by simp [World.cell?, h.obj]
theorem c1 (h : InV w F p a n c bs m e) : w.cell? ⟨p, 1, none⟩ = some (.int .i64 m) := by simp [World.cell?, h.obj]
theorem c2 (h : InV w F p a n c bs m e) : w.cell? ⟨p, 2, none⟩ = some (.int .i64 e) := by simp [World.cell?, h.obj]
theorem fz (h : InV w F p a n c bs m e) (i : Nat) : w.frozen? ⟨p, i, none⟩ = false := by simp [World.frozen?, h.obj]
theorem plt (h : InV w F p a n c bs m e) : p < w.heap.size := heap_lt h.obj
theorem kept (h : InV w F p a n c bs m e) (k : Kept G w w') (hd : ∀ b, F b → ¬ G b) : InV w' F p a n c bs m e :=
  ⟨k.at' h.obj (hd p h.fp), h.bs.kept k (fun b hb => hd b hb.1), h.le, h.fp⟩
theorem put1 (h : InV w F p a n c bs m e) (m' : Nat) (hm : m' ≤ n) : InV (w.setCell ⟨p, 1, none⟩ (.int .i64 m')) F p a n c bs m' e := by
  have hk : Kept (fun k => k = p) w (w.setCell ⟨p, 1, none⟩ (.int .i64 m')) := (Kept.refl (fun k => k = p) w).setCell (p := ⟨p, 1, none⟩) (.inl rfl) _
  refine ⟨?_, h.bs.kept hk (fun b hb => hb.2), hm, h.fp⟩
  simp [World.setCell, Array.getElem?_modify, h.obj]
theorem put2 (h : InV w F p a n c bs m e) (e' : Int) : InV (w.setCell ⟨p, 2, none⟩ (.int .i64 e')) F p a n c bs m e' := by
  have hk : Kept (fun k => k = p) w (w.setCell ⟨p, 2, none⟩ (.int .i64 e')) := (Kept.refl (fun k => k = p) w).setCell (p := ⟨p, 2, none⟩) (.inl rfl) _
  refine ⟨?_, h.bs.kept hk (fun b hb => hb.2), h.le, h.fp⟩
  simp [World.setCell, Array.getElem?_modify, h.obj]
theorem drewN (h : InV w F p a n c bs m e) (k : Nat) : InV (w.drewN k) F p a n c bs m e := h.kept ((Kept.refl No w).drewN k) (fun _ _ h => h)
theorem below (h : InV w F p a n c bs m e) (b : Below w.heap.size w w') : InV w' F p a n c bs m e := h.kept (Kept.of_below (F := No) b) (fun _ _ h => h)
end InV

/-- what a call on it leaves -/
def IlDid (F : Nat → Prop) (p : Nat) (xs' : List Nat) (e' : Int) (w w' : World) : Prop := Il w' F p xs' e' ∧ Kept (fun k => k = p) w w' ∧ w'.cell? ⟨p, 0, none⟩ = w.cell? ⟨p, 0, none⟩

theorem failIn_any (F : Nat → Prop) (p : Nat) (a : Option Addr) (n c : Nat) (bs : List Nat) (m : Nat) (x : Int) (w : World) (h : InV w F p a n c bs m 0) :
    Calls Try.prog 100 #[.pointer (some ⟨p, 0, none⟩), .int .i64 x] w fun ex w' => ex = .returned (.tuple #[]) ∧ InV w' F p a n c bs m x ∧ Kept (fun k => k = p) w w' := by
  have c2 := h.c2
  have f2 := h.fz 2
  have H : Hid (InV w F p a n c bs m 0) := h
  clear h
  go_enter Try.func100, Try.ntmps100
  go_wp2
  go_end0
  exact ⟨rfl, H.out.put2 x, (Kept.refl (fun k => k = p) w).setCell (p := ⟨p, 2, none⟩) (.inl rfl) _⟩

set_option maxHeartbeats 4000000 in
set_option maxRecDepth 100000 in
theorem inBytes_any (F : Nat → Prop) (p : Nat) (xs : List Nat) (e n : Int) (w : World) (h : Il w F p xs e) :
    Calls Try.prog 73 #[.pointer (some ⟨p, 0, none⟩), .int .i64 n] w fun ex w' => ∃ v, ex = .returned v ∧ w'.ownsRow w.heap.size 5 1 v (tkXs xs e n).length ((tkXs xs e n).map bv) ∧ IlDid F p (tkRest xs e n) (tkE xs e n) w w' := by
  obtain ⟨a, N, c, bs, m, hv, hxs, hN⟩ := h
  have hle := hv.le
  have hbl := hv.bs.len
  have hxl : xs.length = N - m := by rw [hxs, List.length_drop]; omega
  have c0 := hv.c0
  have c1 := hv.c1
  have c2 := hv.c2
  have hwr : IntKind.i64.wrap ((N : Int) - m) = (N : Int) - m := by rw [IntKind.wrap_i64]; omega
  by_cases he : e = 0
  · subst he
    by_cases h0 : n < 0
    · have k1 : tkOk xs 0 n = false := by simp [tkOk]; omega
      rw [show tkXs xs 0 n = [] by simp [tkXs, k1], show tkRest xs 0 n = xs by simp [tkRest, k1], show tkE xs 0 n = 20 by simp [tkE, k1]]
      have cf := fun w0 (h : InV w0 F p a N c bs m 0) => failIn_any F p a N c bs m 20 w0 h
      have HV : Hid (InV w F p a N c bs m 0) := hv
      have HX : Hid (xs = bs.drop m) := hxs
      clear hv k1 hxs hxl hbl
      go_enter Try.func73, Try.ntmps73
      go_wp2
      go_quiet (fail)
      go_wp2_with (go_at_call 100; refine (cf _ (HV.out.drewN _)).mono ?_; rintro ex w2 ⟨rfl, hi2, k2⟩)
      go_ret
      exact ⟨_, rfl, World.ownsRow_nil _ _ _ _, ⟨a, N, c, bs, m, hi2, HX.out, hN⟩, ((Kept.refl (fun k => k = p) w).drewN _).trans k2 (fun _ h => .inl h), hi2.c0.trans HV.out.c0.symm⟩
    · by_cases h1 : (N : Int) - m < n
      · have k1 : tkOk xs 0 n = false := by simp [tkOk]; omega
        rw [show tkXs xs 0 n = [] by simp [tkXs, k1], show tkRest xs 0 n = xs by simp [tkRest, k1], show tkE xs 0 n = 20 by simp [tkE, k1]]
        have cf := fun w0 (h : InV w0 F p a N c bs m 0) => failIn_any F p a N c bs m 20 w0 h
        have HV : Hid (InV w F p a N c bs m 0) := hv
        have HX : Hid (xs = bs.drop m) := hxs
        clear hv k1 hxs hxl hbl
        go_enter Try.func73, Try.ntmps73
        go_wp2
        go_quiet (fail)
        go_wp2_with (go_at_call 100; refine (cf _ (HV.out.drewN _)).mono ?_; rintro ex w2 ⟨rfl, hi2, k2⟩)
        go_ret
        exact ⟨_, rfl, World.ownsRow_nil _ _ _ _, ⟨a, N, c, bs, m, hi2, HX.out, hN⟩, ((Kept.refl (fun k => k = p) w).drewN _).trans k2 (fun _ h => .inl h), hi2.c0.trans HV.out.c0.symm⟩
      · have k1 : tkOk xs 0 n = true := by simp [tkOk]; omega
        rw [show tkXs xs 0 n = xs.take n.toNat by simp [tkXs, k1], show tkRest xs 0 n = xs.drop n.toNat by simp [tkRest, k1], show tkE xs 0 n = 0 by simp [tkE, k1]]
        obtain ⟨k, rfl⟩ : ∃ k : Nat, n = k := ⟨n.toNat, by omega⟩
        rw [Int.toNat_natCast]
        have hkm : m + k ≤ N := by omega
        obtain ⟨i0, hi, hz0, hz1, hz2⟩ := info_parts Try.info5
        have hxt : (xs.take k).length = k := by rw [List.length_take]; omega
        rw [hxt]
        have HV : Hid (InV w F p a N c bs m 0) := hv
        have HX : Hid (xs = bs.drop m) := hxs
        have HXL : Hid (xs.length = N - m) := hxl
        clear hv k1 hxs hxl hbl hxt
        go_enter Try.func73, Try.ntmps73
        go_wp2
        go_quiet (fail)
        go_wp2
        go_loopw [5, 6] (fun l i wr => ∃ j : Nat, j ≤ k ∧ i = .int .i64 j ∧ wr.ownsRow w.heap.size 5 1 l j ((xs.take j).map bv) ∧ Below w.heap.size w wr) (fun _ i _ => k - (intOf i).toNat)
        case atStart => exact ⟨0, by omega, rfl, World.ownsRow_nil _ _ _ _, (Kept.below0 ((Kept.refl No w).drewN _))⟩
        case round =>
          obtain ⟨j, hj, rfl, hown, hbel⟩ := hrel
          have hvr := HV.out.below hbel
          have d0 := hvr.c0
          have d1 := hvr.c1
          have d2 := hvr.c2
          have g1 := hvr.fz 1
          have HVR : Hid (InV wr F p a N c bs m 0) := hvr
          have HBEL : Hid (Below w.heap.size w wr) := hbel
          have hszr := hbel.size
          by_cases hlt : j < k
          · obtain ⟨b, o, hab, _, hc0⟩ := hvr.bs.at' (m + j) (by omega)
            subst hab
            obtain ⟨y, hy⟩ : ∃ y, y = bs.getD (m + j) 0 := ⟨_, rfl⟩
            have hc : wr.cell? ⟨b, o + (m + j), none⟩ = some (.int .u8 (y : Nat)) := by rw [hy]; exact hc0
            have hwm : IntKind.i64.wrap ((m : Int) + j) = (m : Int) + j := by rw [IntKind.wrap_i64]; omega
            have hbN : m + j < bs.length := by rw [HV.out.bs.len]; omega
            have hgx : xs[j]? = some y := by rw [HX.out, List.getElem?_drop, List.getElem?_eq_getElem hbN, hy]; simp [List.getD, hbN]
            have HST : Hid (xs.take (j + 1) = xs.take j ++ [y]) := (show xs.take (j + 1) = xs.take j ++ [y] by rw [List.take_add_one, hgx]; rfl)
            have ht1 : (m : Int) + j < N := by omega
            have ht0 : 0 ≤ (m : Int) + j := by omega
            have htn : ((m : Int) + j).toNat = m + j := by omega
            clear hbN hgx
            have HO : Hid (wr.ownsRow w.heap.size 5 1 u5 j ((xs.take j).map bv)) := hown
            clear hown hbel hvr hc0 hy c0 c1 c2
            go_wp2
            go_region_law (refine step_append_own rfl (.tmp 35) (.tmp 48) 22 rfl w.heap.size 5 i0 (.int .u8 0) 1 1 Try.underlying22 hi hz0 hz1 hz2 rfl (by decide) u5 _ _ rfl (((HO.out : World.ownsRow wr.drew _ 5 1 u5 _ _)).alloc _) ⟨wr.heap.size, 0, none⟩ 1 1 [.int .u8 y] rfl rfl (cell_one_new wr _ _) (one_one _ _) (by unfold maxLen; omega) (by omega) (by simp; omega) ?_; intro v1 w1 own1 grow1 _ _; have bel1 : Below w.heap.size w w1 := ((HBEL.out.drew).alloc (by simp; omega) _).grown grow1 (by simp; omega) (fun g hg => (HO.out.lt g hg).1); clear grow1)
            all_goals
              go_wp2
              go_roundw
              case rel =>
                refine ⟨j + 1, by omega, by go_num, ?_, bel1⟩
                rw [HST.out, List.map_append]; exact own1
              case measure => simp [intOf]; omega
          · have hjk : j = k := by omega
            subst hjk
            have HO : Hid (wr.ownsRow w.heap.size 5 1 u5 j ((xs.take j).map bv)) := hown
            have hwm : wrap64 ((m : Int) + j) = (m : Int) + j := by unfold wrap64; omega
            clear hown hbel hvr c0 c1 c2
            go_wp2
            go_ret
            have kp : Kept (fun k => k = p) wr (wr.setCell ⟨p, 1, none⟩ (.int .i64 ((m : Int) + j))) := (Kept.refl (fun k => k = p) wr).setCell (p := ⟨p, 1, none⟩) (.inl rfl) _
            have hfin : InV (wr.setCell ⟨p, 1, none⟩ (.int .i64 ((m : Int) + j))) F p a N c bs (m + j) 0 := by
              have := HVR.out.put1 (m + j) hkm
              simpa using this
            refine ⟨u5, rfl, kp.owns HO.out (fun g hg e => ?_), ⟨a, N, c, bs, m + j, hfin, ?_, hN⟩, (Kept.of_below (F := fun k => k = p) HBEL.out).trans kp (fun _ h => .inl h), hfin.c0.trans HV.out.c0.symm⟩
            · have h1 := (HO.out.lt g hg).1
              have h2 := HV.out.plt
              omega
            · rw [HX.out, List.drop_drop]
  · have he2 : (e == 0) = false := by simpa using he
    have k1 : tkOk xs e n = false := by simp [tkOk, he]
    rw [show tkXs xs e n = [] by simp [tkXs, k1], show tkRest xs e n = xs by simp [tkRest, k1], show tkE xs e n = e by simp [tkE, he]]
    have HV : Hid (InV w F p a N c bs m e) := hv
    have HX : Hid (xs = bs.drop m) := hxs
    clear hv k1 hxs hxl hbl he
    go_enter Try.func73, Try.ntmps73
    go_wp2
    go_ret
    exact ⟨_, rfl, World.ownsRow_nil _ _ _ _, ⟨a, N, c, bs, m, HV.out, HX.out, hN⟩, Kept.refl _ _, rfl⟩

end Go.Proofs.Ytakdfpenpodplaa
