/-
  One text: Rd, RdNum, RdCalls, RdCount.
-/
import Derived.Test.YtjhhldgbllbbhaaGreatDoorODat
import Derived.Test.YtjhhldgbllbbhaaGreatDoorWrDone
namespace Go.Proofs.YtjhhldgbllbbhaaGreatDoor
open Go.RowKit
set_option linter.unusedVariables false
set_option maxRecDepth 100000

/-- block p is a Reader: the bytes xs are left, its fault is e; its blocks lie in F. -/
structure RdV (w : World) (F : Nat → Prop) (p : Nat) (a : Option Addr) (n c : Nat) (xs : List Nat) (e : Int) : Prop where
  obj : w.heap[p]? = some (.cells #[.slice a n c, .int .i64 e] 88 (0, 0))
  bs : Bs w (fun b => F b ∧ b ≠ p) a n c xs
  fp : F p
  flt : ∀ k, F k → k < w.heap.size

def Rd (w : World) (F : Nat → Prop) (p : Nat) (xs : List Nat) (e : Int) : Prop := ∃ a n c, RdV w F p a n c xs e

namespace RdV
variable {w w' : World} {F G : Nat → Prop} {p : Nat} {a : Option Addr} {n c : Nat} {xs : List Nat} {e : Int}
theorem c0 (h : RdV w F p a n c xs e) : w.cell? ⟨p, 0, none⟩ = some (.slice a n c) := by simp [World.cell?, h.obj]
theorem c1 (h : RdV w F p a n c xs e) : w.cell? ⟨p, 1, none⟩ = some (.int .i64 e) := by simp [World.cell?, h.obj]
theorem fz (h : RdV w F p a n c xs e) (i : Nat) : w.frozen? ⟨p, i, none⟩ = false := by simp [World.frozen?, h.obj]
theorem plt (h : RdV w F p a n c xs e) : p < w.heap.size := heap_lt h.obj
theorem kept (h : RdV w F p a n c xs e) (k : Kept G w w') (hd : ∀ b, F b → ¬ G b) : RdV w' F p a n c xs e :=
  ⟨k.at' h.obj (hd p h.fp), h.bs.kept k (fun b hb => hd b hb.1), h.fp, fun j hj => Nat.lt_of_lt_of_le (h.flt j hj) k.size⟩
theorem put1 (h : RdV w F p a n c xs e) (e' : Int) : RdV (w.setCell ⟨p, 1, none⟩ (.int .i64 e')) F p a n c xs e' := by
  have hk : Kept (fun k => k = p) w (w.setCell ⟨p, 1, none⟩ (.int .i64 e')) := (Kept.refl (fun k => k = p) w).setCell (p := ⟨p, 1, none⟩) (.inl rfl) _
  refine ⟨?_, h.bs.kept hk (fun b hb => hb.2), h.fp, fun k hk => by simpa [World.setCell] using h.flt k hk⟩
  simp [World.setCell, Array.getElem?_modify, h.obj]
theorem put0 {a' : Option Addr} {n' c' : Nat} {ys : List Nat} (h : RdV w F p a n c xs e) (hb : Bs w (fun b => F b ∧ b ≠ p) a' n' c' ys) : RdV (w.setCell ⟨p, 0, none⟩ (.slice a' n' c')) F p a' n' c' ys e := by
  have hk : Kept (fun k => k = p) w (w.setCell ⟨p, 0, none⟩ (.slice a' n' c')) := (Kept.refl (fun k => k = p) w).setCell (p := ⟨p, 0, none⟩) (.inl rfl) _
  refine ⟨?_, hb.kept hk (fun b hb => hb.2), h.fp, fun k hk => by simpa [World.setCell] using h.flt k hk⟩
  simp [World.setCell, Array.getElem?_modify, h.obj]
end RdV

theorem Bs.take {w : World} {F : Nat → Prop} {a : Option Addr} {n c : Nat} {xs : List Nat} (h : Bs w F a n c xs) (k : Nat) (hk : k ≤ n) : Bs w F a k c (xs.take k) := by
  have hl := h.len
  refine ⟨by rw [List.length_take]; omega, by have := h.cap; omega, h.max, h.nil, fun i hi => ?_, fun x hx => h.lt x (List.mem_of_mem_take hx)⟩
  obtain ⟨b, o, e, hb, hc⟩ := h.at' i (by omega)
  refine ⟨b, o, e, hb, ?_⟩
  rw [hc]
  simp [List.getD, hi]
theorem Bs.drop {w : World} {F : Nat → Prop} {ad : Addr} {n c : Nat} {xs : List Nat} (h : Bs w F (some ad) n c xs) (k : Nat) (hk : k ≤ n) (ad' : Addr) (ha : k < c → ad' = ad.add k) : Bs w F (some ad') (n - k) (c - k) (xs.drop k) := by
  have hl := h.len
  have hcap := h.cap
  refine ⟨by rw [List.length_drop]; omega, by omega, by have := h.max; omega, fun h => (by cases h), fun i hi => ?_, fun x hx => h.lt x (List.mem_of_mem_drop hx)⟩
  obtain ⟨b, o, e, hb, hc⟩ := h.at' (k + i) (by omega)
  simp only [Option.some.injEq] at e
  subst e
  refine ⟨b, o + k, by rw [ha (by omega), add_none], hb, ?_⟩
  rw [Nat.add_assoc, hc]
  simp [List.getD, List.getElem?_drop]

/-- what a Reader's call leaves -/
def RdDid (F : Nat → Prop) (p : Nat) (xs' : List Nat) (e' : Int) (w w' : World) : Prop := Rd w' F p xs' e' ∧ Kept (fun k => k = p) w w'
theorem RdDid.fp {F : Nat → Prop} {p : Nat} {xs' : List Nat} {e' : Int} {w w' : World} (h : RdDid F p xs' e' w w') : F p := by obtain ⟨⟨a, n, c, hv⟩, _⟩ := h; exact hv.fp
theorem RdDid.keptF {F : Nat → Prop} {p : Nat} {xs' : List Nat} {e' : Int} {w w' : World} (h : RdDid F p xs' e' w w') : Kept F w w' := h.2.mono (fun k hk => by rw [hk]; exact h.fp)
theorem RdDid.below {F : Nat → Prop} {p B : Nat} {xs' : List Nat} {e' : Int} {w w' : World} (h : RdDid F p xs' e' w w') (hF : ∀ k, F k → B ≤ k) (hB : B ≤ w.heap.size) : Below B w w' := h.keptF.below hF hB

/-- what is taken -/
def tkOk (xs : List Nat) (e n : Int) : Bool := e == 0 && decide (0 ≤ n) && decide (n ≤ xs.length)
def tkXs (xs : List Nat) (e n : Int) : List Nat := if tkOk xs e n then xs.take n.toNat else []
def tkRest (xs : List Nat) (e n : Int) : List Nat := if tkOk xs e n then xs.drop n.toNat else xs
def tkE (xs : List Nat) (e n : Int) : Int := if e ≠ 0 then e else if tkOk xs e n then 0 else 20

set_option maxHeartbeats 1000000 in
theorem take_any (F : Nat → Prop) (p : Nat) (xs : List Nat) (e n : Int) (w : World) (h : Rd w F p xs e) :
    Calls Tryz.prog 79 #[.pointer (some ⟨p, 0, none⟩), .int .i64 n] w fun ex w' => ∃ a k c, ex = .returned (.slice a k c) ∧ Bs w' (fun b => F b ∧ b ≠ p) a k c (tkXs xs e n) ∧ RdDid F p (tkRest xs e n) (tkE xs e n) w w' := by
  obtain ⟨a, m, c, hv⟩ := h
  have c0 := hv.c0
  have c1 := hv.c1
  have f0 := hv.fz 0
  have f1 := hv.fz 1
  have hl := hv.bs.len
  have HV : Hid (RdV w F p a m c xs e) := hv
  clear hv
  have nil : ∀ (W : World) (G : Nat → Prop), Bs W G none 0 0 [] := fun W G => ⟨rfl, by omega, by omega, fun _ => rfl, fun i hi => by omega, fun x hx => by cases hx⟩
  by_cases he : e = 0
  · subst he
    by_cases h0 : n < 0
    · have k1 : tkOk xs 0 n = false := by simp [tkOk]; omega
      have e1 : tkXs xs 0 n = [] := by simp [tkXs, k1]
      have e2 : tkRest xs 0 n = xs := by simp [tkRest, k1]
      have e3 : tkE xs 0 n = 20 := by simp [tkE, k1]
      rw [e1, e2, e3]
      clear k1 e1 e2 e3
      go_enter Tryz.func79, Tryz.ntmps79
      go_wp2
      go_ret
      exact ⟨none, 0, 0, rfl, nil _ _, ⟨a, m, c, HV.out.put1 20⟩, (Kept.refl (fun k => k = p) w).setCell (p := ⟨p, 1, none⟩) (.inl rfl) _⟩
    · by_cases h1 : (m : Int) < n
      · have k1 : tkOk xs 0 n = false := by simp [tkOk]; omega
        have e1 : tkXs xs 0 n = [] := by simp [tkXs, k1]
        have e2 : tkRest xs 0 n = xs := by simp [tkRest, k1]
        have e3 : tkE xs 0 n = 20 := by simp [tkE, k1]
        rw [e1, e2, e3]
        clear k1 e1 e2 e3
        go_enter Tryz.func79, Tryz.ntmps79
        go_wp2
        go_ret
        exact ⟨none, 0, 0, rfl, nil _ _, ⟨a, m, c, HV.out.put1 20⟩, (Kept.refl (fun k => k = p) w).setCell (p := ⟨p, 1, none⟩) (.inl rfl) _⟩
      · have k1 : tkOk xs 0 n = true := by simp [tkOk]; omega
        have e1 : tkXs xs 0 n = xs.take n.toNat := by simp [tkXs, k1]
        have e2 : tkRest xs 0 n = xs.drop n.toNat := by simp [tkRest, k1]
        have e3 : tkE xs 0 n = 0 := by simp [tkE, k1]
        rw [e1, e2, e3]
        clear k1 e1 e2 e3
        obtain ⟨k, rfl⟩ : ∃ k : Nat, n = k := ⟨n.toNat, by omega⟩
        rw [Int.toNat_natCast]
        have hkm : k ≤ m := by omega
        have hmc := HV.out.bs.cap
        cases a with
        | none =>
          have hc := HV.out.bs.nil rfl
          have hm : m = 0 := by omega
          have hk : k = 0 := by omega
          subst hc hm hk
          have hx : xs = [] := List.eq_nil_of_length_eq_zero hl
          subst hx
          go_enter Tryz.func79, Tryz.ntmps79
          go_wp2
          go_ret
          exact ⟨none, 0, 0, rfl, nil _ _, ⟨none, 0, 0, HV.out.put0 (nil _ _)⟩, (Kept.refl (fun k => k = p) w).setCell (p := ⟨p, 0, none⟩) (.inl rfl) _⟩
        | some ad =>
          have HT : ∀ v, Bs (w.setCell ⟨p, 0, none⟩ v) (fun b => F b ∧ b ≠ p) (some ad) k c (xs.take k) := fun v => (HV.out.bs.take k hkm).kept ((Kept.refl (fun k => k = p) w).setCell (p := ⟨p, 0, none⟩) (.inl rfl) _) (fun b hb => hb.2)
          by_cases hck : c = k
          · have hmc2 : m = c := by omega
            subst hck hmc2
            have HD := HV.out.put0 (HV.out.bs.drop m hkm ad (fun h => absurd h (by omega)))
            rw [Nat.sub_self] at HD
            have HDH : Hid _ := HD
            clear HD
            go_enter Tryz.func79, Tryz.ntmps79
            go_wp2
            go_ret
            exact ⟨some ad, m, m, rfl, HT _, ⟨some ad, _, _, HDH.out⟩, (Kept.refl (fun k => k = p) w).setCell (p := ⟨p, 0, none⟩) (.inl rfl) _⟩
          · have HD := HV.out.put0 (HV.out.bs.drop k hkm (ad.add k) (fun h => rfl))
            have HDH : Hid _ := HD
            clear HD
            go_enter Tryz.func79, Tryz.ntmps79
            go_wp2
            go_ret
            exact ⟨some ad, k, c, rfl, HT _, ⟨some (ad.add k), _, _, HDH.out⟩, (Kept.refl (fun k => k = p) w).setCell (p := ⟨p, 0, none⟩) (.inl rfl) _⟩
  · have he2 : (e == 0) = false := by simpa using he
    have k1 : tkOk xs e n = false := by simp [tkOk, he]
    have e1 : tkXs xs e n = [] := by simp [tkXs, k1]
    have e2 : tkRest xs e n = xs := by simp [tkRest, k1]
    have e3 : tkE xs e n = e := by simp [tkE, he]
    rw [e1, e2, e3]
    clear k1 e1 e2 e3
    go_enter Tryz.func79, Tryz.ntmps79
    go_wp2
    go_ret
    exact ⟨none, 0, 0, rfl, nil _ _, ⟨a, m, c, HV.out⟩, Kept.refl _ _⟩

end Go.Proofs.YtjhhldgbllbbhaaGreatDoor

namespace Go.Proofs.YtjhhldgbllbbhaaGreatDoor
open Go.RowKit
set_option linter.unusedVariables false
set_option maxRecDepth 100000

/-- the number that bytes tell, the highest first -/
def val (l : List Nat) : Nat := l.foldl (fun x b => x * 256 + b) 0
theorem val_snoc (l : List Nat) (b : Nat) : val (l ++ [b]) = val l * 256 + b := by simp [val]
theorem val_take (l : List Nat) (j : Nat) (h : j < l.length) : val (l.take (j + 1)) = val (l.take j) * 256 + l.getD j 0 := by
  rw [List.take_add_one, List.getElem?_eq_getElem h]
  show val (l.take j ++ [l[j]]) = _
  rw [val_snoc]; simp [List.getD, h]
theorem val_lt (l : List Nat) (h : ∀ x ∈ l, x < 256) : ∀ j, j ≤ l.length → val (l.take j) < 256 ^ j := by
  intro j
  induction j with
  | zero => intro _; simp [val]
  | succ j ih =>
    intro hj
    have h1 := ih (by omega)
    rw [val_take l j (by omega), Nat.pow_succ]
    have h2 : l.getD j 0 < 256 := by
      have : l.getD j 0 = l[j] := by simp [List.getD, show j < l.length by omega]
      rw [this]; exact h _ (List.getElem_mem _)
    omega
theorem or_byte (x b : Nat) (hb : b < 256) : (x * 256) ||| b = x * 256 + b := by
  have := Nat.shiftLeft_add_eq_or_of_lt (i := 8) (b := b) hb x
  rw [Nat.shiftLeft_eq] at this
  exact this.symm

theorem Rd.of_v {w : World} {F : Nat → Prop} {p : Nat} {a : Option Addr} {n c : Nat} {xs : List Nat} {e : Int} (h : RdV w F p a n c xs e) : Rd w F p xs e := ⟨a, n, c, h⟩

theorem newReader_any (G : Nat → Prop) (a : Option Addr) (n c : Nat) (xs : List Nat) (w : World) (h : Bs w G a n c xs) (hsz : n ≤ 140737488355328) :
    Calls Tryz.prog 26 #[.slice a n c] w fun ex w' => ∃ p, ex = .returned (.pointer (some ⟨p, 0, none⟩)) ∧ Rd w' (fun k => w.heap.size ≤ k ∧ k < w'.heap.size) p xs 0 ∧ Below w.heap.size w w' := by
  have cc := clone_any G a n c xs w h hsz
  have hl := h.lt
  clear h
  go_enter Tryz.func26, Tryz.ntmps26
  go_wp2_with (go_at_call 45; refine cc.mono ?_; rintro ex w1 ⟨v, rfl, own, bel⟩; obtain ⟨a1, c1, rfl, hB⟩ := Bs.of_owns own hl)
  go_ret
  refine ⟨w1.heap.size, rfl, ⟨a1, xs.length, c1, ?_, ?_, ?_, ?_⟩, bel.alloc bel.size _⟩
  · exact heap_alloc_new _ _
  · refine (hB.kept ((Kept.refl No w1).alloc _) (fun _ _ h => h)).mono (fun k hk => ?_)
    have := own.lt k hk
    refine ⟨⟨this.1, by simp; omega⟩, by omega⟩
  · exact ⟨bel.size, by simp⟩
  · intro k hk; exact hk.2

set_option maxHeartbeats 1000000 in
theorem rnumber_any (F : Nat → Prop) (p : Nat) (xs : List Nat) (e : Int) (width : Nat) (w : World) (h : Rd w F p xs e) (hw : width ≤ 8) :
    Calls Tryz.prog 65 #[.pointer (some ⟨p, 0, none⟩), .int .i64 width] w fun ex w' => ex = .returned (.int .u64 (val (tkXs xs e width))) ∧ RdDid F p (tkRest xs e width) (tkE xs e width) w w' := by
  have cc := take_any F p xs e width w h
  clear h
  have hlen : (tkXs xs e width).length ≤ 8 := by unfold tkXs; split <;> simp <;> omega
  obtain ⟨ys, hys⟩ : ∃ ys, ys = tkXs xs e width := ⟨_, rfl⟩
  rw [← hys] at cc hlen ⊢
  clear hys
  go_enter Tryz.func65, Tryz.ntmps65
  go_wp2_with (go_at_call 79; refine cc.mono ?_; rintro ex w1 ⟨a, k, c, rfl, hB, hd⟩; have HB : Hid (Bs w1 (fun b => F b ∧ b ≠ p) a k c ys) := hB; have HD : Hid (RdDid F p (tkRest xs e width) (tkE xs e width) w w1) := hd; have hk := hB.len; clear hB hd)
  go_loop [5, 12] (fun x i => ∃ j : Nat, j ≤ k ∧ i = .int .i64 j ∧ x = .int .u64 (val (ys.take j) : Nat)) (fun _ i => k - (intOf i).toNat)
  case atStart => exact ⟨0, by omega, rfl, rfl⟩
  case round =>
    obtain ⟨j, hj, rfl, rfl⟩ := hrel
    by_cases hlt : j < k
    · obtain ⟨b, o, rfl, _, hc0⟩ := HB.out.at' j hlt
      have hB := HB.out
      have hlen2 : j < ys.length := by omega
      obtain ⟨y, hy⟩ : ∃ y, y = ys.getD j 0 := ⟨_, rfl⟩
      have hc : w1.cell? ⟨b, o + j, none⟩ = some (.int .u8 (y : Nat)) := by rw [hy]; exact hc0
      have hv := val_lt ys hB.lt j (by omega)
      have hv2 := val_take ys j hlen2
      rw [← hy] at hv2
      obtain ⟨X, hX⟩ : ∃ X, X = val (ys.take j) := ⟨_, rfl⟩
      have hy2 : y < 256 := by
        have : ys.getD j 0 = ys[j] := by simp [List.getD, hlen2]
        rw [hy, this]; exact hB.lt _ (List.getElem_mem _)
      have hXl : X < 72057594037927936 := by
        rw [hX]; exact Nat.lt_of_lt_of_le hv (Nat.le_trans (Nat.pow_le_pow_right (by decide) (show j ≤ 7 by omega)) (by decide))
      rw [← hX]
      have e1 : IntKind.u64.wrap ((X : Int) * 256) = (X : Int) * 256 := by rw [IntKind.wrap_u64]; omega
      have e2 : bits .or .u64 ((X : Int) * 256) (y : Int) = (X : Int) * 256 + y := by
        have h1 := bits_or_u64_nat (X * 256) y (by omega) (by omega)
        rw [or_byte X y hy2] at h1
        simpa using h1
      have HV2 : Hid (val (ys.take (j + 1)) = X * 256 + y) := by rw [hX]; exact hv2
      clear hc0 hB hv hv2 hy hX
      go_wp2
      go_round
      case rel =>
        refine ⟨j + 1, by omega, by go_num, ?_⟩
        rw [HV2.out]; simp
      case measure => simp [intOf]; omega
    · have hjk : j = k := by omega
      subst hjk
      rw [List.take_of_length_le (by omega)]
      go_wp2
      go_ret
      exact ⟨rfl, HD.out⟩

/-- a number of width bytes, as an int -/
def rdN (xs : List Nat) (e : Int) (width : Nat) : Int := val (tkXs xs e width)
theorem tkXs_lt {xs : List Nat} (e n : Int) (h : ∀ x ∈ xs, x < 256) : ∀ x ∈ tkXs xs e n, x < 256 := by
  unfold tkXs; split
  · exact fun x hx => h x (List.mem_of_mem_take hx)
  · intro x hx; cases hx
theorem tkXs_len (xs : List Nat) (e : Int) (n : Nat) : (tkXs xs e n).length ≤ n := by
  unfold tkXs; split
  · simp; omega
  · simp
theorem rdN_lt {xs : List Nat} (e : Int) (width : Nat) (h : ∀ x ∈ xs, x < 256) : 0 ≤ rdN xs e width ∧ rdN xs e width < 256 ^ width := by
  refine ⟨by unfold rdN; omega, ?_⟩
  have h1 := val_lt _ (tkXs_lt e width h) _ (Nat.le_refl _)
  rw [List.take_of_length_le (Nat.le_refl _)] at h1
  have h2 : (256 : Nat) ^ (tkXs xs e width).length ≤ 256 ^ width := Nat.pow_le_pow_right (by decide) (tkXs_len xs e width)
  have h3 : val (tkXs xs e width) < 256 ^ width := by omega
  have h4 : ((val (tkXs xs e width) : Nat) : Int) < ((256 ^ width : Nat) : Int) := Int.ofNat_lt.2 h3
  rw [Int.natCast_pow] at h4
  exact h4
theorem Rd.lt {w : World} {F : Nat → Prop} {p : Nat} {xs : List Nat} {e : Int} (h : Rd w F p xs e) : ∀ x ∈ xs, x < 256 := by
  obtain ⟨a, n, c, hv⟩ := h; exact hv.bs.lt

theorem ru32_any (F : Nat → Prop) (p : Nat) (xs : List Nat) (e : Int) (w : World) (h : Rd w F p xs e) :
    Calls Tryz.prog 64 #[.pointer (some ⟨p, 0, none⟩)] w fun ex w' => ex = .returned (.int .i64 (rdN xs e 4)) ∧ RdDid F p (tkRest xs e 4) (tkE xs e 4) w w' := by
  have cc : Calls Tryz.prog 65 #[.pointer (some ⟨p, 0, none⟩), .int .i64 4] w fun ex w' => ex = .returned (.int .u64 (rdN xs e 4)) ∧ RdDid F p (tkRest xs e 4) (tkE xs e 4) w w' := rnumber_any F p xs e 4 w h (by omega)
  have hb := rdN_lt e 4 h.lt
  obtain ⟨x, hx⟩ : ∃ x, x = rdN xs e 4 := ⟨_, rfl⟩
  rw [← hx] at cc hb ⊢
  have e1 : IntKind.i64.wrap x = x := by rw [IntKind.wrap_i64]; omega
  clear h hb hx
  go_enter Tryz.func64, Tryz.ntmps64
  go_wp2_with (go_at_call 65; refine cc.mono ?_; rintro ex w1 ⟨rfl, hd⟩)
  go_ret
  exact ⟨rfl, hd⟩

/-- a number of eight bytes, as an int64 -/
def rdI (xs : List Nat) (e : Int) : Int := wrap64 (rdN xs e 8)
theorem ri64_any (F : Nat → Prop) (p : Nat) (xs : List Nat) (e : Int) (w : World) (h : Rd w F p xs e) :
    Calls Tryz.prog 50 #[.pointer (some ⟨p, 0, none⟩)] w fun ex w' => ex = .returned (.int .i64 (rdI xs e)) ∧ RdDid F p (tkRest xs e 8) (tkE xs e 8) w w' := by
  have cc : Calls Tryz.prog 65 #[.pointer (some ⟨p, 0, none⟩), .int .i64 8] w fun ex w' => ex = .returned (.int .u64 (rdN xs e 8)) ∧ RdDid F p (tkRest xs e 8) (tkE xs e 8) w w' := rnumber_any F p xs e 8 w h (by omega)
  unfold rdI
  clear h
  go_enter Tryz.func50, Tryz.ntmps50
  go_wp2_with (go_at_call 65; refine cc.mono ?_; rintro ex w1 ⟨rfl, hd⟩)
  go_ret
  exact ⟨rfl, hd⟩

end Go.Proofs.YtjhhldgbllbbhaaGreatDoor

namespace Go.Proofs.YtjhhldgbllbbhaaGreatDoor
open Go.RowKit
set_option linter.unusedVariables false
set_option maxRecDepth 100000

theorem Rd.kept {w w' : World} {F G : Nat → Prop} {p : Nat} {xs : List Nat} {e : Int} (h : Rd w F p xs e) (k : Kept G w w') (hd : ∀ b, F b → ¬ G b) : Rd w' F p xs e := by
  obtain ⟨a, n, c, hv⟩ := h; exact ⟨a, n, c, hv.kept k hd⟩
theorem Rd.drewN {w : World} {F : Nat → Prop} {p : Nat} {xs : List Nat} {e : Int} (h : Rd w F p xs e) (n : Nat) : Rd (w.drewN n) F p xs e := h.kept ((Kept.refl No w).drewN n) (fun _ _ h => h)
theorem Rd.put1 {w : World} {F : Nat → Prop} {p : Nat} {xs : List Nat} {e : Int} (h : Rd w F p xs e) (e' : Int) : Rd (w.setCell ⟨p, 1, none⟩ (.int .i64 e')) F p xs e' := by
  obtain ⟨a, n, c, hv⟩ := h; exact ⟨a, n, c, hv.put1 e'⟩
theorem RdDid.ahead {F : Nat → Prop} {p : Nat} {xs : List Nat} {e : Int} {w0 w w1 : World} (h : RdDid F p xs e w w1) (hk : Kept (fun k => k = p) w0 w) : RdDid F p xs e w0 w1 := ⟨h.1, hk.trans h.2 (fun _ h => .inl h)⟩

def rdDone (xs : List Nat) (e : Int) : Int := if e ≠ 0 then e else if xs = [] then 0 else 20

set_option maxHeartbeats 1000000 in
theorem rdone_any (F : Nat → Prop) (p : Nat) (xs : List Nat) (e : Int) (w : World) (h : Rd w F p xs e) :
    Calls Tryz.prog 29 #[.pointer (some ⟨p, 0, none⟩)] w fun ex w' => ex = .returned (.int .i64 (rdDone xs e)) ∧ ∃ n, w' = w.drewN n := by
  obtain ⟨a, n, c, hv⟩ := h
  have c0 := hv.c0
  have c1 := hv.c1
  have hl := hv.bs.len
  clear hv
  by_cases he : e = 0
  · subst he
    by_cases hn : n = 0
    · have hx : xs = [] := List.eq_nil_of_length_eq_zero (by rw [hl]; exact hn)
      subst hn hx
      rw [show rdDone [] 0 = 0 from by simp [rdDone]]
      go_enter Tryz.func29, Tryz.ntmps29
      go_wp2
      go_ret
      exact ⟨rfl, 0, rfl⟩
    · have hx : xs ≠ [] := by rintro rfl; simp at hl; omega
      rw [show rdDone xs 0 = 20 from by simp [rdDone, hx]]
      have hp : 0 < n := by omega
      clear hx hl
      go_enter Tryz.func29, Tryz.ntmps29
      go_wp2
      go_ret
      exact ⟨rfl, 0, rfl⟩
  · have he2 : (e == 0) = false := by simpa using he
    rw [show rdDone xs e = e from if_pos he]
    go_enter Tryz.func29, Tryz.ntmps29
    go_wp2
    go_ret
    exact ⟨rfl, 0, rfl⟩

end Go.Proofs.YtjhhldgbllbbhaaGreatDoor

namespace Go.Proofs.YtjhhldgbllbbhaaGreatDoor
open Go.RowKit
set_option linter.unusedVariables false
set_option maxRecDepth 100000

theorem iv_get {xs : List Int} {i : Nat} (h : i < xs.length) : (xs.map iv)[i]? = some (iv (xs.getD i 0)) := by
  simp [List.getD, h]

/-- the count: may it be taken; what is left, the fault, the answer -/
def cnOk (xs : List Nat) (e most : Int) : Bool := tkOk xs e 4 && decide (rdN xs e 4 ≤ most) && decide (rdN xs e 4 ≤ (xs.length : Int) - 4)
def cnN (xs : List Nat) (e most : Int) : Int := if cnOk xs e most then rdN xs e 4 else 0
def cnRest (xs : List Nat) (e most : Int) : List Nat := if cnOk xs e most then xs.drop 4 else xs
def cnE (xs : List Nat) (e most : Int) : Int := if e ≠ 0 then e else if tkOk xs e 4 = false then 20 else if most < rdN xs e 4 then 1 else if (xs.length : Int) - 4 < rdN xs e 4 then 20 else 0

set_option maxHeartbeats 1000000 in
theorem count_any (F : Nat → Prop) (p : Nat) (xs : List Nat) (e most : Int) (w : World) (h : Rd w F p xs e) :
    Calls Tryz.prog 49 #[.pointer (some ⟨p, 0, none⟩), .int .i64 most] w fun ex w' => ex = .returned (.int .i64 (cnN xs e most)) ∧ RdDid F p (cnRest xs e most) (cnE xs e most) w w' := by
  have c26 := ru32_any F p xs e w h
  have H : Hid (Rd w F p xs e) := h
  obtain ⟨a, n, c, hv⟩ := h
  have c0 := hv.c0
  have hlen := hv.bs.len
  have HV : Hid (RdV w F p a n c xs e) := hv
  clear hv
  cases hk : tkOk xs e 4 with
  | false =>
    have hok : cnOk xs e most = false := by unfold cnOk; rw [hk]; rfl
    have hne : tkE xs e 4 ≠ 0 := by unfold tkE; rw [hk]; split <;> simp_all
    have e1 : cnN xs e most = 0 := by unfold cnN; rw [hok]; rfl
    have e2 : cnRest xs e most = tkRest xs e 4 := by unfold cnRest tkRest; rw [hok, hk]; rfl
    have e3 : cnE xs e most = tkE xs e 4 := by unfold cnE tkE; rw [hk]; rfl
    rw [e1, e2, e3]
    obtain ⟨E, hE⟩ : ∃ E, E = tkE xs e 4 := ⟨_, rfl⟩
    rw [← hE] at c26 hne ⊢
    have hne2 : (E == 0) = false := by simpa using hne
    clear hok hk e1 e2 e3 hE
    go_enter Tryz.func49, Tryz.ntmps49
    go_wp2_with (go_at_call 64; refine c26.mono ?_; rintro ex w1 ⟨rfl, ⟨a1, n1, k1, hv1⟩, kp1⟩; have d1 := hv1.c1)
    go_ret
    exact ⟨rfl, ⟨a1, n1, k1, hv1⟩, kp1⟩
  | true =>
    have he0 : e = 0 := by unfold tkOk at hk; simp at hk; exact hk.1
    subst he0
    have h4 : 4 ≤ xs.length := by unfold tkOk at hk; simp at hk; omega
    have e1 : tkE xs 0 4 = 0 := by unfold tkE; rw [hk]; rfl
    have e2 : tkRest xs 0 4 = xs.drop 4 := by unfold tkRest; rw [hk]; rfl
    rw [e1, e2] at c26
    obtain ⟨N, hN⟩ : ∃ N, N = rdN xs 0 4 := ⟨_, rfl⟩
    rw [← hN] at c26
    clear e1 e2
    -- going back: the rest as it was
    have back : ∀ (w1 : World) (E : Int), RdDid F p (xs.drop 4) 0 w w1 → RdDid F p xs E w ((w1.setCell ⟨p, 1, none⟩ (.int .i64 E)).setCell ⟨p, 0, none⟩ (.slice a n c)) := by
      rintro w1 E ⟨⟨a1, n1, k1, hv1⟩, kp1⟩
      have hb : Bs w1 (fun b => F b ∧ b ≠ p) a n c xs := by
        exact HV.out.bs.kept kp1 (fun b hb => hb.2)
      have h1 := hv1.put1 E
      refine ⟨⟨a, n, c, h1.put0 (hb.kept (G := fun k => k = p) ((Kept.refl (fun k => k = p) w1).setCell (p := ⟨p, 1, none⟩) (.inl rfl) _) (fun b hb => hb.2))⟩, ?_⟩
      exact (kp1.setCell (p := ⟨p, 1, none⟩) (.inl rfl) _).setCell (p := ⟨p, 0, none⟩) (.inl rfl) _
    have BK : Hid (∀ (w1 : World) (E : Int), RdDid F p (xs.drop 4) 0 w w1 → RdDid F p xs E w ((w1.setCell ⟨p, 1, none⟩ (.int .i64 E)).setCell ⟨p, 0, none⟩ (.slice a n c))) := back
    clear back
    by_cases h1 : most < N
    · have hok : cnOk xs 0 most = false := by unfold cnOk; rw [← hN, decide_eq_false (show ¬ N ≤ most by omega)]; simp
      have e1 : cnN xs 0 most = 0 := by unfold cnN; rw [hok]; rfl
      have e2 : cnRest xs 0 most = xs := by unfold cnRest; rw [hok]; rfl
      have e3 : cnE xs 0 most = 1 := by unfold cnE; rw [← hN, if_neg (by simp), hk, if_neg (by simp), if_pos h1]
      rw [e1, e2, e3]
      clear hok e1 e2 e3 hN hk
      go_enter Tryz.func49, Tryz.ntmps49
      go_wp2_with (go_at_call 64; refine c26.mono ?_; rintro ex w1 ⟨rfl, hd⟩; obtain ⟨a1, n1, k1, hv1⟩ := hd.1; have d1 := hv1.c1; have g1 := hv1.fz 1; have d0 := hv1.c0; have g0 := hv1.fz 0; clear hv1)
      go_ret
      exact ⟨rfl, BK.out w1 1 hd⟩
    · by_cases h2 : (xs.length : Int) - 4 < N
      · have hok : cnOk xs 0 most = false := by unfold cnOk; rw [← hN, decide_eq_false (show ¬ N ≤ (xs.length : Int) - 4 by omega)]; simp
        have e1 : cnN xs 0 most = 0 := by unfold cnN; rw [hok]; rfl
        have e2 : cnRest xs 0 most = xs := by unfold cnRest; rw [hok]; rfl
        have e3 : cnE xs 0 most = 20 := by unfold cnE; rw [← hN, if_neg (by simp), hk, if_neg (by simp), if_neg h1, if_pos h2]
        rw [e1, e2, e3]
        clear hok e1 e2 e3 hN hk
        have h3 : ∀ n1 : Nat, (xs.drop 4).length = n1 → (n1 : Int) < N := fun n1 h => by rw [List.length_drop] at h; omega
        have H3 : Hid (∀ n1 : Nat, (xs.drop 4).length = n1 → (n1 : Int) < N) := h3
        clear h3
        go_enter Tryz.func49, Tryz.ntmps49
        go_wp2_with (go_at_call 64; refine c26.mono ?_; rintro ex w1 ⟨rfl, hd⟩; obtain ⟨a1, n1, k1, hv1⟩ := hd.1; have d1 := hv1.c1; have g1 := hv1.fz 1; have d0 := hv1.c0; have g0 := hv1.fz 0; have h4 := H3.out n1 hv1.bs.len; clear hv1)
        go_ret
        exact ⟨rfl, BK.out w1 20 hd⟩
      · have hok : cnOk xs 0 most = true := by unfold cnOk; rw [← hN, hk, decide_eq_true (show N ≤ most by omega), decide_eq_true (show N ≤ (xs.length : Int) - 4 by omega)]; rfl
        have e1 : cnN xs 0 most = N := by unfold cnN; rw [hok]; exact hN.symm
        have e2 : cnRest xs 0 most = xs.drop 4 := by unfold cnRest; rw [hok]; rfl
        have e3 : cnE xs 0 most = 0 := by unfold cnE; rw [← hN, if_neg (by simp), hk, if_neg (by simp), if_neg h1, if_neg h2]
        rw [e1, e2, e3]
        clear hok e1 e2 e3 hN hk
        have h3 : ∀ n1 : Nat, (xs.drop 4).length = n1 → N ≤ (n1 : Int) := fun n1 h => by rw [List.length_drop] at h; omega
        have H3 : Hid (∀ n1 : Nat, (xs.drop 4).length = n1 → N ≤ (n1 : Int)) := h3
        clear h3
        go_enter Tryz.func49, Tryz.ntmps49
        go_wp2_with (go_at_call 64; refine c26.mono ?_; rintro ex w1 ⟨rfl, hd⟩; obtain ⟨a1, n1, k1, hv1⟩ := hd.1; have d1 := hv1.c1; have g1 := hv1.fz 1; have d0 := hv1.c0; have g0 := hv1.fz 0; have h4 := H3.out n1 hv1.bs.len; clear hv1)
        go_ret
        exact ⟨rfl, hd⟩

end Go.Proofs.YtjhhldgbllbbhaaGreatDoor
