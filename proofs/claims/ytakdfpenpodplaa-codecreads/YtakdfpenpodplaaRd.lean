/-
  The Reader in memory; 'take'.
-/
import Derived.Test.YtakdfpenpodplaaWrDone
namespace Go.Proofs.Ytakdfpenpodplaa
open Go.RowKit
set_option linter.unusedVariables false

/-- block p is a Reader: the bytes xs are left, its fault is e; its blocks lie in F. -/
structure RdV (w : World) (F : Nat → Prop) (p : Nat) (a : Option Addr) (n c : Nat) (xs : List Nat) (e : Int) : Prop where
  obj : w.heap[p]? = some (.cells #[.slice a n c, .int .i64 e] 80 (0, 0))
  bs : Bs w (fun b => F b ∧ b ≠ p) a n c xs
  fp : F p
  flt : ∀ k, F k → k < w.heap.size

def Rd (w : World) (F : Nat → Prop) (p : Nat) (xs : List Nat) (e : Int) : Prop := ∃ a n c, RdV w F p a n c xs e

namespace RdV
variable {w w' : World} {F G : Nat → Prop} {p : Nat} {a : Option Addr} {n c : Nat} {xs : List Nat} {e : Int}
theorem c0 (h : RdV w F p a n c xs e) : w.cell? ⟨p, 0, none⟩ = some (.slice a n c) := by simp [World.cell?, h.obj]
theorem c1 (h : RdV w F p a n c xs e) : w.cell? ⟨p, 1, none⟩ = some (.int .i64 e) := by simp [World.cell?, h.obj]
theorem fz (h : RdV w F p a n c xs e) (i : Nat) : w.frozen? ⟨p, i, none⟩ = false := by simp [World.frozen?, h.obj]
theorem plt (h : RdV w F p a n c xs e) : p < w.heap.size := heap_lt h.obj
theorem kept (h : RdV w F p a n c xs e) (k : Kept G w w') (hd : ∀ b, F b → ¬ G b) : RdV w' F p a n c xs e :=
  ⟨k.at' h.obj (hd p h.fp), h.bs.kept k (fun b hb => hd b hb.1), h.fp, fun j hj => Nat.lt_of_lt_of_le (h.flt j hj) k.size⟩
theorem put1 (h : RdV w F p a n c xs e) (e' : Int) : RdV (w.setCell ⟨p, 1, none⟩ (.int .i64 e')) F p a n c xs e' := by
  have hk : Kept (fun k => k = p) w (w.setCell ⟨p, 1, none⟩ (.int .i64 e')) := (Kept.refl (fun k => k = p) w).setCell (p := ⟨p, 1, none⟩) (.inl rfl) _
  refine ⟨?_, h.bs.kept hk (fun b hb => hb.2), h.fp, fun k hk => by simpa [World.setCell] using h.flt k hk⟩
  simp [World.setCell, Array.getElem?_modify, h.obj]
theorem put0 {a' : Option Addr} {n' c' : Nat} {ys : List Nat} (h : RdV w F p a n c xs e) (hb : Bs w (fun b => F b ∧ b ≠ p) a' n' c' ys) : RdV (w.setCell ⟨p, 0, none⟩ (.slice a' n' c')) F p a' n' c' ys e := by
  have hk : Kept (fun k => k = p) w (w.setCell ⟨p, 0, none⟩ (.slice a' n' c')) := (Kept.refl (fun k => k = p) w).setCell (p := ⟨p, 0, none⟩) (.inl rfl) _
  refine ⟨?_, hb.kept hk (fun b hb => hb.2), h.fp, fun k hk => by simpa [World.setCell] using h.flt k hk⟩
  simp [World.setCell, Array.getElem?_modify, h.obj]
end RdV

theorem Bs.take {w : World} {F : Nat → Prop} {a : Option Addr} {n c : Nat} {xs : List Nat} (h : Bs w F a n c xs) (k : Nat) (hk : k ≤ n) : Bs w F a k c (xs.take k) := by
  have hl := h.len
  refine ⟨by rw [List.length_take]; omega, by have := h.cap; omega, h.max, h.nil, fun i hi => ?_, fun x hx => h.lt x (List.mem_of_mem_take hx)⟩
  obtain ⟨b, o, e, hb, hc⟩ := h.at' i (by omega)
  refine ⟨b, o, e, hb, ?_⟩
  rw [hc]
  simp [List.getD, hi]
theorem Bs.drop {w : World} {F : Nat → Prop} {ad : Addr} {n c : Nat} {xs : List Nat} (h : Bs w F (some ad) n c xs) (k : Nat) (hk : k ≤ n) (ad' : Addr) (ha : k < c → ad' = ad.add k) : Bs w F (some ad') (n - k) (c - k) (xs.drop k) := by
  have hl := h.len
  have hcap := h.cap
  refine ⟨by rw [List.length_drop]; omega, by omega, by have := h.max; omega, fun h => (by cases h), fun i hi => ?_, fun x hx => h.lt x (List.mem_of_mem_drop hx)⟩
  obtain ⟨b, o, e, hb, hc⟩ := h.at' (k + i) (by omega)
  simp only [Option.some.injEq] at e
  subst e
  refine ⟨b, o + k, by rw [ha (by omega), add_none], hb, ?_⟩
  rw [Nat.add_assoc, hc]
  simp [List.getD, List.getElem?_drop]

/-- what a Reader's call leaves -/
def RdDid (F : Nat → Prop) (p : Nat) (xs' : List Nat) (e' : Int) (w w' : World) : Prop := Rd w' F p xs' e' ∧ Kept (fun k => k = p) w w'
theorem RdDid.fp {F : Nat → Prop} {p : Nat} {xs' : List Nat} {e' : Int} {w w' : World} (h : RdDid F p xs' e' w w') : F p := by obtain ⟨⟨a, n, c, hv⟩, _⟩ := h; exact hv.fp
theorem RdDid.keptF {F : Nat → Prop} {p : Nat} {xs' : List Nat} {e' : Int} {w w' : World} (h : RdDid F p xs' e' w w') : Kept F w w' := h.2.mono (fun k hk => by rw [hk]; exact h.fp)
theorem RdDid.below {F : Nat → Prop} {p B : Nat} {xs' : List Nat} {e' : Int} {w w' : World} (h : RdDid F p xs' e' w w') (hF : ∀ k, F k → B ≤ k) (hB : B ≤ w.heap.size) : Below B w w' := h.keptF.below hF hB

/-- what is taken -/
def tkOk (xs : List Nat) (e n : Int) : Bool := e == 0 && decide (0 ≤ n) && decide (n ≤ xs.length)
def tkXs (xs : List Nat) (e n : Int) : List Nat := if tkOk xs e n then xs.take n.toNat else []
def tkRest (xs : List Nat) (e n : Int) : List Nat := if tkOk xs e n then xs.drop n.toNat else xs
def tkE (xs : List Nat) (e n : Int) : Int := if e ≠ 0 then e else if tkOk xs e n then 0 else 20

set_option maxHeartbeats 1000000 in
theorem take_any (F : Nat → Prop) (p : Nat) (xs : List Nat) (e n : Int) (w : World) (h : Rd w F p xs e) :
    Calls Try.prog 59 #[.pointer (some ⟨p, 0, none⟩), .int .i64 n] w fun ex w' => ∃ a k c, ex = .returned (.slice a k c) ∧ Bs w' (fun b => F b ∧ b ≠ p) a k c (tkXs xs e n) ∧ RdDid F p (tkRest xs e n) (tkE xs e n) w w' := by
  obtain ⟨a, m, c, hv⟩ := h
  have c0 := hv.c0
  have c1 := hv.c1
  have f0 := hv.fz 0
  have f1 := hv.fz 1
  have hl := hv.bs.len
  have HV : Hid (RdV w F p a m c xs e) := hv
  clear hv
  have nil : ∀ (W : World) (G : Nat → Prop), Bs W G none 0 0 [] := fun W G => ⟨rfl, by omega, by omega, fun _ => rfl, fun i hi => by omega, fun x hx => by cases hx⟩
  by_cases he : e = 0
  · subst he
    by_cases h0 : n < 0
    · have k1 : tkOk xs 0 n = false := by simp [tkOk]; omega
      have e1 : tkXs xs 0 n = [] := by simp [tkXs, k1]
      have e2 : tkRest xs 0 n = xs := by simp [tkRest, k1]
      have e3 : tkE xs 0 n = 20 := by simp [tkE, k1]
      rw [e1, e2, e3]
      clear k1 e1 e2 e3
      go_enter Try.func59, Try.ntmps59
      go_wp2
      go_ret
      exact ⟨none, 0, 0, rfl, nil _ _, ⟨a, m, c, HV.out.put1 20⟩, (Kept.refl (fun k => k = p) w).setCell (p := ⟨p, 1, none⟩) (.inl rfl) _⟩
    · by_cases h1 : (m : Int) < n
      · have k1 : tkOk xs 0 n = false := by simp [tkOk]; omega
        have e1 : tkXs xs 0 n = [] := by simp [tkXs, k1]
        have e2 : tkRest xs 0 n = xs := by simp [tkRest, k1]
        have e3 : tkE xs 0 n = 20 := by simp [tkE, k1]
        rw [e1, e2, e3]
        clear k1 e1 e2 e3
        go_enter Try.func59, Try.ntmps59
        go_wp2
        go_ret
        exact ⟨none, 0, 0, rfl, nil _ _, ⟨a, m, c, HV.out.put1 20⟩, (Kept.refl (fun k => k = p) w).setCell (p := ⟨p, 1, none⟩) (.inl rfl) _⟩
      · have k1 : tkOk xs 0 n = true := by simp [tkOk]; omega
        have e1 : tkXs xs 0 n = xs.take n.toNat := by simp [tkXs, k1]
        have e2 : tkRest xs 0 n = xs.drop n.toNat := by simp [tkRest, k1]
        have e3 : tkE xs 0 n = 0 := by simp [tkE, k1]
        rw [e1, e2, e3]
        clear k1 e1 e2 e3
        obtain ⟨k, rfl⟩ : ∃ k : Nat, n = k := ⟨n.toNat, by omega⟩
        rw [Int.toNat_natCast]
        have hkm : k ≤ m := by omega
        have hmc := HV.out.bs.cap
        cases a with
        | none =>
          have hc := HV.out.bs.nil rfl
          have hm : m = 0 := by omega
          have hk : k = 0 := by omega
          subst hc hm hk
          have hx : xs = [] := List.eq_nil_of_length_eq_zero hl
          subst hx
          go_enter Try.func59, Try.ntmps59
          go_wp2
          go_ret
          exact ⟨none, 0, 0, rfl, nil _ _, ⟨none, 0, 0, HV.out.put0 (nil _ _)⟩, (Kept.refl (fun k => k = p) w).setCell (p := ⟨p, 0, none⟩) (.inl rfl) _⟩
        | some ad =>
          have HT : ∀ v, Bs (w.setCell ⟨p, 0, none⟩ v) (fun b => F b ∧ b ≠ p) (some ad) k c (xs.take k) := fun v => (HV.out.bs.take k hkm).kept ((Kept.refl (fun k => k = p) w).setCell (p := ⟨p, 0, none⟩) (.inl rfl) _) (fun b hb => hb.2)
          by_cases hck : c = k
          · have hmc2 : m = c := by omega
            subst hck hmc2
            have HD := HV.out.put0 (HV.out.bs.drop m hkm ad (fun h => absurd h (by omega)))
            rw [Nat.sub_self] at HD
            have HDH : Hid _ := HD
            clear HD
            go_enter Try.func59, Try.ntmps59
            go_wp2
            go_ret
            exact ⟨some ad, m, m, rfl, HT _, ⟨some ad, _, _, HDH.out⟩, (Kept.refl (fun k => k = p) w).setCell (p := ⟨p, 0, none⟩) (.inl rfl) _⟩
          · have HD := HV.out.put0 (HV.out.bs.drop k hkm (ad.add k) (fun h => rfl))
            have HDH : Hid _ := HD
            clear HD
            go_enter Try.func59, Try.ntmps59
            go_wp2
            go_ret
            exact ⟨some ad, k, c, rfl, HT _, ⟨some (ad.add k), _, _, HDH.out⟩, (Kept.refl (fun k => k = p) w).setCell (p := ⟨p, 0, none⟩) (.inl rfl) _⟩
  · have he2 : (e == 0) = false := by simpa using he
    have k1 : tkOk xs e n = false := by simp [tkOk, he]
    have e1 : tkXs xs e n = [] := by simp [tkXs, k1]
    have e2 : tkRest xs e n = xs := by simp [tkRest, k1]
    have e3 : tkE xs e n = e := by simp [tkE, he]
    rw [e1, e2, e3]
    clear k1 e1 e2 e3
    go_enter Try.func59, Try.ntmps59
    go_wp2
    go_ret
    exact ⟨none, 0, 0, rfl, nil _ _, ⟨a, m, c, HV.out⟩, Kept.refl _ _⟩

end Go.Proofs.Ytakdfpenpodplaa
