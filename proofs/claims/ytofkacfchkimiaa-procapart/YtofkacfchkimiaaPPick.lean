/-
  proc: compare, Pick.
-/
import Derived.Test.YtofkacfchkimiaaPPer
namespace Go.Proofs.Ytofkacfchkimiaa
open Go.RowKit Plain
set_option linter.unusedVariables false
set_option maxRecDepth 100000

def sgn (x y : Int) : Int := if x < y then -1 else if y < x then 1 else 0
theorem isNaN_any (x : Int) (w : World) : Calls Try.prog 75 #[.int .i64 x] w fun e w' => e = .returned (.bool false) ∧ w' = w := by
  go_enter Try.func75, Try.ntmps75
  go_wp2
  go_ret
  exact ⟨by simp, rfl⟩
theorem cmp_any (x y : Int) (w : World) : Calls Try.prog 71 #[.int .i64 x, .int .i64 y] w fun e w' => e = .returned (.int .i64 (sgn x y)) ∧ w' = w := by
  have nn : Hid (∀ z W, Calls Try.prog 75 #[.int .i64 z] W fun e w' => e = .returned (.bool false) ∧ w' = W) := fun z W => isNaN_any z W
  unfold sgn
  by_cases h1 : x < y
  · rw [if_pos h1]
    go_enter Try.func71, Try.ntmps71
    go_wp2_with (go_at_call 75; refine (nn.out _ _).mono ?_; rintro e w' ⟨rfl, rfl⟩)
    go_ret
    exact ⟨rfl, rfl⟩
  · rw [if_neg h1]
    by_cases h2 : y < x
    · rw [if_pos h2]
      go_enter Try.func71, Try.ntmps71
      go_wp2_with (go_at_call 75; refine (nn.out _ _).mono ?_; rintro e w' ⟨rfl, rfl⟩)
      go_ret
      exact ⟨rfl, rfl⟩
    · rw [if_neg h2]
      go_enter Try.func71, Try.ntmps71
      go_wp2_with (go_at_call 75; refine (nn.out _ _).mono ?_; rintro e w' ⟨rfl, rfl⟩)
      go_ret
      exact ⟨rfl, rfl⟩

def cmpP (p q : Pr) : Int := if p.pri ≠ q.pri then sgn q.pri p.pri else sgn p.pl q.pl
section
variable {b g cap : Nat} {T : Tt}
theorem compare_any (w : World) (h : Tw w b g cap T) {i j : Nat} (hi : i < T.n) (hj : j < T.n) :
    Calls Try.prog 50 #[.pointer (some ⟨g, i * 32, none⟩), .pointer (some ⟨g, j * 32, none⟩)] w fun e w' => e = .returned (.int .i64 (cmpP (T.ps i) (T.ps j))) ∧ ∃ q, w' = w.drewN q := by
  have ci : w.cell? ⟨g, i * 32 + 1, none⟩ = some (.int .i64 (T.ps i).pri) := h.at' i hi 1 (by omega)
  have cj : w.cell? ⟨g, j * 32 + 1, none⟩ = some (.int .i64 (T.ps j).pri) := h.at' j hj 1 (by omega)
  have di : w.cell? ⟨g, i * 32 + 2, none⟩ = some (.int .i64 (T.ps i).pl) := h.at' i hi 2 (by omega)
  have dj : w.cell? ⟨g, j * 32 + 2, none⟩ = some (.int .i64 (T.ps j).pl) := h.at' j hj 2 (by omega)
  clear h
  unfold cmpP
  generalize (T.ps i).pri = x1 at *
  generalize (T.ps j).pri = y1 at *
  generalize (T.ps i).pl = x2 at *
  generalize (T.ps j).pl = y2 at *
  by_cases hx : x1 = y1
  · rw [if_neg (fun h => h hx)]
    have hx' : (x1 != y1) = false := by simp [hx]
    have cm : Hid (∀ W, Calls Try.prog 71 #[.int .i64 x2, .int .i64 y2] W fun e w' => e = .returned (.int .i64 (sgn x2 y2)) ∧ w' = W) := fun W => cmp_any _ _ W
    generalize sgn x2 y2 = z at *
    go_enter Try.func50, Try.ntmps50
    go_upto_region 1 with fail
    go_quiet (fail)
    clear ci cj
    go_upto_region 3 with fail
    have di' : (w.drewN nq).cell? ⟨g, i * 32 + 2, none⟩ = some (.int .i64 x2) := di
    have dj' : (w.drewN nq).cell? ⟨g, j * 32 + 2, none⟩ = some (.int .i64 y2) := dj
    have HW : Hid (∃ q, w.drewN nq = w.drewN q) := ⟨nq, rfl⟩
    clear di dj
    generalize w.drewN nq = w1 at *
    go_quiet (exact Calls.quiet_of_same (cm.out _))
    go_wp2
    go_ret
    refine ⟨rfl, ?_⟩
    obtain ⟨q, hq⟩ := HW.out
    exact ⟨_, by rw [hq, World.drewN_drewN]⟩
  · rw [if_pos hx]
    have hx' : (x1 != y1) = true := by simp [hx]
    have cm : Hid (∀ W, Calls Try.prog 71 #[.int .i64 y1, .int .i64 x1] W fun e w' => e = .returned (.int .i64 (sgn y1 x1)) ∧ w' = W) := fun W => cmp_any _ _ W
    generalize sgn y1 x1 = z at *
    clear di dj
    go_enter Try.func50, Try.ntmps50
    go_upto_region 1 with fail
    go_quiet (fail)
    go_upto_region 2 with fail
    have ci' : (w.drewN nq).cell? ⟨g, i * 32 + 1, none⟩ = some (.int .i64 x1) := ci
    have cj' : (w.drewN nq).cell? ⟨g, j * 32 + 1, none⟩ = some (.int .i64 y1) := cj
    have HW : Hid (∃ q, w.drewN nq = w.drewN q) := ⟨nq, rfl⟩
    clear ci cj
    generalize w.drewN nq = w1 at *
    go_quiet (exact Calls.quiet_of_same (cm.out _))
    go_wp2
    go_ret
    refine ⟨rfl, ?_⟩
    obtain ⟨q, hq⟩ := HW.out
    exact ⟨_, by rw [hq, World.drewN_drewN]⟩

/-- who is picked of the first k -/
def Tt.pk (T : Tt) : Nat → Nat
  | 0 => 0
  | k + 1 => if (T.ps k).st = 1 ∧ (T.pk k = 0 ∨ cmpP (T.ps k) (T.ps (T.pk k - 1)) < 0) then k + 1 else T.pk k
theorem pk_le (T : Tt) : ∀ k, T.pk k ≤ k
  | 0 => Nat.le_refl _
  | k + 1 => by
    have := pk_le T k
    unfold Tt.pk
    split
    · exact Nat.le_refl _
    · omega
theorem pick_hand (w : World) (h : Tw w b g cap T) {i : Nat} (hi : i < T.n) (hn : T.n ≤ 1048576) (hs : (T.ps i).st = 1) (hh : T.hd = (i : Int) + 1) :
    Calls Try.prog 22 #[.pointer (some ⟨b, 0, none⟩)] w fun e w' => e = .returned (.tuple #[.int .i64 ((i : Int) + 1), .bool true]) ∧ w' = w := by
  have fr := ready_yes w h hi hn hs
  have ch := h.hd
  rw [hh] at ch
  clear h
  go_enter Try.func22, Try.ntmps22
  go_wp2_with (go_at_call 49; refine fr.mono ?_; rintro e w' ⟨rfl, rfl⟩; clear fr)
  go_ret2
  exact ⟨rfl, rfl⟩
theorem pick_lock (w : World) (h : Tw w b g cap T) (fr : Calls Try.prog 49 #[.pointer (some ⟨b, 0, none⟩), .int .i64 T.hd] w fun e w' => e = .returned (.pointer none) ∧ w' = w) (hk : T.lk ≠ 0) :
    Calls Try.prog 22 #[.pointer (some ⟨b, 0, none⟩)] w fun e w' => e = .returned (.tuple #[.int .i64 T.lk, .bool true]) ∧ w' = w := by
  have ch := h.hd
  have ck := h.lk
  clear h
  generalize T.hd = x at *
  generalize T.lk = y at *
  have hk' : (y != 0) = true := by simp [hk]
  go_enter Try.func22, Try.ntmps22
  go_wp2_with (go_at_call 49; refine fr.mono ?_; rintro e w' ⟨rfl, rfl⟩; clear fr)
  go_ret2
  exact ⟨rfl, rfl⟩
set_option maxHeartbeats 4000000 in
theorem pick_line (w : World) (h : Tw w b g cap T) (hn : T.n ≤ 1048576) (fr : Calls Try.prog 49 #[.pointer (some ⟨b, 0, none⟩), .int .i64 T.hd] w fun e w' => e = .returned (.pointer none) ∧ w' = w) (hk : T.lk = 0) :
    Calls Try.prog 22 #[.pointer (some ⟨b, 0, none⟩)] w fun e w' => e = .returned (.tuple #[.int .i64 (T.pk T.n : Nat), .bool (decide (T.pk T.n ≠ 0))]) ∧ Kept No w w' := by
  have ch := h.hd
  have ck := h.lk
  rw [hk] at ck
  have hb := h.box
  have hc := h.hcap
  have hm := h.hmax
  have H : Hid (Tw w b g cap T) := h
  clear h
  generalize T.hd = x at *
  go_enter Try.func22, Try.ntmps22
  go_wp2_with (go_at_call 49; refine fr.mono ?_; rintro e w1 ⟨rfl, e1⟩; subst e1; clear fr)
  clear hb ch ck
  go_loopw [4, 37] (fun v x wr => ∃ k : Nat, k ≤ T.n ∧ x = .int .i64 k ∧ v = .int .i64 (T.pk k : Nat) ∧ Kept No w1 wr) (fun _ x _ => T.n - (intOf x).toNat)
  case atStart => exact ⟨0, Nat.zero_le _, rfl, rfl, Kept.refl No _⟩
  case round =>
    obtain ⟨k, hk, rfl, rfl, hkr⟩ := hrel
    have HKR : Hid (Kept No w1 wr) := hkr
    have hle := pk_le T k
    by_cases hlt : k < T.n
    · have hltz : (k : Int) < (T.n : Int) := by omega
      have tr := H.out.keep hkr
      have hb := tr.box
      have c0 : wr.cell? ⟨g, k * 32, none⟩ = some (.int .i64 (T.ps k).st) := tr.at' k hlt 0 (by omega)
      have HP : Hid (T.pk (k + 1) = if (T.ps k).st = 1 ∧ (T.pk k = 0 ∨ cmpP (T.ps k) (T.ps (T.pk k - 1)) < 0) then k + 1 else T.pk k) := rfl
      by_cases h1 : (T.ps k).st = 1
      · rw [h1] at c0
        by_cases h2 : T.pk k = 0
        · have HP2 : Hid (T.pk (k + 1) = k + 1) := HP.out.trans (if_pos ⟨h1, .inl h2⟩)
          rw [h2]
          clear HP hkr tr
          go_wp2
          go_roundw
          case rel => exact ⟨k + 1, by omega, by go_num, by rw [HP2.out]; go_num, HKR.out⟩
          case measure => simp [intOf]; omega
        · obtain ⟨m, hm2⟩ : ∃ m, T.pk k = m + 1 := ⟨T.pk k - 1, by omega⟩
          have hmn : m < T.n := by omega
          have fi := find_yes wr tr hmn hn
          have co := compare_any wr tr hlt hmn
          have HP2 : Hid (T.pk (k + 1) = if cmpP (T.ps k) (T.ps m) < 0 then k + 1 else m + 1) := by
            show _ = _
            rw [HP.out, hm2]
            by_cases hc2 : cmpP (T.ps k) (T.ps m) < 0
            · rw [if_pos hc2, if_pos ⟨h1, .inr hc2⟩]
            · rw [if_neg hc2, if_neg (fun h => by rcases h.2 with h | h; omega; exact hc2 h)]
          rw [hm2, show ((m + 1 : Nat) : Int) = (m : Int) + 1 by omega]
          have hmz : (((m : Int) + 1) == 0) = false := by simp; omega
          clear HP hkr tr h2 hm2 hle
          generalize cmpP (T.ps k) (T.ps m) = z at *
          by_cases hz : z < 0
          · rw [if_pos hz] at HP2
            go_wp2_with (first
              | (go_at_call 34; refine fi.mono ?_; rintro e w2 ⟨rfl, e2⟩; subst e2; clear fi)
              | (go_at_call 50; refine co.mono ?_; rintro e w3 ⟨rfl, q3, rfl⟩; clear co))
            go_roundw
            case rel => exact ⟨k + 1, by omega, by go_num, by rw [HP2.out]; go_num, HKR.out.drewN _⟩
            case measure => simp [intOf]; omega
          · rw [if_neg hz] at HP2
            go_wp2_with (first
              | (go_at_call 34; refine fi.mono ?_; rintro e w2 ⟨rfl, e2⟩; subst e2; clear fi)
              | (go_at_call 50; refine co.mono ?_; rintro e w3 ⟨rfl, q3, rfl⟩; clear co))
            go_roundw
            case rel => exact ⟨k + 1, by omega, by go_num, by rw [HP2.out]; go_num, HKR.out.drewN _⟩
            case measure => simp [intOf]; omega
      · have HP2 : Hid (T.pk (k + 1) = T.pk k) := HP.out.trans (if_neg (fun h => h1 h.1))
        have h1' : ((T.ps k).st == 1) = false := by simp [h1]
        clear HP hkr tr
        generalize (T.ps k).st = s at *
        go_wp2
        go_roundw
        case rel => exact ⟨k + 1, by omega, by go_num, by rw [HP2.out], HKR.out⟩
        case measure => simp [intOf]; omega
    · have hltz : ¬ (k : Int) < (T.n : Int) := by omega
      have hkn : k = T.n := by omega
      subst hkn
      clear hkr
      go_wp2
      go_ret2
      refine ⟨?_, HKR.out⟩
      by_cases hz : T.pk T.n = 0
      · simp [hz]
      · simp [hz]
end
end Go.Proofs.Ytofkacfchkimiaa
