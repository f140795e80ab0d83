/-
  One text: ZAd, ZWk, QRow.
-/
import Derived.Test.YtibmgpinfdcaoaaGreatDoorHZSh
import Derived.Test.YtibmgpinfdcaoaaGreatDoorG20
import Derived.Test.YtibmgpinfdcaoaaGreatDoorG19
import Derived.BigQuiet
namespace Go.Proofs.YtibmgpinfdcaoaaGreatDoor
set_option linter.unusedVariables false

theorem So.le' {K : Nat → Int} {a b : Nat} {D : Nat → Nat} (h : So K a b D) {s t : Nat} (s1 : a ≤ s) (st : s ≤ t) (t1 : t < b) : K (D t) ≤ K (D s) := by
  by_cases e : s = t
  · rw [e]; exact Int.le_refl _
  · have := h s t s1 (by omega) t1
    unfold ltK at this; omega
def incM (D : Nat → Nat) : Nat → Nat → Int
  | 0, _ => 0
  | t + 1, i => incM D t i + (if i = D t then 1 else 0)
theorem sm_nonneg {f : Nat → Int} : ∀ n, (∀ i, i < n → 0 ≤ f i) → 0 ≤ sm f n
  | 0, _ => Int.le_refl _
  | n + 1, h => by
    have := sm_nonneg n (fun i hi => h i (by omega))
    have := h n (by omega)
    rw [sm]; omega
theorem sm_le {f : Nat → Int} {B : Int} : ∀ n, (∀ i, i < n → f i ≤ B) → sm f n ≤ n * B
  | 0, _ => by simp [sm]
  | n + 1, h => by
    have := sm_le n (fun i hi => h i (by omega))
    have := h n (by omega)
    rw [sm, Int.natCast_add, Int.add_mul]
    simp
    omega
theorem sm_add (f g : Nat → Int) : ∀ n, sm (fun i => f i + g i) n = sm f n + sm g n
  | 0 => rfl
  | n + 1 => by rw [sm, sm, sm, sm_add f g n]; omega
theorem sm_mul (f : Nat → Int) (c : Int) : ∀ n, sm (fun i => f i * c) n = sm f n * c
  | 0 => by simp [sm]
  | n + 1 => by rw [sm, sm, sm_mul f c n, Int.add_mul]
theorem sm_tail {f : Nat → Int} {t : Nat} : ∀ d, (∀ i, t ≤ i → i < t + d → f i = 0) → sm f (t + d) = sm f t
  | 0, _ => rfl
  | d + 1, h => by
    rw [← Nat.add_assoc, sm, sm_tail d (fun i h1 h2 => h i h1 (by omega)), h (t + d) (by omega) (by omega)]; omega
/-- what is left over, times the hyperperiod, is what the parts leave over -/
theorem left_eq {f : Nat → Int} {H : Int} {n : Nat} (hH : 1 ≤ H) (hs : sm f n = H) : (1000000 - sm (fun i => f i * 1000000 / H) n) * H = sm (fun i => (f i * 1000000) % H) n := by
  have h1 : sm (fun i => f i * 1000000) n = sm f n * 1000000 := sm_mul f 1000000 n
  have h2 : sm (fun i => f i * 1000000) n = sm (fun i => (f i * 1000000 / H) * H + (f i * 1000000) % H) n := sm_congr n (fun i _ => by
    have := Int.mul_ediv_add_emod (f i * 1000000) H
    rw [Int.mul_comm] at this
    omega)
  rw [sm_add (fun i => f i * 1000000 / H * H) (fun i => (f i * 1000000) % H) n, sm_mul (fun i => f i * 1000000 / H) H n] at h2
  rw [Int.sub_mul]
  rw [hs] at h1
  have : (1000000 : Int) * H = H * 1000000 := Int.mul_comm _ _
  omega
theorem left_bd {f : Nat → Int} {H : Int} {n : Nat} (hH : 1 ≤ H) (hs : sm f n = H) : 0 ≤ 1000000 - sm (fun i => f i * 1000000 / H) n ∧ 1000000 - sm (fun i => f i * 1000000 / H) n ≤ n := by
  have h := left_eq hH hs
  have h1 : 0 ≤ sm (fun i => (f i * 1000000) % H) n := sm_nonneg n (fun i _ => Int.emod_nonneg _ (by omega))
  have h2 : sm (fun i => (f i * 1000000) % H) n ≤ n * H := sm_le n (fun i _ => by have := Int.emod_lt_of_pos (f i * 1000000) (show 0 < H by omega); omega)
  rw [← h] at h1 h2
  generalize 1000000 - sm (fun i => f i * 1000000 / H) n = L at *
  refine ⟨?_, ?_⟩
  · by_cases hc : 0 ≤ L
    · exact hc
    · have : L * H ≤ (-1) * H := Int.mul_le_mul_of_nonneg_right (by omega) (by omega)
      omega
  · by_cases hc : L ≤ n
    · exact hc
    · have h3 : ((n : Int) + 1) * H ≤ L * H := Int.mul_le_mul_of_nonneg_right (by omega) (by omega)
      rw [Int.add_mul] at h3
      omega
/-- those that are given one more have something left over -/
theorem left_pos {f : Nat → Int} {H : Int} {n : Nat} {D : Nat → Nat} {L : Nat} (hH : 1 ≤ H) (hs : sm f n = H) (hL : 1000000 - sm (fun i => f i * 1000000 / H) n = (L : Int)) (hp : Pm 0 n (fun i => i) D) (ho : So (fun i => (f i * 1000000) % H) 0 n D) {t : Nat} (ht : t < L) (htn : t < n) : 0 < (f (D t) * 1000000) % H := by
  by_cases hc : 0 < (f (D t) * 1000000) % H
  · exact hc
  · exfalso
    have hz : ∀ i, t ≤ i → i < t + (n - t) → (fun s => (f (D s) * 1000000) % H) i = 0 := fun i h1 h2 => by
      have h3 := ho.le' (s := t) (t := i) (Nat.zero_le _) h1 (by omega)
      have h4 := Int.emod_nonneg (f (D i) * 1000000) (show H ≠ 0 by omega)
      dsimp only at h3 ⊢
      omega
    have h1 := sm_tail (f := fun s => (f (D s) * 1000000) % H) (t := t) (n - t) hz
    rw [show t + (n - t) = n by omega] at h1
    have h2 := hp.sum (fun i => (f i * 1000000) % H) n (Nat.le_refl _)
    have h3 := left_eq hH hs
    rw [hL] at h3
    have h4 : sm (fun s => (f (D s) * 1000000) % H) t ≤ t * (H - 1) := sm_le t (fun i _ => by have := Int.emod_lt_of_pos (f (D i) * 1000000) (show 0 < H by omega); omega)
    have h5 : (L : Int) * H = sm (fun s => (f (D s) * 1000000) % H) t := by rw [h3, ← h1]; exact h2.symm
    have h6 : ((t : Int) + 1) * H ≤ (L : Int) * H := Int.mul_le_mul_of_nonneg_right (by omega) (by omega)
    have h7 : (t : Int) * (H - 1) = t * H - t := by rw [Int.mul_sub]; omega
    rw [Int.add_mul] at h6
    omega
theorem inc_one {D : Nat → Nat} {n : Nat} (hp : Pm 0 n (fun i => i) D) : ∀ t i, t ≤ n → (incM D t i = 0 ∧ (∀ s, s < t → i ≠ D s)) ∨ (incM D t i = 1 ∧ ∃ s, s < t ∧ i = D s)
  | 0, i, _ => .inl ⟨rfl, fun s hs => by omega⟩
  | t + 1, i, h => by
    rw [incM]
    rcases inc_one hp t i (by omega) with ⟨h1, h2⟩ | ⟨h1, s, h2, h3⟩
    · by_cases e : i = D t
      · exact .inr ⟨by rw [h1, if_pos e]; rfl, t, by omega, e⟩
      · refine .inl ⟨by rw [h1, if_neg e]; rfl, fun s hs => ?_⟩
        by_cases e2 : s = t
        · rw [e2]; exact e
        · exact h2 s (by omega)
    · by_cases e : i = D t
      · have := hp.inj (fun _ _ _ _ _ _ e => e) s t (Nat.zero_le _) (by omega) (Nat.zero_le _) (by omega) (by rw [← h3, e])
        omega
      · exact .inr ⟨by rw [h1, if_neg e]; rfl, s, by omega, h3⟩
theorem sm_ind (k : Nat) : ∀ n, sm (fun i => if i = k then 1 else 0) n = if k < n then 1 else 0
  | 0 => by simp [sm]
  | n + 1 => by
    rw [sm, sm_ind k n]
    by_cases h : n = k
    · subst h; rw [if_neg (Nat.lt_irrefl _), if_pos rfl, if_pos (Nat.lt_succ_self _)]; rfl
    · rw [if_neg h]
      by_cases h2 : k < n
      · rw [if_pos h2, if_pos (by omega)]; rfl
      · rw [if_neg h2, if_neg (by omega)]; rfl
theorem inc_sum {D : Nat → Nat} {n : Nat} (hp : Pm 0 n (fun i => i) D) : ∀ t, t ≤ n → sm (incM D t) n = t
  | 0, _ => by
    have : sm (incM D 0) n = sm (fun _ => 0) n := sm_congr n (fun _ _ => rfl)
    rw [this]
    have h := sm_le (f := fun _ => 0) (B := 0) n (fun _ _ => Int.le_refl _)
    have h2 := sm_nonneg (f := fun _ => 0) n (fun _ _ => Int.le_refl _)
    simp at h ⊢
    omega
  | t + 1, h => by
    have e : sm (incM D (t + 1)) n = sm (fun i => incM D t i + (if i = D t then 1 else 0)) n := rfl
    rw [e, sm_add, inc_sum hp t (by omega), sm_ind]
    obtain ⟨s, _, s2, e2⟩ := hp.mem t (Nat.zero_le _) (by omega)
    rw [e2, if_pos s2]
    omega

theorem incM_eq (D : Nat → Nat) : ∀ t i, incN D t i = incM D t i
  | 0, _ => rfl
  | t + 1, i => by rw [incN, incM, incM_eq D t i]
theorem lfS_eq (f : Nat → Int) (H : Int) : ∀ n, lfS f H n = 1000000 - sm (fun i => f i * 1000000 / H) n
  | 0 => rfl
  | n + 1 => by rw [lfS, sm, lfS_eq f H n]; unfold loS; omega
/-- the ticks of the first partitions together -/
def csU (f : Nat → Nat) : Nat → Nat → Nat
  | 0, _ => 0
  | k + 1, t => csU f k t + Rule.cnt f (k + 1) t
theorem csU_step (f : Nat → Nat) (t : Nat) : ∀ k, csU f k (t + 1) = csU f k t + (if 1 ≤ f t ∧ f t ≤ k then 1 else 0)
  | 0 => by rw [csU, csU, if_neg (by omega)]
  | k + 1 => by
    rw [csU, csU, csU_step f t k]
    have e : Rule.cnt f (k + 1) (t + 1) = Rule.cnt f (k + 1) t + (if f t = k + 1 then 1 else 0) := rfl
    rw [e]
    by_cases h : f t = k + 1
    · rw [if_pos h, if_neg (by omega), if_pos (by omega)]; omega
    · rw [if_neg h]
      by_cases h2 : 1 ≤ f t ∧ f t ≤ k
      · rw [if_pos h2, if_pos (by omega)]; omega
      · rw [if_neg h2, if_neg (by omega)]; omega
theorem csU_le (f : Nat → Nat) (k t : Nat) : ∀ d, csU f k (t + d) ≤ csU f k t + d
  | 0 => Nat.le_refl _
  | d + 1 => by
    have := csU_le f k t d
    rw [← Nat.add_assoc, csU_step]
    split <;> omega
theorem smU_cs (xs : List Srv) (fr be : Nat) : ∀ k, smU xs fr be k = (csU (Rule.occ (sys xs)) k be : Int) - csU (Rule.occ (sys xs)) k fr
  | 0 => by simp [smU, csU]
  | k + 1 => by rw [smU, smU_cs xs fr be k, csU, csU, cqU]; omega
theorem smU_le (xs : List Srv) {fr be : Nat} (h : fr ≤ be) (k : Nat) : smU xs fr be k ≤ (be : Int) - fr := by
  have h1 := csU_le (Rule.occ (sys xs)) k fr (be - fr)
  rw [show fr + (be - fr) = be by omega] at h1
  rw [smU_cs]; omega
theorem us_zero (xs : List Srv) {fr be : Nat} (h : fr ≤ be) : 0 ≤ usF xs fr be 0 ∧ usF xs fr be 0 ≤ (be : Int) - fr := by
  have h1 := smU_le xs h xs.length
  have h2 := (smU_bd xs h xs.length).1
  have e : usF xs fr be 0 = ((be : Int) - fr) - smU xs fr be xs.length := by unfold usF usR; rw [if_pos rfl]
  rw [e]; omega
theorem us_at (xs : List Srv) (fr be : Nat) {i : Nat} (h1 : 1 ≤ i) (h2 : i ≤ xs.length) : usF xs fr be i = cqU xs fr be i := by
  unfold usF usR; rw [if_neg (by omega), if_pos h2]
theorem us_bd (xs : List Srv) {fr be : Nat} (h : fr ≤ be) (i : Nat) (hi : i < xs.length + 1) : 0 ≤ usF xs fr be i ∧ usF xs fr be i ≤ (be : Int) - fr := by
  by_cases h0 : i = 0
  · subst h0; exact us_zero xs h
  · rw [us_at xs fr be (by omega) (by omega)]; exact cqU_bd xs h i
theorem us_sum (xs : List Srv) (fr be : Nat) : ∀ k, k ≤ xs.length → sm (usF xs fr be) (k + 1) = ((be : Int) - fr) - smU xs fr be xs.length + smU xs fr be k
  | 0, _ => by
    rw [sm, sm, smU]
    unfold usF usR; rw [if_pos rfl]; omega
  | k + 1, h => by
    rw [sm, us_sum xs fr be k (by omega), us_at xs fr be (by omega) h, smU]; omega
theorem us_all (xs : List Srv) (fr be : Nat) : sm (usF xs fr be) (xs.length + 1) = (be : Int) - fr := by
  rw [us_sum xs fr be xs.length (Nat.le_refl _)]; omega
end Go.Proofs.YtibmgpinfdcaoaaGreatDoor

namespace Go.Proofs.YtibmgpinfdcaoaaGreatDoor
open Go.RowKit Go.Shelf Plain
set_option linter.unusedVariables false
set_option linter.unusedSimpArgs false
set_option maxRecDepth 100000

set_option maxHeartbeats 4000000 in
theorem same_yes {g1 g2 n c1 c2 : Nat} {f f' : Nat → Int} (w : World) (h1 : Cw w g1 n f) (h2 : Cw w g2 n f') (he : ∀ i, i < n → f i = f' i) (hn : n ≤ 1000) :
    Calls Tryz.prog 11 #[.slice (some ⟨g1, 0, none⟩) n c1, .slice (some ⟨g2, 0, none⟩) n c2] w fun e w' => e = .returned (.bool true) ∧ Kept No w w' := by
  have HA : Hid (Cw w g1 n f ∧ Cw w g2 n f') := ⟨h1, h2⟩
  have HE := hid he
  have hn2 : (n : Int) ≤ 1000 := by omega
  have hnn : ((n : Int) != (n : Int)) = false := by simp
  clear h1 h2 he
  go_enter Tryz.func11, Tryz.ntmps11
  go_wp2
  go_loopw [5] (fun x wr => ∃ k : Nat, x = .int .i64 k ∧ k ≤ n ∧ Kept No w wr) (fun x _ => n - (intOf x).toNat)
  case atStart => exact ⟨0, rfl, Nat.zero_le _, Kept.refl _ _⟩
  case round =>
    obtain ⟨k, rfl, hk, kd⟩ := hrel
    have HKD := hid kd
    by_cases hlt : k < n
    · have hkn : (k : Int) < (n : Int) := by omega
      have c1 := (HA.out.1.keep kd).at' k hlt
      have c2 := (HA.out.2.keep kd).at' k hlt
      rw [← HE.out k hlt] at c2
      have hv : (f k != f k) = false := by simp
      generalize f k = v at *
      clear kd
      go_upto_region 6 with fail
      go_quiet (fail)
      go_wp2
      go_roundw
      case rel => exact ⟨k + 1, by go_num, by omega, HKD.out.drewN _⟩
      case measure => simp [intOf]; omega
    · have e : n = k := by omega
      subst e
      go_wp2
      go_ret
      exact ⟨rfl, HKD.out⟩
def w3s : List Srv := [⟨3, 1, 0, 1⟩, ⟨3, 1, 0, 2⟩, ⟨3, 1, 0, 3⟩]
theorem w3_tim : timF w3s 3 = none := by decide +kernel
theorem w3_hyp : hyp w3s = 3 := by decide +kernel
theorem w3_us : ∀ i, i < 4 → usF w3s 3 6 i = if i = 0 then 0 else 1 := by decide +kernel
theorem w3_lf : lfS (usF w3s 3 6) 3 4 = 1 := by decide +kernel
theorem w3_lo : ∀ i, i < 4 → loS (usF w3s 3 6) 3 i = if i = 0 then 0 else 333333 := by decide +kernel
theorem w3_rm : ∀ i, i < 4 → rmK (usF w3s 3 6) 3 i = if i = 0 then 0 else 1 := by decide +kernel
theorem w3_first {D : Nat → Nat} (hp : Pm 0 4 (fun i => i) D) (hs : So (rmK (usF w3s 3 6) 3) 0 4 D) : D 0 = 1 := by
  have hm : ∀ t, t < 4 → D t < 4 := fun t ht => by
    obtain ⟨s, _, s2, e⟩ := hp.mem t (Nat.zero_le _) ht
    rw [e]; exact s2
  have hi : ∀ s t, s < 4 → t < 4 → s ≠ t → D s ≠ D t := fun s t h1 h2 h3 e => h3 (hp.inj (fun _ _ _ _ _ _ e => e) s t (Nat.zero_le _) h1 (Nat.zero_le _) h2 e)
  have i01 := hi 0 1 (by omega) (by omega) (by omega)
  have i02 := hi 0 2 (by omega) (by omega) (by omega)
  have i03 := hi 0 3 (by omega) (by omega) (by omega)
  have i12 := hi 1 2 (by omega) (by omega) (by omega)
  have i13 := hi 1 3 (by omega) (by omega) (by omega)
  have i23 := hi 2 3 (by omega) (by omega) (by omega)
  have m0 := hm 0 (by omega)
  have m1 := hm 1 (by omega)
  have m2 := hm 2 (by omega)
  have m3 := hm 3 (by omega)
  have s01 := hs 0 1 (by omega) (by omega) (by omega)
  have s02 := hs 0 2 (by omega) (by omega) (by omega)
  have s03 := hs 0 3 (by omega) (by omega) (by omega)
  unfold ltK at s01 s02 s03
  rw [w3_rm _ m0, w3_rm _ m1] at s01
  rw [w3_rm _ m0, w3_rm _ m2] at s02
  rw [w3_rm _ m0, w3_rm _ m3] at s03
  by_cases h0 : D 0 = 0
  · rw [if_pos h0] at s01
    rw [if_neg (show ¬ D 1 = 0 by omega)] at s01
    omega
  · rw [if_neg h0] at s01 s02 s03
    split at s01 <;> split at s02 <;> split at s03 <;> omega

end Go.Proofs.YtibmgpinfdcaoaaGreatDoor

namespace Go.Proofs.YtibmgpinfdcaoaaGreatDoor
open Go.RowKit Plain
set_option linter.unusedVariables false
set_option maxRecDepth 100000

/-- a row of numbers that may be written -/
structure Ir (w : World) (g n : Nat) (r : Nat → Nat) : Prop where
  at' : ∀ i, i < n → w.cell? ⟨g, i, none⟩ = some (.int .i64 (r i))
  fz : ∀ i, w.frozen? ⟨g, i, none⟩ = false
  lt : g < w.heap.size
theorem Ir.kept {w w' : World} {g n : Nat} {r : Nat → Nat} {G : Nat → Prop} (h : Ir w g n r) (k : Kept G w w') (hn : ¬ G g) : Ir w' g n r :=
  ⟨fun i hi => k.cell (h.at' i hi) hn, fun i => by
    have e := k.block g h.lt hn
    have := h.fz i
    simp only [World.frozen?] at this ⊢
    rw [e]; exact this, Nat.lt_of_lt_of_le h.lt k.size⟩
theorem Ir.ext {w : World} {g n : Nat} {r r' : Nat → Nat} (h : Ir w g n r) (e : ∀ i, i < n → r i = r' i) : Ir w g n r' :=
  ⟨fun i hi => by rw [← e i hi]; exact h.at' i hi, h.fz, h.lt⟩
theorem Ir.set {w : World} {g n : Nat} {r : Nat → Nat} (h : Ir w g n r) (k v : Nat) : Ir (w.setCell ⟨g, k, none⟩ (.int .i64 v)) g n (fun i => if i = k then v else r i) := by
  refine ⟨fun i hi => ?_, fun i => by rw [World.frozen?_setCell]; exact h.fz i, by simpa [World.setCell] using h.lt⟩
  by_cases e : i = k
  · subst e
    rw [if_pos rfl, cell_set (h.at' i hi), if_pos rfl]
  · rw [if_neg e, cell_set (h.at' i hi), if_neg (by omega)]

/-- the rests behind the releases of a tick -/
def rlN (s : Rule.Sys) (t : Nat) (p : Nat → Nat) (i : Nat) : Nat := if Rule.rel s i t then s.B i else p i

set_option maxHeartbeats 4000000 in
theorem first13_any {F : Nat → Prop} {a : Option Addr} {c : Nat} {xs : List Srv} {g : Nat} {r : Nat → Nat} (hv : Vd xs) (w : World) (h : Sv w F a xs.length c xs) (hr : Ir w g xs.length r) :
    Calls Tryz.prog 34 #[.slice a xs.length c, .slice (some ⟨g, 0, none⟩) xs.length xs.length] w fun e w' => e = .returned (.int .i64 (Rule.chosen (sys xs) r : Nat)) ∧ Kept No w w' := by
  have hn := hv.num
  have HS : Hid (Sv w F a xs.length c xs ∧ Ir w g xs.length r) := ⟨h, hr⟩
  have hcap := h.cap
  have hmax := h.max
  have HCH : Hid (Rule.chosen (sys xs) r = Rule.pick (sys xs) r xs.length) := rfl
  clear h hr hv
  go_enter Tryz.func34, Tryz.ntmps34
  go_wp2
  go_loopw [5, 6] (fun v x wr => ∃ k : Nat, k ≤ xs.length ∧ x = .int .i64 k ∧ v = .int .i64 (Rule.pick (sys xs) r k : Nat) ∧ Kept No w wr) (fun _ x _ => xs.length - (intOf x).toNat)
  case atStart => exact ⟨0, by omega, rfl, rfl, Kept.refl _ w⟩
  case round =>
    obtain ⟨k, hk, rfl, rfl, hkr⟩ := hrel
    have HK : Hid (Kept No w wr) := hkr
    clear hkr
    by_cases hlt : k < xs.length
    · have hltz : (k : Int) < (xs.length : Int) := by omega
      have hpk := Rule.pick_le (sys xs) r k
      have c1 := (HS.out.2.kept HK.out (fun h => h)).at' k hlt
      have HP0 : Hid (Rule.pick (sys xs) r (k + 1) = if 0 < r k ∧ (Rule.pick (sys xs) r k = 0 ∨ (sys xs).pr (Rule.pick (sys xs) r k - 1) < (sys xs).pr k) then k + 1 else Rule.pick (sys xs) r k) := rfl
      have gsk : ∀ j, j < xs.length → ∃ b o, a = some ⟨b, o, none⟩ ∧ wr.cell? ⟨b, o + j * 4 + 3, none⟩ = some (.int .i64 ((sys xs).pr j)) := fun j hj => by
        obtain ⟨hok, b, o, e, hb, e0, e1, e2, e3⟩ := (HS.out.1.keep HK.out).at' j _ (by rw [List.getElem?_eq_getElem hj])
        have eg : xs[j] = gs xs j := by unfold gs; rw [List.getD_eq_getElem?_getD, List.getElem?_eq_getElem hj]; rfl
        rw [eg] at e3
        exact ⟨b, o, e, e3⟩
      obtain ⟨b, o, rfl, e3⟩ := gsk k hlt
      generalize hm : Rule.pick (sys xs) r k = m at *
      by_cases hr0 : r k = 0
      · have q1 : decide ((0 : Int) < ((r k : Nat) : Int)) = false := decide_eq_false (by omega)
        have q2 : decide (0 < r k) = false := decide_eq_false (by omega)
        have HPK : Hid (Rule.pick (sys xs) r (k + 1) = m) := by show _ = _; rw [HP0.out, if_neg (by omega)]
        clear gsk HP0 hm hr0
        generalize ((r k : Nat) : Int) = zr at *
        go_upto_region 5 with fail
        go_quiet (fail)
        go_wp2
        go_roundw
        case rel => exact ⟨k + 1, by omega, by go_num, by rw [HPK.out], HK.out.drewN nq⟩
        case measure => simp [intOf]; omega
      · have hrp : 0 < r k := by omega
        have q1 : decide ((0 : Int) < ((r k : Nat) : Int)) = true := decide_eq_true (by omega)
        have q2 : decide (0 < r k) = true := decide_eq_true hrp
        by_cases hm0 : m = 0
        · have HPK : Hid (Rule.pick (sys xs) r (k + 1) = k + 1) := by show _ = _; rw [HP0.out, if_pos ⟨hrp, .inl hm0⟩]
          have q3 : (((m : Nat) : Int) == 0) = true := by rw [hm0]; rfl
          clear gsk HP0 hm hr0 hrp hm0
          generalize ((r k : Nat) : Int) = zr at *
          go_upto_region 5 with fail
          go_quiet (fail)
          go_wp2
          go_roundw
          case rel => exact ⟨k + 1, by omega, by go_num, by rw [HPK.out]; go_num, HK.out.drewN nq⟩
          case measure => simp [intOf]; omega
        · obtain ⟨p, hp⟩ : ∃ p, m = p + 1 := ⟨m - 1, by omega⟩
          obtain ⟨b', o', e', d3⟩ := gsk p (by omega)
          injection e' with e'
          injection e' with e1 e2
          subst e1 e2
          have q3 : (((m : Nat) : Int) == 0) = false := beq_eq_false_iff_ne.2 (by omega)
          have q4 : ((m : Nat) : Int) - 1 = (p : Int) := by omega
          have hpl : (p : Int) < (xs.length : Int) := by omega
          by_cases hpr : (sys xs).pr p < (sys xs).pr k
          · have HPK : Hid (Rule.pick (sys xs) r (k + 1) = k + 1) := by show _ = _; rw [HP0.out, if_pos ⟨hrp, .inr (by rw [show m - 1 = p by omega]; exact hpr)⟩]
            have q5 : decide ((sys xs).pr p < (sys xs).pr k) = true := decide_eq_true hpr
            clear gsk HP0 hm hr0 hrp hm0 hpr
            generalize ((r k : Nat) : Int) = zr at *
            generalize (sys xs).pr p = prp at *
            generalize (sys xs).pr k = prk at *
            have hmz : 0 < ((m : Nat) : Int) := by omega
            have HM : Hid (m = p + 1) := hp
            clear hp
            go_upto_region 5 with fail
            go_quiet (fail)
            go_wp2
            go_roundw
            case rel => exact ⟨k + 1, by omega, by go_num, by rw [HPK.out]; go_num, HK.out.drewN nq⟩
            case measure => simp [intOf]; omega
          · have HPK : Hid (Rule.pick (sys xs) r (k + 1) = m) := by show _ = _; rw [HP0.out, if_neg (by rw [show m - 1 = p by omega]; omega)]
            have q5 : decide ((sys xs).pr p < (sys xs).pr k) = false := decide_eq_false hpr
            clear gsk HP0 hm hr0 hrp hm0 hpr
            generalize ((r k : Nat) : Int) = zr at *
            generalize (sys xs).pr p = prp at *
            generalize (sys xs).pr k = prk at *
            have hmz : 0 < ((m : Nat) : Int) := by omega
            have HM : Hid (m = p + 1) := hp
            clear hp
            go_upto_region 5 with fail
            go_quiet (fail)
            go_wp2
            go_roundw
            case rel => exact ⟨k + 1, by omega, by go_num, by rw [HPK.out], HK.out.drewN nq⟩
            case measure => simp [intOf]; omega
    · obtain rfl : k = xs.length := by omega
      have hltz : ¬ ((xs.length : Nat) : Int) < (xs.length : Int) := by omega
      clear hk
      go_wp2
      go_ret
      exact ⟨by rw [HCH.out]; rfl, HK.out⟩
end Go.Proofs.YtibmgpinfdcaoaaGreatDoor
