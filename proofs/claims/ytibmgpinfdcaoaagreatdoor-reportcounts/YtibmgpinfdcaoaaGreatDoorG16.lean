/-
  One text: OPlay, OData, OCatch.
-/
import Derived.Test.YtibmgpinfdcaoaaGreatDoorG15
import Derived.Test.YtibmgpinfdcaoaaGreatDoorG00
import Derived.Test.YtibmgpinfdcaoaaGreatDoorG06
import Derived.Test.YtibmgpinfdcaoaaGreatDoorHOHeld
import Derived.Deep.QuietTactic
import Derived.BigQuiet
import Derived.Deep.RegionHeld
import Derived.Deep.RegionWith
import Derived.Deep.DeepCutAuto
import Derived.Deep.CutBlock
namespace Go.Proofs.YtibmgpinfdcaoaaGreatDoor
namespace Rule
set_option linter.unusedVariables false

/-- v is the first release of i behind u -/
def After (s : Sys) (i u v : Nat) : Prop := rel s i v ∧ u < v ∧ ∀ x, u < x → x < v → ¬ rel s i x

structure Inv (s : Sys) (idx rs nx : Nat → Nat) (now : Nat) : Prop where
  lt : ∀ k, k < s.n → idx k < s.n
  ord : ∀ j k, j < k → k < s.n → s.pr (idx k) < s.pr (idx j)
  onto : ∀ i, i < s.n → ∃ k, k < s.n ∧ idx k = i
  late : ∀ k, k < s.n → nx k ≤ now → rest s now (idx k) = s.B (idx k)
  soon : ∀ k, k < s.n → now < nx k → rest s now (idx k) = rs k ∧ After s (idx k) now (nx k)

def up (f : Nat → Nat) (k v : Nat) : Nat → Nat := fun j => if j = k then v else f j
theorem up_same (f : Nat → Nat) (k v : Nat) : up f k v k = v := by simp [up]
theorem up_other (f : Nat → Nat) {k j : Nat} (v : Nat) (h : j ≠ k) : up f k v j = f j := by simp [up, h]

theorem Inv.idx_inj {s : Sys} {idx rs nx : Nat → Nat} {now : Nat} (h : Inv s idx rs nx now) {j k : Nat} (hj : j < s.n) (hk : k < s.n) (e : idx j = idx k) : j = k := by
  rcases Nat.lt_trichotomy j k with h1 | h1 | h1
  · have := h.ord j k h1 hk; rw [e] at this; omega
  · exact h1
  · have := h.ord k j h1 hj; rw [e] at this; omega

/-- the releases up to now are done -/
theorem Inv.catchUp {s : Sys} {idx rs nx : Nat → Nat} {now : Nat} (h : Inv s idx rs nx now) {k v : Nat} (hk : k < s.n) (hl : nx k ≤ now) (hv : After s (idx k) now v) :
    Inv s idx (up rs k (s.B (idx k))) (up nx k v) now := by
  refine ⟨h.lt, h.ord, h.onto, fun j hj hle => ?_, fun j hj hlt => ?_⟩
  · by_cases e : j = k
    · subst e; rw [up_same] at hle; have := hv.2.1; omega
    · rw [up_other _ _ e] at hle; exact h.late j hj hle
  · by_cases e : j = k
    · subst e; rw [up_same, up_same]; exact ⟨h.late j hj hl, hv⟩
    · rw [up_other _ _ e] at hlt ⊢; rw [up_other _ _ e]; exact h.soon j hj hlt

theorem Inv.on {s : Sys} {idx rs nx : Nat → Nat} {now : Nat} (h : Inv s idx rs nx now) {L : Nat} {j : Nat} (hj : j < s.n) (ho : ∀ u, now ≤ u → u < now + L → occ s u ≠ idx j + 1) :
    (nx j ≤ now + L → rest s (now + L) (idx j) = s.B (idx j)) ∧ (now + L < nx j → rest s (now + L) (idx j) = rs j ∧ After s (idx j) (now + L) (nx j)) := by
  constructor
  · intro hle
    by_cases h1 : nx j ≤ now
    · exact full L ho (h.late j hj h1)
    · obtain ⟨_, h2, h3, h4⟩ := h.soon j hj (by omega)
      have e : now + L = nx j + (now + L - nx j) := by omega
      rw [e]
      exact full _ (fun u a b => ho u (by omega) (by omega)) (rest_rel h2)
  · intro hlt
    obtain ⟨h1, h2, h3, h4⟩ := h.soon j hj (by omega)
    refine ⟨?_, h2, hlt, fun x a b => h4 x (by omega) b⟩
    rw [idle L ho (fun u a b => h4 u a (by omega)), h1]

theorem Inv.none {s : Sys} {idx rs nx : Nat → Nat} {now : Nat} (h : Inv s idx rs nx now) {L : Nat} (h1 : ∀ j, j < s.n → now < nx j ∧ rs j = 0 ∧ now + L ≤ nx j) :
    (∀ u, now ≤ u → u < now + L → occ s u = 0) ∧ Inv s idx rs nx (now + L) := by
  have ho : ∀ m, m ≤ L → ∀ u, now ≤ u → u < now + m → occ s u = 0 := by
    intro m
    induction m with
    | zero => intro _ u a b; omega
    | succ m ih =>
      intro hm u a b
      have ih' := ih (by omega)
      by_cases e : u < now + m
      · exact ih' u a e
      · have : u = now + m := by omega
        subst this
        refine occ_zero.2 (fun i hi => ?_)
        obtain ⟨j, hj, rfl⟩ := h.onto i hi
        obtain ⟨a1, a2, a3⟩ := h1 j hj
        obtain ⟨b1, b2, b3, b4⟩ := h.soon j hj a1
        rw [idle m (fun u a b => by rw [ih' u a b]; omega) (fun u a b => b4 u a (by omega)), b1, a2]
  have ho' := ho L (Nat.le_refl _)
  refine ⟨ho', h.lt, h.ord, h.onto, fun j hj => ?_, fun j hj => ?_⟩
  · exact (h.on hj (fun u a b => by rw [ho' u a b]; omega)).1
  · exact (h.on hj (fun u a b => by rw [ho' u a b]; omega)).2

theorem Inv.slot {s : Sys} (hs : Ok s) {idx rs nx : Nat → Nat} {now : Nat} (h : Inv s idx rs nx now) {k L : Nat} (hk : k < s.n) (h1 : ∀ j, j ≤ k → now < nx j ∧ now + L ≤ nx j) (h2 : ∀ j, j < k → rs j = 0) (hL : L ≤ rs k) :
    (∀ u, now ≤ u → u < now + L → occ s u = idx k + 1) ∧ Inv s idx (up rs k (rs k - L)) nx (now + L) := by
  have ho : ∀ m, m ≤ L → ∀ u, now ≤ u → u < now + m → occ s u = idx k + 1 := by
    intro m
    induction m with
    | zero => intro _ u a b; omega
    | succ m ih =>
      intro hm u a b
      have ih' := ih (by omega)
      by_cases e : u < now + m
      · exact ih' u a e
      · have : u = now + m := by omega
        subst this
        refine (occ_iff hs (h.lt k hk)).2 ⟨?_, fun i hi hlt => ?_⟩
        · obtain ⟨a1, a2⟩ := h1 k (Nat.le_refl _)
          obtain ⟨b1, b2, b3, b4⟩ := h.soon k hk a1
          rw [Rule.runs m ih' (fun u a b => b4 u a (by omega)), b1]
          omega
        · obtain ⟨j, hj, rfl⟩ := h.onto i hi
          have hjk : j < k := by
            apply Decidable.byContradiction
            intro hn
            by_cases e : j = k
            · subst e; omega
            · have := h.ord k j (by omega) hj; omega
          obtain ⟨a1, a2⟩ := h1 j (by omega)
          obtain ⟨b1, b2, b3, b4⟩ := h.soon j hj a1
          rw [idle m (fun u a b => by rw [ih' u a b]; intro e; have := h.idx_inj hj hk (by omega); omega) (fun u a b => b4 u a (by omega)), b1, h2 j hjk]
  have ho' := ho L (Nat.le_refl _)
  refine ⟨ho', h.lt, h.ord, h.onto, fun j hj hle => ?_, fun j hj hlt => ?_⟩
  · by_cases e : j = k
    · subst e
      obtain ⟨a1, a2⟩ := h1 j (Nat.le_refl _)
      have : now + L = nx j := by omega
      rw [this]
      exact rest_rel (h.soon j hj a1).2.1
    · exact (h.on hj (fun u a b => by rw [ho' u a b]; intro e'; exact e (h.idx_inj hj hk (by omega)))).1 hle
  · by_cases e : j = k
    · subst e
      obtain ⟨a1, a2⟩ := h1 j (Nat.le_refl _)
      obtain ⟨b1, b2, b3, b4⟩ := h.soon j hj a1
      rw [up_same]
      refine ⟨?_, b2, hlt, fun x a b => b4 x (by omega) b⟩
      rw [Rule.runs L ho' (fun u a b => b4 u a (by omega)), b1]
    · rw [up_other _ _ e]
      exact (h.on hj (fun u a b => by rw [ho' u a b]; intro e'; exact e (h.idx_inj hj hk (by omega)))).2 hlt

/-- as they stand ahead of all releases -/
theorem Inv.start {s : Sys} (hs : Ok s) {idx : Nat → Nat} (lt : ∀ k, k < s.n → idx k < s.n) (ord : ∀ j k, j < k → k < s.n → s.pr (idx k) < s.pr (idx j)) (onto : ∀ i, i < s.n → ∃ k, k < s.n ∧ idx k = i) :
    Inv s idx (fun _ => 0) (fun k => s.O (idx k)) 0 := by
  refine ⟨lt, ord, onto, fun k hk hle => ?_, fun k hk hlt => ?_⟩
  · exact rest_rel ⟨hle, by simp⟩
  · exact ⟨rest_early 0 hlt, ⟨Nat.le_refl _, by simp⟩, hlt, fun x a b hr => by have := hr.1; omega⟩

end Rule
end Go.Proofs.YtibmgpinfdcaoaaGreatDoor

namespace Go.Proofs.YtibmgpinfdcaoaaGreatDoor
open Go.RowKit Plain
set_option linter.unusedVariables false
set_option maxRecDepth 100000

def nv (n : Nat) : Value := .int .i64 (n : Int)

/-- num.NextAt, of ticks -/
def nextN (o p f : Nat) : Nat := if f ≤ o then o else if (f - o) % p = 0 then f else f + (p - (f - o) % p)
theorem nextV_nat (o p f : Nat) (hp : 1 ≤ p) (hs : p + f ≤ 4611686018427387904) : nextV o p f = (nextN o p f : Int) := by
  unfold nextV nextN
  rw [if_neg (by omega)]
  by_cases h1 : f ≤ o
  · rw [if_pos h1, if_pos (by omega)]
  · rw [if_neg h1, if_neg (by omega)]
    have e : (f : Int) - o = ((f - o : Nat) : Int) := by omega
    rw [e, ← Int.natCast_emod]
    by_cases h2 : (f - o) % p = 0
    · rw [if_pos h2, if_pos (by omega)]
    · rw [if_neg h2, if_neg (by omega)]
      have := Nat.mod_lt (f - o) (show p > 0 by omega)
      rw [if_neg (by omega)]
      omega
theorem nextN_after {s : Rule.Sys} (hs : Rule.Ok s) {i now : Nat} (hi : i < s.n) : Rule.After s i now (nextN (s.O i) (s.P i) (now + 1)) := by
  have hp := hs.per i hi
  unfold nextN
  split
  · rename_i h
    exact ⟨⟨Nat.le_refl _, by simp⟩, by omega, fun x a b hr => by have := hr.1; omega⟩
  · rename_i h
    split
    · rename_i h2
      exact ⟨⟨by omega, h2⟩, by omega, fun x a b => by omega⟩
    · rename_i h2
      have hlt := Nat.mod_lt (now + 1 - s.O i) hp
      have hdm := Nat.div_add_mod (now + 1 - s.O i) (s.P i)
      refine ⟨⟨by omega, ?_⟩, by omega, fun x a b hr => ?_⟩
      · have e : now + 1 + (s.P i - (now + 1 - s.O i) % s.P i) - s.O i = s.P i * ((now + 1 - s.O i) / s.P i) + s.P i := by omega
        rw [e]
        simp
      · obtain ⟨h3, h4⟩ := hr
        have e : x - s.O i = (now + 1 - s.O i) % s.P i + (x - (now + 1)) + s.P i * ((now + 1 - s.O i) / s.P i) := by omega
        rw [e, Nat.add_mul_mod_self_left, Nat.mod_eq_of_lt (by omega)] at h4
        omega
theorem nextN_le (o p f : Nat) (ho : o < p) (hp : 1 ≤ p) : nextN o p f ≤ f + p := by
  unfold nextN
  split
  · omega
  · split
    · omega
    · omega

/-- block g holds the players: of each its server, its number, its rest, its next release -/
structure Pl (w : World) (g : Nat) (s : Rule.Sys) (idx rs nx : Nat → Nat) : Prop where
  at' : ∀ k, k < s.n → w.cell? ⟨g, k * 7, none⟩ = some (nv (s.P (idx k))) ∧ w.cell? ⟨g, k * 7 + 1, none⟩ = some (nv (s.B (idx k))) ∧ w.cell? ⟨g, k * 7 + 2, none⟩ = some (nv (s.O (idx k))) ∧
    w.cell? ⟨g, k * 7 + 4, none⟩ = some (nv (idx k + 1)) ∧ w.cell? ⟨g, k * 7 + 5, none⟩ = some (nv (rs k)) ∧ w.cell? ⟨g, k * 7 + 6, none⟩ = some (nv (nx k))
  fz : ∀ i, w.frozen? ⟨g, i, none⟩ = false

theorem Pl.kept {w w' : World} {g : Nat} {s : Rule.Sys} {idx rs nx : Nat → Nat} (h : Pl w g s idx rs nx) (hk : w'.heap[g]? = w.heap[g]?) : Pl w' g s idx rs nx := by
  have e : ∀ i, w'.cell? ⟨g, i, none⟩ = w.cell? ⟨g, i, none⟩ := fun i => World.cell?_of_block hk
  refine ⟨fun k hk' => ?_, fun i => ?_⟩
  · simp only [e]; exact h.at' k hk'
  · have := h.fz i
    simp only [World.frozen?, hk] at this ⊢
    exact this
theorem cell_set {w : World} {g i j : Nat} {v u : Value} (h : w.cell? ⟨g, i, none⟩ = some u) : (w.setCell ⟨g, j, none⟩ v).cell? ⟨g, i, none⟩ = some (if i = j then v else u) := by
  by_cases e : i = j
  · subst e
    rw [if_pos rfl]
    exact World.cell?_setCell_same' _ _ _ (by rw [h]; rfl)
  · rw [if_neg e]
    have hne : (⟨g, j, none⟩ : Addr) ≠ ⟨g, i, none⟩ := fun h' => e (by injection h' with _ h1 _; exact h1.symm)
    rw [World.cell?_setCell_other _ _ _ _ hne]
    exact h
end Go.Proofs.YtibmgpinfdcaoaaGreatDoor

namespace Go.Proofs.YtibmgpinfdcaoaaGreatDoor
open Go.RowKit Plain
set_option linter.unusedVariables false
set_option maxRecDepth 100000

theorem catch_no (g k n r : Nat) (w : World) (h6 : w.cell? ⟨g, k + 6, none⟩ = some (nv r)) (hlt : n < r) :
    Calls Tryz.prog 80 #[.pointer (some ⟨g, k, none⟩), .int .i64 n] w fun e w' => (∃ v, e = .returned v) ∧ w' = w := by
  unfold nv at h6
  go_enter Tryz.func80, Tryz.ntmps80
  go_wp2
  go_end0
  exact ⟨⟨_, rfl⟩, rfl⟩

set_option maxHeartbeats 800000 in
theorem catch_yes (g k n r p b o x : Nat) (w : World) (h0 : w.cell? ⟨g, k, none⟩ = some (nv p)) (h1 : w.cell? ⟨g, k + 1, none⟩ = some (nv b)) (h2 : w.cell? ⟨g, k + 2, none⟩ = some (nv o)) (h5 : w.cell? ⟨g, k + 5, none⟩ = some (nv x)) (h6 : w.cell? ⟨g, k + 6, none⟩ = some (nv r))
    (f5 : w.frozen? ⟨g, k + 5, none⟩ = false) (f6 : w.frozen? ⟨g, k + 6, none⟩ = false) (hle : r ≤ n) (hp : 1 ≤ p) (hp2 : p ≤ 1048576) (ho : o < p) (hn : n ≤ 1099511627776) :
    Calls Tryz.prog 80 #[.pointer (some ⟨g, k, none⟩), .int .i64 n] w fun e w' => (∃ v, e = .returned v) ∧ ∃ q, w' = ((w.setCell ⟨g, k + 5, none⟩ (nv b)).setCell ⟨g, k + 6, none⟩ (nv (nextN o p (n + 1)))).drewN q := by
  have hc := fun W => next_any o p (n + 1) W (by unfold I64; omega) (by unfold I64; omega) (by unfold I64; omega)
  have e1 : nextV o p (n + 1) = (nextN o p (n + 1) : Int) := nextV_nat o p (n + 1) hp (by omega)
  rw [e1] at hc
  generalize nextB o p (n + 1) = yb at *
  generalize nextN o p (n + 1) = v at *
  clear e1
  have g0 : (w.setCell ⟨g, k + 5, none⟩ (nv b)).cell? ⟨g, k, none⟩ = some (nv p) := by rw [cell_set h0, if_neg (by omega)]
  have g2 : (w.setCell ⟨g, k + 5, none⟩ (nv b)).cell? ⟨g, k + 2, none⟩ = some (nv o) := by rw [cell_set h2, if_neg (by omega)]
  have g6 : (w.setCell ⟨g, k + 5, none⟩ (nv b)).cell? ⟨g, k + 6, none⟩ = some (nv r) := by rw [cell_set h6, if_neg (by omega)]
  have gf : (w.setCell ⟨g, k + 5, none⟩ (nv b)).frozen? ⟨g, k + 6, none⟩ = false := by rw [World.frozen?_setCell]; exact f6
  unfold nv at *
  have HG : Hid ((w.setCell ⟨g, k + 5, none⟩ (.int .i64 b)).cell? ⟨g, k, none⟩ = some (.int .i64 p) ∧ (w.setCell ⟨g, k + 5, none⟩ (.int .i64 b)).cell? ⟨g, k + 2, none⟩ = some (.int .i64 o) ∧ (w.setCell ⟨g, k + 5, none⟩ (.int .i64 b)).cell? ⟨g, k + 6, none⟩ = some (.int .i64 r) ∧ (w.setCell ⟨g, k + 5, none⟩ (.int .i64 b)).frozen? ⟨g, k + 6, none⟩ = false) := ⟨g0, g2, g6, gf⟩
  clear g0 g2 g6 gf h0 h2 f6
  go_enter Tryz.func80, Tryz.ntmps80
  go_upto_region 2 with fail
  obtain ⟨g0, g2, g6, gf⟩ := HG.out
  clear h1 h5 h6 f5 HG
  generalize hw1 : w.setCell ⟨g, k + 5, none⟩ (.int .i64 b) = w1 at *
  have HE : Hid (w.setCell ⟨g, k + 5, none⟩ (.int .i64 b) = w1) := hw1
  clear hw1
  clear hle ho hp hp2
  have HW : Hid (wrap64 ((n : Int) + 1) = n + 1) := by show wrap64 ((n : Int) + 1) = n + 1; unfold wrap64; omega
  try simp only [Act.put, List.setIfInBounds_toArray, List.set_cons_zero, List.set_cons_succ]
  refine wp_region_held_drew (S := fun w' => w'.cell? ⟨g, k, none⟩ = some (.int .i64 p) ∧ w'.cell? ⟨g, k + 2, none⟩ = some (.int .i64 o) ∧ ((∃ q, w' = w1.drewN q) ∨ ∃ q, w' = (w1.setCell ⟨g, k + 6, none⟩ (.int .i64 v)).drewN q)) (by kernel_rfl) ⟨g0, g2, .inl ⟨1, rfl⟩⟩ (fun hS => ?_)
  refine d_take 0 19 rfl rfl (by kernel_rfl) (by kernel_rfl) (by kernel_rfl) (fun _ _ _ h => h) rfl (fun w' hw' => er_mv _ rfl (.pointer (some ⟨g, k, none⟩)) rfl) hS ?_
  simp only [Act.put, List.setIfInBounds_toArray, List.set_cons_zero, List.set_cons_succ]
  refine d_take 1 20 rfl rfl (by kernel_rfl) (by kernel_rfl) (by kernel_rfl) (fun _ _ _ h => h) rfl (fun w' hw' => er_mv _ rfl (.pointer (some ⟨g, k, none⟩)) rfl) hS ?_
  simp only [Act.put, List.setIfInBounds_toArray, List.set_cons_zero, List.set_cons_succ]
  refine d_take 2 21 rfl rfl (by kernel_rfl) (by kernel_rfl) (by kernel_rfl) (fun _ _ _ h => h) rfl (fun w' hw' => er_nil _ rfl ⟨g, k, none⟩ rfl) hS ?_
  simp only [Act.put, List.setIfInBounds_toArray, List.set_cons_zero, List.set_cons_succ]
  refine d_take 3 22 rfl rfl (by kernel_rfl) (by kernel_rfl) (by kernel_rfl) (fun _ _ _ h => h) rfl (fun w' hw' => er_pl0 _ rfl g (k) rfl) hS ?_
  simp only [Act.put, List.setIfInBounds_toArray, List.set_cons_zero, List.set_cons_succ]
  refine d_take 4 23 rfl rfl (by kernel_rfl) (by kernel_rfl) (by kernel_rfl) (fun _ _ _ h => h) rfl (fun w' hw' => er_sv2 _ rfl g (k) rfl) hS ?_
  simp only [Act.put, List.setIfInBounds_toArray, List.set_cons_zero, List.set_cons_succ]
  refine d_take 5 24 rfl rfl (by kernel_rfl) (by kernel_rfl) (by kernel_rfl) (fun _ _ _ h => h) rfl (fun w' hw' => er_ld3 _ rfl g (k + 2) (.int .i64 o) rfl hw'.2.1) hS ?_
  simp only [Act.put, List.setIfInBounds_toArray, List.set_cons_zero, List.set_cons_succ]
  refine d_take 6 25 rfl rfl (by kernel_rfl) (by kernel_rfl) (by kernel_rfl) (fun _ _ _ h => h) rfl (fun w' hw' => er_mv _ rfl (.pointer (some ⟨g, k, none⟩)) rfl) hS ?_
  simp only [Act.put, List.setIfInBounds_toArray, List.set_cons_zero, List.set_cons_succ]
  refine d_take 7 26 rfl rfl (by kernel_rfl) (by kernel_rfl) (by kernel_rfl) (fun _ _ _ h => h) rfl (fun w' hw' => er_nil _ rfl ⟨g, k, none⟩ rfl) hS ?_
  simp only [Act.put, List.setIfInBounds_toArray, List.set_cons_zero, List.set_cons_succ]
  refine d_take 8 27 rfl rfl (by kernel_rfl) (by kernel_rfl) (by kernel_rfl) (fun _ _ _ h => h) rfl (fun w' hw' => er_pl0 _ rfl g (k) rfl) hS ?_
  simp only [Act.put, List.setIfInBounds_toArray, List.set_cons_zero, List.set_cons_succ]
  refine d_take 9 28 rfl rfl (by kernel_rfl) (by kernel_rfl) (by kernel_rfl) (fun _ _ _ h => h) rfl (fun w' hw' => er_sv0 _ rfl g (k) rfl) hS ?_
  simp only [Act.put, List.setIfInBounds_toArray, List.set_cons_zero, List.set_cons_succ]
  refine d_take 10 29 rfl rfl (by kernel_rfl) (by kernel_rfl) (by kernel_rfl) (fun _ _ _ h => h) rfl (fun w' hw' => er_ld3 _ rfl g k (.int .i64 p) rfl hw'.1) hS ?_
  simp only [Act.put, List.setIfInBounds_toArray, List.set_cons_zero, List.set_cons_succ]
  refine d_take 11 30 rfl rfl (by kernel_rfl) (by kernel_rfl) (by kernel_rfl) (fun _ _ _ h => h) rfl (fun w' hw' => er_mv _ rfl (.int .i64 n) rfl) hS ?_
  simp only [Act.put, List.setIfInBounds_toArray, List.set_cons_zero, List.set_cons_succ]
  refine d_take 12 31 rfl rfl (by kernel_rfl) (by kernel_rfl) (by kernel_rfl) (fun _ _ _ h => h) rfl (fun w' hw' => er_add _ _ rfl n 1 (n + 1) rfl rfl HW.out) hS ?_
  simp only [Act.put, List.setIfInBounds_toArray, List.set_cons_zero, List.set_cons_succ]
  refine d_callT (fun w' => ∃ q, w' = w1.drewN q) 13 32 (v := .tuple #[.int .i64 v, .bool yb]) (by kernel_rfl) rfl rfl rfl (er_c_NextAt _ _ _ _ rfl (.int .i64 o) (.int .i64 p) (.int .i64 (n + 1)) rfl rfl rfl) ((hc _).mono (by rintro e w' ⟨rfl, rfl⟩; exact ⟨rfl, hS, ⟨1, rfl⟩⟩)) (fun w2 hS hT => ?_)
  simp only [Act.put, List.setIfInBounds_toArray, List.set_cons_zero, List.set_cons_succ]
  refine d_take 14 18 rfl rfl (by kernel_rfl) (by kernel_rfl) (by kernel_rfl) (fun _ _ _ h => h) rfl (fun w' hw' => er_mv _ rfl (.tuple #[.int .i64 v, .bool yb]) rfl) hS ?_
  simp only [Act.put, List.setIfInBounds_toArray, List.set_cons_zero, List.set_cons_succ]
  refine d_take 15 33 rfl rfl (by kernel_rfl) (by kernel_rfl) (by kernel_rfl) (fun _ _ _ h => h) rfl (fun w' hw' => er_ext0 _ rfl (.int .i64 v) (.bool yb) rfl) hS ?_
  simp only [Act.put, List.setIfInBounds_toArray, List.set_cons_zero, List.set_cons_succ]
  refine d_take 16 34 rfl rfl (by kernel_rfl) (by kernel_rfl) (by kernel_rfl) (fun _ _ _ h => h) rfl (fun w' hw' => er_ext1 _ rfl (.int .i64 v) (.bool yb) rfl) hS ?_
  simp only [Act.put, List.setIfInBounds_toArray, List.set_cons_zero, List.set_cons_succ]
  refine d_take 17 35 rfl rfl (by kernel_rfl) (by kernel_rfl) (by kernel_rfl) (fun _ _ _ h => h) rfl (fun w' hw' => er_nil _ rfl ⟨g, k, none⟩ rfl) hS ?_
  simp only [Act.put, List.setIfInBounds_toArray, List.set_cons_zero, List.set_cons_succ]
  refine d_take 18 36 rfl rfl (by kernel_rfl) (by kernel_rfl) (by kernel_rfl) (fun _ _ _ h => h) rfl (fun w' hw' => er_pl3 _ rfl g (k) rfl) hS ?_
  simp only [Act.put, List.setIfInBounds_toArray, List.set_cons_zero, List.set_cons_succ]
  obtain ⟨q2, hT⟩ := hT
  have c6 : w2.cell? ⟨g, k + 6, none⟩ = some (.int .i64 r) := by rw [hT]; exact g6
  have d6 : w2.frozen? ⟨g, k + 6, none⟩ = false := by rw [hT]; exact gf
  have c0 : (w2.setCell ⟨g, k + 6, none⟩ (.int .i64 v)).cell? ⟨g, k, none⟩ = some (.int .i64 p) := by rw [cell_set hS.1, if_neg (by omega)]
  have c2 : (w2.setCell ⟨g, k + 6, none⟩ (.int .i64 v)).cell? ⟨g, k + 2, none⟩ = some (.int .i64 o) := by rw [cell_set hS.2.1, if_neg (by omega)]
  have ce : w2.setCell ⟨g, k + 6, none⟩ (.int .i64 v) = (w1.setCell ⟨g, k + 6, none⟩ (.int .i64 v)).drewN q2 := by rw [hT]; rfl
  refine d_turn 19 (by kernel_rfl) rfl rfl rfl (er_st3 _ _ rfl g (k + 6) (.int .i64 r) v rfl rfl c6 d6) ⟨c0, c2, .inr ⟨q2, ce⟩⟩ ?_
  refine wpAnyH_done (by kernel_rfl) ?_ _
  have HF : Hid (w2.setCell ⟨g, k + 6, none⟩ (.int .i64 v) = ((w.setCell ⟨g, k + 5, none⟩ (.int .i64 b)).setCell ⟨g, k + 6, none⟩ (.int .i64 v)).drewN q2) := by show _ = _; rw [ce, HE.out]
  clear c0 c2 ce hS hT c6 d6 g0 g2 g6 gf
  generalize w2.setCell ⟨g, k + 6, none⟩ (.int .i64 v) = w3 at *
  go_wp2
  go_end0
  exact ⟨⟨_, rfl⟩, q2, HF.out⟩
end Go.Proofs.YtibmgpinfdcaoaaGreatDoor
