/-
  The rows' functions of servers, the tables, 'Servers'.
-/
import Derived.Test.YthdmbikmjimmkaaGreatDoorCEachL
namespace Go.Proofs.YthdmbikmjimmkaaGreatDoor
open Go.RowKit
set_option linter.unusedVariables false
set_option maxRecDepth 100000

def inB (n lo hi : Int) : Bool := decide (lo ≤ n) && decide (n ≤ hi)

theorem within_any (n lo hi : Int) (w : World) :
    Calls Tryz.prog 64 #[.int .i64 n, .int .i64 lo, .int .i64 hi] w fun e w' => e = .returned (.bool (inB n lo hi)) ∧ w' = w := by
  by_cases h : lo ≤ n
  · by_cases h2 : n ≤ hi
    · rw [show inB n lo hi = true by simp [inB, h, h2]]
      go_enter Tryz.func64, Tryz.ntmps64
      go_wp2
      go_ret
      exact ⟨rfl, rfl⟩
    · rw [show inB n lo hi = false by simp [inB, h2]]
      go_enter Tryz.func64, Tryz.ntmps64
      go_wp2
      go_ret
      exact ⟨rfl, rfl⟩
  · rw [show inB n lo hi = false by simp [inB, h]]
    go_enter Tryz.func64, Tryz.ntmps64
    go_wp2
    go_ret
    exact ⟨rfl, rfl⟩

theorem srow1 (x : Srv) (w : World) : Calls Tryz.prog 63 #[x.v] w fun e w' => e = .returned (.bool (inB x.p 1 1048576)) ∧ Kept No w w' := by
  obtain ⟨p, b, o, q⟩ := x
  have HK : Hid (Kept No w (w.alloc (.cells #[.int .i64 p, .int .i64 b, .int .i64 o, .int .i64 q] 47))) := (Kept.refl No w).alloc _
  show Calls Tryz.prog 63 #[.agg #[.int .i64 p, .int .i64 b, .int .i64 o, .int .i64 q]] w fun e w' => e = .returned (.bool (inB p 1 1048576)) ∧ Kept No w w'
  go_enter Tryz.func63, Tryz.ntmps63
  go_wp2_with (go_at_call 64; refine (within_any _ _ _ _).mono ?_; rintro e w' ⟨rfl, rfl⟩)
  go_ret
  exact ⟨rfl, HK.out⟩
theorem srow2 (x : Srv) (w : World) : Calls Tryz.prog 65 #[x.v] w fun e w' => e = .returned (.bool (inB x.b 1 x.p)) ∧ Kept No w w' := by
  obtain ⟨p, b, o, q⟩ := x
  have HK : Hid (Kept No w (w.alloc (.cells #[.int .i64 p, .int .i64 b, .int .i64 o, .int .i64 q] 47))) := (Kept.refl No w).alloc _
  show Calls Tryz.prog 65 #[.agg #[.int .i64 p, .int .i64 b, .int .i64 o, .int .i64 q]] w fun e w' => e = .returned (.bool (inB b 1 p)) ∧ Kept No w w'
  go_enter Tryz.func65, Tryz.ntmps65
  go_wp2_with (go_at_call 64; refine (within_any _ _ _ _).mono ?_; rintro e w' ⟨rfl, rfl⟩)
  go_ret
  exact ⟨rfl, HK.out⟩
theorem srow3 (x : Srv) (w : World) : Calls Tryz.prog 66 #[x.v] w fun e w' => e = .returned (.bool (inB x.o 0 (wrap64 (x.p - 1)))) ∧ Kept No w w' := by
  obtain ⟨p, b, o, q⟩ := x
  have HK : Hid (Kept No w (w.alloc (.cells #[.int .i64 p, .int .i64 b, .int .i64 o, .int .i64 q] 47))) := (Kept.refl No w).alloc _
  show Calls Tryz.prog 66 #[.agg #[.int .i64 p, .int .i64 b, .int .i64 o, .int .i64 q]] w fun e w' => e = .returned (.bool (inB o 0 (wrap64 (p - 1)))) ∧ Kept No w w'
  go_enter Tryz.func66, Tryz.ntmps66
  go_wp2_with (go_at_call 64; refine (within_any _ _ _ _).mono ?_; rintro e w' ⟨rfl, rfl⟩)
  go_ret
  exact ⟨rfl, HK.out⟩
theorem srow4 (x : Srv) (w : World) : Calls Tryz.prog 67 #[x.v] w fun e w' => e = .returned (.bool (inB x.q 0 255)) ∧ Kept No w w' := by
  obtain ⟨p, b, o, q⟩ := x
  have HK : Hid (Kept No w (w.alloc (.cells #[.int .i64 p, .int .i64 b, .int .i64 o, .int .i64 q] 47))) := (Kept.refl No w).alloc _
  show Calls Tryz.prog 67 #[.agg #[.int .i64 p, .int .i64 b, .int .i64 o, .int .i64 q]] w fun e w' => e = .returned (.bool (inB q 0 255)) ∧ Kept No w w'
  go_enter Tryz.func67, Tryz.ntmps67
  go_wp2_with (go_at_call 64; refine (within_any _ _ _ _).mono ?_; rintro e w' ⟨rfl, rfl⟩)
  go_ret
  exact ⟨rfl, HK.out⟩

/-- has the block g a server of that priority? -/
theorem own1 (x : Srv) (g : Nat) (q : Int) (w : World) (h : w.cell? ⟨g, 3, none⟩ = some (.int .i64 q)) :
    Calls Tryz.prog 81 #[x.v, .pointer (some ⟨g, 0, none⟩)] w fun e w' => e = .returned (.bool (decide (x.q = q))) ∧ Kept No w w' := by
  obtain ⟨p, b, o, q'⟩ := x
  have HK : Hid (Kept No w (w.alloc (.cells #[.int .i64 p, .int .i64 b, .int .i64 o, .int .i64 q'] 47))) := (Kept.refl No w).alloc _
  have h' := HK.out.cell h (fun h => h)
  show Calls Tryz.prog 81 #[.agg #[.int .i64 p, .int .i64 b, .int .i64 o, .int .i64 q'], .pointer (some ⟨g, 0, none⟩)] w fun e w' => e = .returned (.bool (decide (q' = q))) ∧ Kept No w w'
  clear h
  go_enter Tryz.func81, Tryz.ntmps81
  go_wp2
  go_ret
  exact ⟨rfl, HK.out⟩

/-- the first place whose priority is q, or -1 -/
def idxF (xs : List Srv) (q : Int) : Nat → Int
  | 0 => -1
  | k + 1 => if idxF xs q k = -1 then (if (xs.getD k ⟨0, 0, 0, 0⟩).q = q then k else -1) else idxF xs q k
theorem idxF_hit {xs : List Srv} {q : Int} {k : Nat} (h : idxF xs q k = -1) (he : (xs.getD k ⟨0, 0, 0, 0⟩).q = q) : ∀ n, k < n → idxF xs q n = k
  | 0, hn => by omega
  | n + 1, hn => by
    rcases Nat.lt_or_eq_of_le (Nat.lt_succ_iff.1 hn) with h1 | h1
    · have ih := idxF_hit h he n h1
      rw [idxF, ih, if_neg (by omega)]
    · subst h1; rw [idxF, if_pos h, if_pos he]
theorem idxF_miss {xs : List Srv} {q : Int} {k : Nat} (h : idxF xs q k = -1) (he : ¬ (xs.getD k ⟨0, 0, 0, 0⟩).q = q) : idxF xs q (k + 1) = -1 := by rw [idxF, if_pos h, if_neg he]

set_option maxHeartbeats 4000000 in
theorem index_any (F : Nat → Prop) (a : Option Addr) (n c : Nat) (xs : List Srv) (g : Nat) (q : Int) (w : World) (h : Sv w F a n c xs) (hg : w.cell? ⟨g, 3, none⟩ = some (.int .i64 q)) :
    Calls Tryz.prog 89 #[.slice a n c, .func (.func 81) #[] #[.pointer (some ⟨g, 0, none⟩)]] w fun e w' => e = .returned (.int .i64 (idxF xs q n)) ∧ Kept No w w' := by
  have hn : n ≤ 9223372036854775807 := Nat.le_trans h.cap h.max
  have H : Hid (Sv w F a n c xs) := h
  have HG : Hid (w.cell? ⟨g, 3, none⟩ = some (.int .i64 q)) := hg
  clear h hg
  go_enter Tryz.func89, Tryz.ntmps89
  go_wp2
  go_loopw [8] (fun x wr => ∃ k : Nat, k ≤ n ∧ x = .int .i64 k ∧ Kept No w wr ∧ idxF xs q k = -1) (fun x _ => n - (intOf x).toNat)
  case atStart => exact ⟨0, by omega, rfl, Kept.refl No w, rfl⟩
  case round =>
    obtain ⟨k, hk, rfl, hkr, hno⟩ := hrel
    have HNO : Hid (idxF xs q k = -1) := hno
    have HKR : Hid (Kept No w wr) := hkr
    clear hno
    by_cases hlt : k < n
    · have hx : xs[k]? = some (xs.getD k ⟨0, 0, 0, 0⟩) := by rw [List.getD, List.getElem?_eq_getElem (by rw [H.out.len]; exact hlt)]; rfl
      obtain ⟨hok, b, o, rfl, hb, c0, c1, c2, c3⟩ := (H.out.keep hkr).at' k _ hx
      have hc := own1 (xs.getD k ⟨0, 0, 0, 0⟩) g q wr (hkr.cell HG.out (fun h => h))
      clear hx hok hkr
      by_cases he : (xs.getD k ⟨0, 0, 0, 0⟩).q = q
      · have HF : Hid (idxF xs q n = k) := idxF_hit HNO.out he n hlt
        rw [show decide ((xs.getD k ⟨0, 0, 0, 0⟩).q = q) = true by simp only [he, decide_true]] at hc
        clear he HNO
        generalize xs.getD k ⟨0, 0, 0, 0⟩ = y at *
        obtain ⟨yp, yb, yo, yq⟩ := y
        simp only [Srv.v] at c0 c1 c2 c3 hc
        go_wp2_with (go_at_call 81; refine hc.mono ?_; rintro e w' ⟨rfl, hk2⟩; have HW6 : Hid (Kept No w w') := HKR.out.trans hk2 (fun _ h => h.elim); clear hk2)
        go_ret
        exact ⟨by rw [HF.out]; rfl, HW6.out⟩
      · have HF : Hid (idxF xs q (k + 1) = -1) := idxF_miss HNO.out he
        rw [show decide ((xs.getD k ⟨0, 0, 0, 0⟩).q = q) = false by simp only [he, decide_false]] at hc
        clear he HNO
        generalize xs.getD k ⟨0, 0, 0, 0⟩ = y at *
        obtain ⟨yp, yb, yo, yq⟩ := y
        simp only [Srv.v] at c0 c1 c2 c3 hc
        go_wp2_with (go_at_call 81; refine hc.mono ?_; rintro e w' ⟨rfl, hk2⟩; have HW6 : Hid (Kept No w w') := HKR.out.trans hk2 (fun _ h => h.elim); clear hk2)
        go_roundw
        case rel => exact ⟨k + 1, by omega, by go_num, HW6.out, HF.out⟩
        case measure => simp [intOf]; omega
    · have hke : k = n := by omega
      subst hke
      clear hkr
      go_wp2
      go_ret
      exact ⟨by rw [HNO.out]; rfl, HKR.out⟩

theorem idx_ge (xs : List Srv) (q : Int) : ∀ k, -1 ≤ idxF xs q k
  | 0 => by simp [idxF]
  | k + 1 => by rw [idxF]; have := idx_ge xs q k; split <;> (try split) <;> omega

theorem contains_any (F : Nat → Prop) (a : Option Addr) (n c : Nat) (xs : List Srv) (g : Nat) (q : Int) (w : World) (h : Sv w F a n c xs) (hg : w.cell? ⟨g, 3, none⟩ = some (.int .i64 q)) :
    Calls Tryz.prog 80 #[.slice a n c, .func (.func 81) #[] #[.pointer (some ⟨g, 0, none⟩)]] w fun e w' => e = .returned (.bool (decide (0 ≤ idxF xs q n))) ∧ Kept No w w' := by
  have hc := index_any F a n c xs g q w h hg
  clear h hg
  generalize idxF xs q n = z at *
  go_enter Tryz.func80, Tryz.ntmps80
  go_wp2_with (go_at_call 89; refine hc.mono ?_; rintro e w' ⟨rfl, hk2⟩; have HW6 : Hid (Kept No w w') := hk2; clear hk2)
  go_ret
  exact ⟨rfl, HW6.out⟩

theorem srow5 (F : Nat → Prop) (a : Option Addr) (n c : Nat) (xs : List Srv) (x : Srv) (w : World) (h : Sv w F a n c xs) :
    Calls Tryz.prog 68 #[x.v, .slice a n c] w fun e w' => e = .returned (.bool (!decide (0 ≤ idxF xs x.q n))) ∧ Kept No w w' := by
  obtain ⟨p, b, o, q⟩ := x
  have HK : Hid (Kept No w (w.alloc (.cells #[.int .i64 p, .int .i64 b, .int .i64 o, .int .i64 q] 47))) := (Kept.refl No w).alloc _
  have hc := contains_any F a n c xs w.heap.size q _ (h.keep HK.out) (by simp)
  have hmf : ∀ (fn : Fn) (first cap : Array Value) (w : World), (Instr.makeFunc fn first cap).run Tryz.prog w = .ok (.func fn first cap) w := fun _ _ _ _ => rfl
  show Calls Tryz.prog 68 #[.agg #[.int .i64 p, .int .i64 b, .int .i64 o, .int .i64 q], .slice a n c] w fun e w' => e = .returned (.bool (!decide (0 ≤ idxF xs q n))) ∧ Kept No w w'
  clear h
  generalize decide (0 ≤ idxF xs q n) = z at *
  go_enter Tryz.func68, Tryz.ntmps68
  go_wp2_with (go_at_call 80; refine hc.mono ?_; rintro e w' ⟨rfl, hk2⟩; have HW6 : Hid (Kept No w w') := HK.out.trans hk2 (fun _ h => h.elim); clear hk2)
  go_ret
  exact ⟨rfl, HW6.out⟩

theorem lrow1 (a : Option Addr) (n c : Nat) (w : World) (hn : n ≤ 9223372036854775807) :
    Calls Tryz.prog 61 #[.slice a n c] w fun e w' => e = .returned (.bool (decide (n ≤ 32))) ∧ Kept No w w' := by
  have HK : Hid (Kept No w w) := Kept.refl No w
  by_cases h : n ≤ 32
  · rw [show decide (n ≤ 32) = true by simp [h]]
    go_enter Tryz.func61, Tryz.ntmps61
    go_wp2
    go_ret
    exact ⟨by simp; omega, HK.out⟩
  · rw [show decide (n ≤ 32) = false by simp [h]]
    go_enter Tryz.func61, Tryz.ntmps61
    go_wp2
    go_ret
    exact ⟨by simp; omega, HK.out⟩
end Go.Proofs.YthdmbikmjimmkaaGreatDoor
