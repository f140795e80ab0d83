/-
  Events in memory; Counts.
-/
import Derived.Test.YtehbfankjpaloaaGreatDoorZCel
import Derived.Deep.MidRow
import Derived.Deep.RegionHeld
namespace Go.Proofs.YtehbfankjpaloaaGreatDoor
open Go.RowKit Plain
set_option linter.unusedVariables false
set_option linter.unusedSimpArgs false
set_option maxRecDepth 100000

structure Evt where
  t : Int
  p : Int
  k : Int
  r : Int
  ea : Int
  eb : Int
  da : Option Addr
  dn : Nat
  dc : Nat
def dEvt : Evt := ⟨0, 0, 0, 0, 0, 0, none, 0, 0⟩
def Evt.v (x : Evt) : List Value := [.int .i64 x.t, .int .i64 x.p, .int .i64 x.k, .int .i64 x.r, .int .i64 x.ea, .int .i64 x.eb, .slice x.da x.dn x.dc]
structure Es (w : World) (F : Nat → Prop) (a : Option Addr) (n c : Nat) (xs : List Evt) : Prop where
  len : xs.length = n
  cap : n ≤ c
  max : c ≤ 9223372036854775807
  at' : ∀ i, i < n → ∃ b o, a = some ⟨b, o, none⟩ ∧ F b ∧ (∀ j v, (xs.getD i dEvt).v[j]? = some v → w.cell? ⟨b, o + i * 7 + j, none⟩ = some v)
theorem Es.kept {w w' : World} {F G : Nat → Prop} {a : Option Addr} {n c : Nat} {xs : List Evt} (h : Es w F a n c xs) (k : Kept G w w') (hd : ∀ b, F b → ¬ G b) : Es w' F a n c xs :=
  ⟨h.len, h.cap, h.max, fun i hi => by obtain ⟨b, o, e, hb, hc⟩ := h.at' i hi; exact ⟨b, o, e, hb, fun j v hv => k.cell (hc j v hv) (hd b hb)⟩⟩
theorem Es.keep {w w' : World} {F : Nat → Prop} {a : Option Addr} {n c : Nat} {xs : List Evt} (h : Es w F a n c xs) (k : Kept No w w') : Es w' F a n c xs := h.kept k (fun _ _ h => h)
theorem Tryz.infoE : (Tryz.prog.info? 25).map (·.size) = some 7 := by kernel_rfl
theorem Tryz.infoEv : (Tryz.prog.info? 25).map (fun i => (i.zero, i.size, i.bytes)) = some (some (.agg #[.int .i64 0, .int .i64 0, .int .i64 0, .int .i64 0, .int .i64 0, .int .i64 0, .slice none 0 0]), 7, 72) := by kernel_rfl
theorem run_ldE {w : World} {b o : Nat} {x : Evt} (h : ∀ j v, x.v[j]? = some v → w.cell? ⟨b, o + j, none⟩ = some v) : (Instr.loadAt 25 (.pointer (some ⟨b, o, none⟩))).run Tryz.prog w = .ok (.agg x.v.toArray) w :=
  run_loadAt_mid w b o _ x.v _ h Tryz.underlying25 rfl Tryz.infoE

/-- how many of the first n are of this part and this kind -/
def ctE (xs : List Evt) (p : Int) : Nat → Nat → Int
  | 0, _ => 0
  | n + 1, k => ctE xs p n k + (if (xs.getD n dEvt).p = p ∧ (xs.getD n dEvt).k = (k : Int) + 1 then 1 else 0)
theorem ctE_bd (xs : List Evt) (p : Int) : ∀ n k, 0 ≤ ctE xs p n k ∧ ctE xs p n k ≤ n
  | 0, _ => ⟨Int.le_refl _, Int.le_refl _⟩
  | n + 1, k => by
    have := ctE_bd xs p n k
    rw [ctE]
    split <;> omega

theorem ctE_hit {xs : List Evt} {p : Int} {n q : Nat} (h1 : (xs.getD n dEvt).p = p) (h2 : (xs.getD n dEvt).k = (q : Int) + 1) : ctE xs p (n + 1) = upI (ctE xs p n) q (ctE xs p n q + 1) := by
  funext j
  rw [ctE]
  by_cases e : j = q
  · subst e; rw [upI_same, if_pos ⟨h1, h2⟩]
  · rw [upI_oth _ _ e, if_neg (fun h => e (by have := h.2; omega))]; omega
theorem ctE_miss {xs : List Evt} {p : Int} {n : Nat} (h : ¬ ((xs.getD n dEvt).p = p ∧ 1 ≤ (xs.getD n dEvt).k ∧ (xs.getD n dEvt).k ≤ 12)) : ∀ j, j < 12 → ctE xs p n j = ctE xs p (n + 1) j := fun j hj => by
  rw [ctE, if_neg (fun h' => h ⟨h'.1, by have := h'.2; omega, by have := h'.2; omega⟩)]
  omega
theorem Cw.congr {w : World} {g m : Nat} {f f' : Nat → Int} (h : Cw w g m f) (e : ∀ j, j < m → f j = f' j) : Cw w g m f' := ⟨fun i hi => by rw [← e i hi]; exact h.at' i hi, h.fz, h.blk⟩

set_option maxHeartbeats 8000000 in
theorem counts_any {F : Nat → Prop} {a : Option Addr} {n c : Nat} {xs : List Evt} (p : Int) (w : World) (h : Es w F a n c xs) (hF : ∀ k, F k → k < w.heap.size) :
    Calls Tryz.prog 4 #[.slice a n c, .int .i64 p] w fun e w' => ∃ g, e = .returned (.slice (some ⟨g, 0, none⟩) 12 12) ∧ w.heap.size ≤ g ∧ Cw w' g 12 (ctE xs p n) ∧ Kept No w w' := by
  have hn : n ≤ 9223372036854775807 := Nat.le_trans h.cap h.max
  obtain ⟨w1, hm, hcw, hk1, hs1⟩ := make_row w 12 (by omega)
  have HM : Hid (Cw w1 w.heap.size 12 (fun _ => 0) ∧ Kept No w w1 ∧ w1.heap.size = w.heap.size + 1) := ⟨hcw, hk1, hs1⟩
  have HE : Hid (Es w F a n c xs ∧ ∀ k, F k → k < w.heap.size) := ⟨h, hF⟩
  clear hcw hk1 hs1 h hF
  obtain ⟨g, hg⟩ : ∃ g, g = w.heap.size := ⟨_, rfl⟩
  have HG : Hid (g = w.heap.size) := hg
  rw [← hg, show ((12 : Nat) : Int) = 12 from rfl] at hm
  clear hg
  go_enter Tryz.func4, Tryz.ntmps4
  go_upto_region 2 with fail
  go_wp2
  go_loopw [11] (fun i wr => ∃ k : Nat, k ≤ n ∧ i = .int .i64 k ∧ Cw wr g 12 (ctE xs p k) ∧ Kept (fun b => b = g) w1 wr) (fun i _ => n - (intOf i).toNat)
  case atStart =>
    refine ⟨0, by omega, rfl, ?_, Kept.refl _ _⟩
    have := HM.out.1
    rw [← HG.out] at this
    exact this
  case round =>
    obtain ⟨k, hk, rfl, hcw, K⟩ := hrel
    have HC : Hid (Cw wr g 12 (ctE xs p k) ∧ Kept (fun b => b = g) w1 wr) := ⟨hcw, K⟩
    clear hcw K
    by_cases hlt : k < n
    · have KW : Kept (fun b => b = g) w wr := (HM.out.2.1.mono (fun _ h => h.elim)).trans HC.out.2 (fun k h => .inl h)
      obtain ⟨b, o, rfl, hb, hc⟩ := HE.out.1.at' k hlt
      have hbg : b ≠ g := fun e => by have := HE.out.2 b hb; rw [e, HG.out] at this; omega
      have hc2 : ∀ j v, (xs.getD k dEvt).v[j]? = some v → wr.cell? ⟨b, o + k * 7 + j, none⟩ = some v := fun j v hv => KW.cell (hc j v hv) hbg
      have HB : Hid (∀ q, 0 ≤ ctE xs p k q ∧ ctE xs p k q ≤ k) := ctE_bd xs p k
      obtain ⟨x, hx⟩ : ∃ x, x = xs.getD k dEvt := ⟨_, rfl⟩
      have HH : Hid (∀ q : Nat, x.p = p → x.k = (q : Int) + 1 → ctE xs p (k + 1) = upI (ctE xs p k) q (ctE xs p k q + 1)) := fun q h1 h2 => ctE_hit (by rw [← hx]; exact h1) (by rw [← hx]; exact h2)
      have HM2 : Hid (¬ (x.p = p ∧ 1 ≤ x.k ∧ x.k ≤ 12) → ∀ j, j < 12 → ctE xs p k j = ctE xs p (k + 1) j) := fun h => ctE_miss (by rw [← hx]; exact h)
      rw [← hx] at hc hc2
      clear hx
      obtain ⟨xt, xp, xk, xr, xa, xb, xda, xdn, xdc⟩ := x
      simp only at HH HM2
      have hi2 : (k : Int) < (n : Int) := by omega
      have HA : Hid (∀ o, Cw (wr.alloc o) g 12 (ctE xs p k) ∧ Kept (fun b => b = g) w1 (wr.alloc o)) := fun o => ⟨HC.out.1.keep ((Kept.refl No wr).alloc o), HC.out.2.alloc o⟩
      have r0 := hc2 0 _ rfl
      have r1 := hc2 1 _ rfl
      have r2 := hc2 2 _ rfl
      have r3 := hc2 3 _ rfl
      have r4 := hc2 4 _ rfl
      have r5 := hc2 5 _ rfl
      have r6 := hc2 6 _ rfl
      rw [Nat.add_zero] at r0
      clear hc hc2 KW
      simp only at r0 r1 r2 r3 r4 r5 r6
      have hkm : (k : Int) ≤ 9223372036854775807 := by omega
      by_cases hp : xp = p
      · by_cases hk1 : 1 ≤ xk
        · by_cases hk2 : xk ≤ 12
          · subst hp
            obtain ⟨q, rfl⟩ : ∃ q : Nat, xk = (q : Int) + 1 := ⟨(xk - 1).toNat, by omega⟩
            have hq : q < 12 := by omega
            have HR : Hid (ctE xs xp (k + 1) = upI (ctE xs xp k) q (ctE xs xp k q + 1)) := HH.out q rfl rfl
            have hb := HB.out q
            obtain ⟨f0, hf0⟩ : ∃ f0, f0 = ctE xs xp k := ⟨_, rfl⟩
            rw [← hf0] at HA HR hb
            have HC2 : Hid (∀ o, ((wr.alloc o).cell? ⟨g, q, none⟩ = some (.int .i64 (f0 q))) ∧ (wr.alloc o).frozen? ⟨g, q, none⟩ = false) := fun o => ⟨(HA.out o).1.at' q hq, (HA.out o).1.fz q⟩
            have c1 := fun o => (HC2.out o).1
            have c2 := fun o => (HC2.out o).2
            have hq2 : (q : Int) < 12 := by omega
            have e1 : ((q : Int) + 1) - 1 = (q : Int) := by omega
            clear hf0
            go_wp2
            go_roundw
            case rel =>
              refine ⟨k + 1, by omega, by go_num, ?_, (HA.out _).2.trans kept_set (fun b hb => .inl hb)⟩
              rw [HR.out]
              exact (HA.out _).1.set q (f0 q + 1)
            case measure => simp [intOf]; omega
          · have HN : Hid (∀ j, j < 12 → ctE xs p k j = ctE xs p (k + 1) j) := HM2.out (fun h => by first | exact hp h.1 | exact hk1 h.2.1 | exact hk2 h.2.2)
            have g2 : decide (xk ≤ 12) = false := decide_eq_false hk2
            go_wp2
            go_roundw
            case rel => exact ⟨k + 1, by omega, by go_num, (HA.out _).1.congr HN.out, (HA.out _).2⟩
            case measure => simp [intOf]; omega
        · have HN : Hid (∀ j, j < 12 → ctE xs p k j = ctE xs p (k + 1) j) := HM2.out (fun h => by first | exact hp h.1 | exact hk1 h.2.1 | exact hk2 h.2.2)
          have g2 : decide (1 ≤ xk) = false := decide_eq_false hk1
          go_wp2
          go_roundw
          case rel => exact ⟨k + 1, by omega, by go_num, (HA.out _).1.congr HN.out, (HA.out _).2⟩
          case measure => simp [intOf]; omega
      · have HN : Hid (∀ j, j < 12 → ctE xs p k j = ctE xs p (k + 1) j) := HM2.out (fun h => by first | exact hp h.1 | exact hk1 h.2.1 | exact hk2 h.2.2)
        have g2 : (xp == p) = false := by simpa using hp
        go_wp2
        go_roundw
        case rel => exact ⟨k + 1, by omega, by go_num, (HA.out _).1.congr HN.out, (HA.out _).2⟩
        case measure => simp [intOf]; omega
    · obtain rfl : k = n := by omega
      go_wp2
      go_ret
      refine ⟨g, rfl, ?_, HC.out.1, ?_⟩
      · rw [HG.out]; exact Nat.le_refl _
      · exact HM.out.2.1.trans HC.out.2 (fun b hb => .inr (by subst hb; rw [HG.out]; exact Nat.le_refl _))
end Go.Proofs.YtehbfankjpaloaaGreatDoor
