/-
  One text: WBd, WAs.
-/
import Derived.Test.YtggejpccjmolhaaGreatDoorG41
import Derived.Test.YtggejpccjmolhaaGreatDoorWCa
import Derived.Deep.RegionWith
namespace Go.Proofs.YtggejpccjmolhaaGreatDoor
open Go.RowKit Plain
set_option linter.unusedVariables false
set_option linter.unusedSimpArgs false
set_option maxRecDepth 100000

/-- a finding is an error -/
def Bad (o : Option (Int × Int)) : Prop := ∀ q, o = some q → q.1 ≠ 0
theorem eachF_bad {r : Nat → Int} {first : Int} : ∀ n, Bad (eachF r first n)
  | 0 => fun q h => by cases h
  | n + 1 => fun q h => by
    rw [eachF] at h
    cases he : eachF r first n with
    | some p => rw [he] at h; exact eachF_bad n q (by rw [he]; exact h)
    | none =>
      rw [he] at h
      by_cases hz : r n = 0
      · rw [if_pos hz] at h; cases h
      · rw [if_neg hz] at h; injection h with h; subst h; exact hz
theorem firstF_bad {s : Nat → Option (Int × Int)} : ∀ n, (∀ j, j < n → Bad (s j)) → Bad (firstF s n)
  | 0, _ => fun q h => by cases h
  | n + 1, hs => fun q h => by
    rw [firstF] at h
    cases he : firstF s n with
    | some p => rw [he] at h; exact firstF_bad n (fun j hj => hs j (by omega)) q (by rw [he]; exact h)
    | none => rw [he] at h; exact hs n (by omega) q h
theorem timF_bad (xs : List Srv) (n : Nat) : Bad (timF xs n) := fun q h => by
  unfold timF at h
  cases hf : findF xs n with
  | some p =>
    rw [hf] at h
    injection h with h
    subst h
    unfold findF at hf
    split at hf
    · exact eachF_bad n _ hf
    · injection hf with hf; subst hf; simp
  | none =>
    rw [hf] at h
    change togF xs n = some q at h
    unfold togF at h
    split at h
    · split at h
      · cases h
      · injection h with h; subst h; simp
    · injection h with h; subst h; simp
theorem stS_bad (x : Im) (j : Nat) (hj : j < 6) : Bad (stS x j) := by
  match j, hj with
  | 0, _ =>
    intro q h
    simp only [stS] at h
    split at h
    · cases h
    · injection h with h; subst h; simp
  | 1, _ => exact eachF_bad _
  | 2, _ => exact timF_bad _ _
  | 3, _ => exact eachF_bad _
  | 4, _ => exact eachF_bad _
  | 5, _ => exact eachF_bad _
theorem chk_none {x : Im} (h : fe (chkF x) = 0) : chkF x = none := by
  cases hc : chkF x with
  | none => rfl
  | some q => rw [hc] at h; exact absurd h (firstF_bad 6 (stS_bad x) q hc)
theorem chk_tim {x : Im} (h : chkF x = none) : timF (svs x.parts) x.parts.length = none := firstF_none h 2 (by omega)
theorem chk_cnt {x : Im} (h : chkF x = none) {i : Nat} (hi : i < x.parts.length) : ∀ j, j < 6 → bCn (x.parts.getD i dPn) j = true := by
  have h1 := firstF_none h 1 (by omega)
  have h2 := eachF_none (show eachF (fun i => rowsF (fun j => if bCn (x.parts.getD i dPn) j then 0 else 100) 6) 1 x.parts.length = none from h1) i hi
  intro j hj
  have h3 := rowsF_zero h2 j hj
  cases hb : bCn (x.parts.getD i dPn) j with
  | true => rfl
  | false =>
    rw [hb] at h3
    simp at h3

theorem bch_all {x : Im} (h : chkF x = none) {i : Nat} (hi : i < x.chans.length) : ∀ j, j < 8 → bCh x.ports x.chans i j = true := by
  have h1 := firstF_none h 5 (by omega)
  have h2 := eachF_none (show eachF (fun i => rowsF (fun j => if bCh x.ports x.chans i j then 0 else 108) 8) 1 x.chans.length = none from h1) i hi
  intro j hj
  have h3 := rowsF_zero h2 j hj
  cases hb : bCh x.ports x.chans i j with
  | true => rfl
  | false => rw [hb] at h3; simp at h3
theorem bpo_all {x : Im} (h : chkF x = none) {i : Nat} (hi : i < x.ports.length) : ∀ j, j < 5 → bPo x.parts.length (x.ports.getD i ⟨0, 0, false, 0, 0, 0⟩) j = true := by
  have h1 := firstF_none h 4 (by omega)
  have h2 := eachF_none (show eachF (fun i => rowsF (fun j => if bPo x.parts.length (x.ports.getD i ⟨0, 0, false, 0, 0, 0⟩) j then 0 else 107) 5) 1 x.ports.length = none from h1) i hi
  intro j hj
  have h3 := rowsF_zero h2 j hj
  cases hb : bPo x.parts.length (x.ports.getD i ⟨0, 0, false, 0, 0, 0⟩) j with
  | true => rfl
  | false => rw [hb] at h3; simp at h3
end Go.Proofs.YtggejpccjmolhaaGreatDoor

namespace Go.Proofs.YtggejpccjmolhaaGreatDoor
open Go.RowKit Plain
set_option linter.unusedVariables false
set_option linter.unusedSimpArgs false
set_option maxRecDepth 100000

/-- what ask tells -/
def askE (er : Int) (b : Bool) : Int := if er ≠ 0 then er else if b then 0 else 2
def askN (er : Int) (b : Bool) (n : Int) : Int := if er ≠ 0 then 0 else if b then n else 0
def askB (er : Int) (b : Bool) (n : Bool) : Bool := if er ≠ 0 then false else b && n
theorem imb (w : World) (v0 v1 v2 : Value) : Kept No w (w.alloc (.cells #[v0, v1, v2] 26)) ∧ ∀ W, Kept No (w.alloc (.cells #[v0, v1, v2] 26)) W → W.cell? ⟨w.heap.size, 0, none⟩ = some v0 ∧ W.cell? ⟨w.heap.size, 1, none⟩ = some v1 ∧ W.cell? ⟨w.heap.size, 2, none⟩ = some v2 ∧ Kept No w W :=
  ⟨(Kept.refl No w).alloc _, fun W k => ⟨k.cell (by simp) (fun h => h), k.cell (by simp) (fun h => h), k.cell (by simp) (fun h => h), ((Kept.refl No w).alloc _).trans k (fun _ h => h.elim)⟩⟩

set_option maxHeartbeats 8000000 in
theorem askI_any {F : Nat → Prop} {a0 : Option Addr} {n0 c0 : Nat} {a1 : Option Addr} {n1 c1 : Nat} {a2 : Option Addr} {n2 c2 : Nat} {x : Im} (g : Nat) (lb : Array Value) (n : Int) (b : Bool) (w : World) (hen : Enters Tryz.prog g) (hg : Gl w) (h : Img w F a0 n0 c0 a1 n1 c1 a2 n2 c2 x)
    (hB : ∀ W, Kept No w W → chkF x = none → Calls Tryz.prog g lb W fun e w' => e = .returned (.tuple #[.int .i64 n, .bool b]) ∧ Kept No W w') :
    Calls Tryz.prog 11 #[.agg #[.slice a0 n0 c0, .slice a1 n1 c1, .slice a2 n2 c2], .func (.func g) #[] lb] w fun e w' => e = .returned (.tuple #[.int .i64 (askN (fe (chkF x)) b n), .int .i64 (askE (fe (chkF x)) b)]) ∧ Kept No w w' := by
  obtain ⟨K0, HM0⟩ := imb w (.slice a0 n0 c0) (.slice a1 n1 c1) (.slice a2 n2 c2)
  obtain ⟨m0, m1, m2, _⟩ := HM0 _ (Kept.refl _ _)
  have cC := check_any _ (hg.kept K0) (h.kept K0 (fun _ _ h => h))
  have HB := hid hB
  have HK0 := hid K0
  have HN : Hid (fe (chkF x) = 0 → chkF x = none) := chk_none
  clear hB hg h HM0 K0
  generalize chkF x = ck at *
  obtain ⟨er, her⟩ : ∃ er, er = fe ck := ⟨_, rfl⟩
  rw [← her] at cC HN ⊢
  generalize fn ck = q at *
  clear her
  by_cases e0 : er = 0
  · subst e0
    have HN2 := hid (HN.out rfl)
    have cB : Hid (∀ W, Kept No w W → Calls Tryz.prog g lb W fun e w' => e = .returned (.tuple #[.int .i64 n, .bool b]) ∧ Kept No W w') := fun W k => HB.out W k HN2.out
    clear HB HN HN2
    unfold Enters at hen
    cases b
    · have r1 : askN 0 false n = 0 := rfl
      have r2 : askE 0 false = 2 := rfl
      rw [r1, r2]
      go_enter Tryz.func11, Tryz.ntmps11
      go_wp2_with (first
        | (go_at_call 28; refine cC.mono ?_; clear cC; rintro e w1 ⟨rfl, k1⟩; have K1 : Hid (Kept No w w1) := HK0.out.trans k1 (fun _ h => h.elim); clear k1)
        | (go_at_fn g; refine (cB.out _ K1.out).mono ?_; rintro e w2 ⟨rfl, k2⟩; have K2 : Hid (Kept No w w2) := K1.out.trans k2 (fun _ h => h.elim); clear k2))
      go_ret2
      exact ⟨rfl, K2.out⟩
    · have r1 : askN 0 true n = n := rfl
      have r2 : askE 0 true = 0 := rfl
      rw [r1, r2]
      go_enter Tryz.func11, Tryz.ntmps11
      go_wp2_with (first
        | (go_at_call 28; refine cC.mono ?_; clear cC; rintro e w1 ⟨rfl, k1⟩; have K1 : Hid (Kept No w w1) := HK0.out.trans k1 (fun _ h => h.elim); clear k1)
        | (go_at_fn g; refine (cB.out _ K1.out).mono ?_; rintro e w2 ⟨rfl, k2⟩; have K2 : Hid (Kept No w w2) := K1.out.trans k2 (fun _ h => h.elim); clear k2))
      go_ret2
      exact ⟨rfl, K2.out⟩
  · have r1 : askN er b n = 0 := if_pos e0
    have r2 : askE er b = er := if_pos e0
    rw [r1, r2]
    have e1 : (er != 0) = true := by simpa using e0
    have e2 : (er == 0) = false := by simpa using e0
    clear HB HN hen
    go_enter Tryz.func11, Tryz.ntmps11
    go_wp2_with (go_at_call 28; refine cC.mono ?_; clear cC; rintro e w1 ⟨rfl, k1⟩; have K1 : Hid (Kept No w w1) := HK0.out.trans k1 (fun _ h => h.elim); clear k1)
    go_ret2
    exact ⟨rfl, K1.out⟩

set_option maxHeartbeats 8000000 in
theorem askL_any {F : Nat → Prop} {a0 : Option Addr} {n0 c0 : Nat} {a1 : Option Addr} {n1 c1 : Nat} {a2 : Option Addr} {n2 c2 : Nat} {x : Im} (g : Nat) (lb : Array Value) (n : Bool) (b : Bool) (w : World) (hen : Enters Tryz.prog g) (hg : Gl w) (h : Img w F a0 n0 c0 a1 n1 c1 a2 n2 c2 x)
    (hB : ∀ W, Kept No w W → chkF x = none → Calls Tryz.prog g lb W fun e w' => e = .returned (.tuple #[.bool n, .bool b]) ∧ Kept No W w') :
    Calls Tryz.prog 25 #[.agg #[.slice a0 n0 c0, .slice a1 n1 c1, .slice a2 n2 c2], .func (.func g) #[] lb] w fun e w' => e = .returned (.tuple #[.bool (askB (fe (chkF x)) b n), .int .i64 (askE (fe (chkF x)) b)]) ∧ Kept No w w' := by
  obtain ⟨K0, HM0⟩ := imb w (.slice a0 n0 c0) (.slice a1 n1 c1) (.slice a2 n2 c2)
  obtain ⟨m0, m1, m2, _⟩ := HM0 _ (Kept.refl _ _)
  have cC := check_any _ (hg.kept K0) (h.kept K0 (fun _ _ h => h))
  have HB := hid hB
  have HK0 := hid K0
  have HN : Hid (fe (chkF x) = 0 → chkF x = none) := chk_none
  clear hB hg h HM0 K0
  generalize chkF x = ck at *
  obtain ⟨er, her⟩ : ∃ er, er = fe ck := ⟨_, rfl⟩
  rw [← her] at cC HN ⊢
  generalize fn ck = q at *
  clear her
  by_cases e0 : er = 0
  · subst e0
    have HN2 := hid (HN.out rfl)
    have cB : Hid (∀ W, Kept No w W → Calls Tryz.prog g lb W fun e w' => e = .returned (.tuple #[.bool n, .bool b]) ∧ Kept No W w') := fun W k => HB.out W k HN2.out
    clear HB HN HN2
    unfold Enters at hen
    cases b
    · have r1 : askB 0 false n = false := rfl
      have r2 : askE 0 false = 2 := rfl
      rw [r1, r2]
      go_enter Tryz.func25, Tryz.ntmps25
      go_wp2_with (first
        | (go_at_call 28; refine cC.mono ?_; clear cC; rintro e w1 ⟨rfl, k1⟩; have K1 : Hid (Kept No w w1) := HK0.out.trans k1 (fun _ h => h.elim); clear k1)
        | (go_at_fn g; refine (cB.out _ K1.out).mono ?_; rintro e w2 ⟨rfl, k2⟩; have K2 : Hid (Kept No w w2) := K1.out.trans k2 (fun _ h => h.elim); clear k2))
      go_ret2
      exact ⟨rfl, K2.out⟩
    · have r1 : askB 0 true n = n := rfl
      have r2 : askE 0 true = 0 := rfl
      rw [r1, r2]
      go_enter Tryz.func25, Tryz.ntmps25
      go_wp2_with (first
        | (go_at_call 28; refine cC.mono ?_; clear cC; rintro e w1 ⟨rfl, k1⟩; have K1 : Hid (Kept No w w1) := HK0.out.trans k1 (fun _ h => h.elim); clear k1)
        | (go_at_fn g; refine (cB.out _ K1.out).mono ?_; rintro e w2 ⟨rfl, k2⟩; have K2 : Hid (Kept No w w2) := K1.out.trans k2 (fun _ h => h.elim); clear k2))
      go_ret2
      exact ⟨rfl, K2.out⟩
  · have r1 : askB er b n = false := if_pos e0
    have r2 : askE er b = er := if_pos e0
    rw [r1, r2]
    have e1 : (er != 0) = true := by simpa using e0
    have e2 : (er == 0) = false := by simpa using e0
    clear HB HN hen
    go_enter Tryz.func25, Tryz.ntmps25
    go_wp2_with (go_at_call 28; refine cC.mono ?_; clear cC; rintro e w1 ⟨rfl, k1⟩; have K1 : Hid (Kept No w w1) := HK0.out.trans k1 (fun _ h => h.elim); clear k1)
    go_ret2
    exact ⟨rfl, K1.out⟩

/-- the boxes of a question: the image, two numbers -/
structure Bxs (W : World) (b0 b1 b2 : Nat) (v0 v1 v2 : Value) (k t : Int) : Prop where
  i0 : W.cell? ⟨b0, 0, none⟩ = some v0
  i1 : W.cell? ⟨b0, 1, none⟩ = some v1
  i2 : W.cell? ⟨b0, 2, none⟩ = some v2
  k0 : W.cell? ⟨b1, 0, none⟩ = some (.int .i64 k)
  t0 : W.cell? ⟨b2, 0, none⟩ = some (.int .i64 t)
theorem Bxs.kept {w W : World} {b0 b1 b2 : Nat} {v0 v1 v2 : Value} {k t : Int} (h : Bxs w b0 b1 b2 v0 v1 v2 k t) (K : Kept No w W) : Bxs W b0 b1 b2 v0 v1 v2 k t :=
  ⟨K.cell h.i0 (fun h => h), K.cell h.i1 (fun h => h), K.cell h.i2 (fun h => h), K.cell h.k0 (fun h => h), K.cell h.t0 (fun h => h)⟩
theorem bxs_new (w : World) (v0 v1 v2 : Value) (k t : Int) : Bxs (((w.alloc (.cells #[v0, v1, v2] 26)).alloc (.cells #[.int .i64 k] 3)).alloc (.cells #[.int .i64 t] 3)) w.heap.size (w.heap.size + 1) (w.heap.size + 1 + 1) v0 v1 v2 k t := by
  have B0 := bk_push w [v0, v1, v2] 26
  have B1 := bk_push (w.alloc (.cells #[v0, v1, v2] 26)) [.int .i64 k] 3
  have B2 := bk_push ((w.alloc (.cells #[v0, v1, v2] 26)).alloc (.cells #[.int .i64 k] 3)) [.int .i64 t] 3
  have e1 : (w.alloc (.cells #[v0, v1, v2] 26)).heap.size = w.heap.size + 1 := by simp
  have e2 : ((w.alloc (.cells #[v0, v1, v2] 26)).alloc (.cells #[.int .i64 k] 3)).heap.size = w.heap.size + 1 + 1 := by simp
  rw [e1] at B1
  rw [e2] at B2
  have C1 := B1.kept ((Kept.refl No _).alloc (.cells #[.int .i64 t] 3)) (fun h => h)
  have C0 := B0.kept (((Kept.refl No _).alloc (.cells #[.int .i64 k] 3)).alloc (.cells #[.int .i64 t] 3)) (fun h => h)
  exact ⟨C0.cell (j := 0) rfl, C0.cell (j := 1) rfl, C0.cell (j := 2) rfl, C1.cell (j := 0) rfl, B2.cell (j := 0) rfl⟩

set_option maxHeartbeats 8000000 in
theorem rateC_any {F : Nat → Prop} {v0 v1 : Value} {a : Option Addr} {n c : Nat} {L : List Ch} (b0 b1 b2 : Nat) (k t : Int) (w : World) (hL : Ls 5 elCh w F a n c L) (hk6 : -9223372036854775808 ≤ k ∧ k ≤ 9223372036854775807) (hb : Bxs w b0 b1 b2 v0 v1 (.slice a n c) k t) :
    Calls Tryz.prog 23 #[.pointer (some ⟨b0, 0, none⟩), .pointer (some ⟨b1, 0, none⟩), .pointer (some ⟨b2, 0, none⟩)] w fun e w' => e = .returned (.tuple #[.int .i64 (rtV L k t), .bool (rtB L k t)]) ∧ Kept No w w' := by
  obtain ⟨i0, i1, i2, k0, t0⟩ := hb
  have cR := rate_any F v0 v1 a n c L k t w hL hk6
  clear hL hk6
  go_enter Tryz.func23, Tryz.ntmps23
  go_wp2_with (go_at_call 24; refine cR.mono ?_; clear cR; rintro e w1 ⟨rfl, k1⟩; have K1 := hid k1; clear k1)
  go_ret2
  exact ⟨rfl, K1.out⟩
set_option maxHeartbeats 8000000 in
theorem ageRate_any {F : Nat → Prop} {a0 : Option Addr} {n0 c0 : Nat} {a1 : Option Addr} {n1 c1 : Nat} {a2 : Option Addr} {n2 c2 : Nat} {x : Im} (k t : Int) (w : World) (hg : Gl w) (h : Img w F a0 n0 c0 a1 n1 c1 a2 n2 c2 x) (hk6 : -9223372036854775808 ≤ k ∧ k ≤ 9223372036854775807) :
    Calls Tryz.prog 8 #[.agg #[.slice a0 n0 c0, .slice a1 n1 c1, .slice a2 n2 c2], .int .i64 k, .int .i64 t] w fun e w' => e = .returned (.tuple #[.int .i64 (askN (fe (chkF x)) (rtB x.chans k t) (rtV x.chans k t)), .int .i64 (askE (fe (chkF x)) (rtB x.chans k t))]) ∧ Kept No w w' := by
  have KB : Kept No w (((w.alloc (.cells #[.slice a0 n0 c0, .slice a1 n1 c1, .slice a2 n2 c2] 26)).alloc (.cells #[.int .i64 k] 3)).alloc (.cells #[.int .i64 t] 3)) := (((Kept.refl No w).alloc _).alloc _).alloc _
  have hx := bxs_new w (.slice a0 n0 c0) (.slice a1 n1 c1) (.slice a2 n2 c2) k t
  have cA := askI_any 23 #[.pointer (some ⟨w.heap.size, 0, none⟩), .pointer (some ⟨w.heap.size + 1, 0, none⟩), .pointer (some ⟨w.heap.size + 1 + 1, 0, none⟩)] (rtV x.chans k t) (rtB x.chans k t) _ (eg_of Tryz.func23 (fun args w => rfl)) (hg.kept KB) (h.kept KB (fun _ _ h => h)) (fun W kw _ => rateC_any (F := F) w.heap.size (w.heap.size + 1) (w.heap.size + 1 + 1) k t W (h.cs.kept (KB.trans kw (fun _ h => h.elim)) (fun _ _ h => h) (elCh_kept (KB.trans kw (fun _ h => h.elim)) (fun _ _ h => h))) hk6 (hx.kept kw))
  have HKB := hid KB
  obtain ⟨i0, i1, i2, k0, t0⟩ := hx
  generalize askN (fe (chkF x)) (rtB x.chans k t) (rtV x.chans k t) = V at *
  generalize askE (fe (chkF x)) (rtB x.chans k t) = E at *
  clear hg h hk6 KB
  go_enter Tryz.func8, Tryz.ntmps8
  go_wp2_with (go_at_call 11; refine cA.mono ?_; clear cA; rintro e w1 ⟨rfl, k1⟩; have K1 := hid (HKB.out.trans k1 (fun _ h => h.elim)); clear k1)
  go_ret2
  exact ⟨rfl, K1.out⟩

/-- the oldest -/
def odB (L : List Ch) (k t : Int) : Bool := inB k 1 L.length && ((chNo L k).kd == 0 && inB t 1 1099511627776)
set_option maxHeartbeats 8000000 in
theorem oldC_any {F : Nat → Prop} {v0 v1 : Value} {a : Option Addr} {n c : Nat} {L : List Ch} (b0 b1 b2 : Nat) (k t : Int) (w : World) (hL : Ls 5 elCh w F a n c L) (hk6 : -9223372036854775808 ≤ k ∧ k ≤ 9223372036854775807) (hb : Bxs w b0 b1 b2 v0 v1 (.slice a n c) k t) :
    Calls Tryz.prog 12 #[.pointer (some ⟨b0, 0, none⟩), .pointer (some ⟨b1, 0, none⟩), .pointer (some ⟨b2, 0, none⟩)] w fun e w' => e = .returned (.tuple #[.int .i64 (if odB L k t then t - 1 else 0), .bool (odB L k t)]) ∧ Kept No w w' := by
  have hlen := hL.len
  have cR := achanOf_any F v0 v1 a n c L k w hL hk6
  have HX := hid hb
  obtain ⟨i0, i1, i2, k0, t0⟩ := hb
  obtain ⟨B, hB⟩ : ∃ B, B = odB L k t := ⟨_, rfl⟩
  rw [← hB]
  unfold odB at hB
  rw [hlen] at hB
  generalize chNo L k = z at *
  obtain ⟨z0, z1, z2, z3, z4⟩ := z
  simp only at hB cR
  have HB := hid hB
  clear hL hk6 hB hlen
  generalize inB k 1 n = ok at *
  cases ok
  · obtain rfl := HB.out
    clear HB t0
    go_enter Tryz.func12, Tryz.ntmps12
    go_wp2_with (go_at_call 13; refine cR.mono ?_; clear cR; rintro e w1 ⟨ta, tn, tc, rfl, k1⟩; have K1 := hid k1; clear k1)
    go_ret2
    exact ⟨rfl, K1.out.alloc _⟩
  · by_cases hz : z0 = 0
    · have g0 : (z0 != 0) = false := by simpa using hz
      cases hq : inB t 1 1099511627776
      · have HB2 := hid (show B = false by rw [HB.out, hq]; simp)
        obtain rfl := HB2.out
        have cW : Hid (∀ W, Calls Tryz.prog 14 #[.int .i64 t, .int .i64 1] W fun e w' => e = .returned (.bool false) ∧ w' = W) := fun W => by rw [← hq]; exact awithin_any t 1 W
        clear HB HB2 t0 hq
        subst hz
        go_enter Tryz.func12, Tryz.ntmps12
        go_wp2_with (first
          | (go_at_call 13; refine cR.mono ?_; clear cR; rintro e w1 ⟨ta, tn, tc, rfl, k1⟩; have K1 := hid k1; have t0 := ((HX.out.kept k1).kept ((Kept.refl No w1).alloc (.cells #[.int .i64 0, .int .i64 z1, .slice ta tn tc, .int .i64 z3, .int .i64 z4] 34))).t0; clear k1)
          | (go_at_call 14; refine (cW.out _).mono ?_; rintro e w2 ⟨rfl, rfl⟩))
        go_ret2
        exact ⟨rfl, K1.out.alloc _⟩
      · have hb2 : 1 ≤ t ∧ t ≤ 1099511627776 := by unfold inB at hq; simp only [Bool.and_eq_true, decide_eq_true_eq] at hq; exact hq
        have HB2 := hid (show B = true by rw [HB.out, hq, hz]; rfl)
        obtain rfl := HB2.out
        have cW : Hid (∀ W, Calls Tryz.prog 14 #[.int .i64 t, .int .i64 1] W fun e w' => e = .returned (.bool true) ∧ w' = W) := fun W => by rw [← hq]; exact awithin_any t 1 W
        have hw : wrap64 (t - 1) = t - 1 := by unfold wrap64; omega
        clear HB HB2 t0 hq
        subst hz
        go_enter Tryz.func12, Tryz.ntmps12
        go_wp2_with (first
          | (go_at_call 13; refine cR.mono ?_; clear cR; rintro e w1 ⟨ta, tn, tc, rfl, k1⟩; have K1 := hid k1; have t0 := ((HX.out.kept k1).kept ((Kept.refl No w1).alloc (.cells #[.int .i64 0, .int .i64 z1, .slice ta tn tc, .int .i64 z3, .int .i64 z4] 34))).t0; clear k1)
          | (go_at_call 14; refine (cW.out _).mono ?_; rintro e w2 ⟨rfl, rfl⟩))
        go_ret2
        exact ⟨rfl, K1.out.alloc _⟩
    · have g0 : (z0 != 0) = true := by simpa using hz
      have g1 : (z0 == 0) = false := by simpa using hz
      have HB2 := hid (show B = false by rw [HB.out, g1]; rfl)
      obtain rfl := HB2.out
      clear HB HB2 t0
      go_enter Tryz.func12, Tryz.ntmps12
      go_wp2_with (go_at_call 13; refine cR.mono ?_; clear cR; rintro e w1 ⟨ta, tn, tc, rfl, k1⟩; have K1 := hid k1; clear k1)
      go_ret2
      exact ⟨rfl, K1.out.alloc _⟩
set_option maxHeartbeats 8000000 in
theorem ageOld_any {F : Nat → Prop} {a0 : Option Addr} {n0 c0 : Nat} {a1 : Option Addr} {n1 c1 : Nat} {a2 : Option Addr} {n2 c2 : Nat} {x : Im} (k t : Int) (w : World) (hg : Gl w) (h : Img w F a0 n0 c0 a1 n1 c1 a2 n2 c2 x) (hk6 : -9223372036854775808 ≤ k ∧ k ≤ 9223372036854775807) :
    Calls Tryz.prog 5 #[.agg #[.slice a0 n0 c0, .slice a1 n1 c1, .slice a2 n2 c2], .int .i64 k, .int .i64 t] w fun e w' => e = .returned (.tuple #[.int .i64 (askN (fe (chkF x)) (odB x.chans k t) (if odB x.chans k t then t - 1 else 0)), .int .i64 (askE (fe (chkF x)) (odB x.chans k t))]) ∧ Kept No w w' := by
  have KB : Kept No w (((w.alloc (.cells #[.slice a0 n0 c0, .slice a1 n1 c1, .slice a2 n2 c2] 26)).alloc (.cells #[.int .i64 k] 3)).alloc (.cells #[.int .i64 t] 3)) := (((Kept.refl No w).alloc _).alloc _).alloc _
  have hx := bxs_new w (.slice a0 n0 c0) (.slice a1 n1 c1) (.slice a2 n2 c2) k t
  have cA := askI_any 12 #[.pointer (some ⟨w.heap.size, 0, none⟩), .pointer (some ⟨w.heap.size + 1, 0, none⟩), .pointer (some ⟨w.heap.size + 1 + 1, 0, none⟩)] (if odB x.chans k t then t - 1 else 0) (odB x.chans k t) _ (eg_of Tryz.func12 (fun args w => rfl)) (hg.kept KB) (h.kept KB (fun _ _ h => h)) (fun W kw _ => oldC_any (F := F) w.heap.size (w.heap.size + 1) (w.heap.size + 1 + 1) k t W (h.cs.kept (KB.trans kw (fun _ h => h.elim)) (fun _ _ h => h) (elCh_kept (KB.trans kw (fun _ h => h.elim)) (fun _ _ h => h))) hk6 (hx.kept kw))
  have HKB := hid KB
  obtain ⟨i0, i1, i2, k0, t0⟩ := hx
  generalize askN (fe (chkF x)) (odB x.chans k t) (if odB x.chans k t then t - 1 else 0) = V at *
  generalize askE (fe (chkF x)) (odB x.chans k t) = E at *
  clear hg h hk6 KB
  go_enter Tryz.func5, Tryz.ntmps5
  go_wp2_with (go_at_call 11; refine cA.mono ?_; clear cA; rintro e w1 ⟨rfl, k1⟩; have K1 := hid (HKB.out.trans k1 (fun _ h => h.elim)); clear k1)
  go_ret2
  exact ⟨rfl, K1.out⟩
end Go.Proofs.YtggejpccjmolhaaGreatDoor
