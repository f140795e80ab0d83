/-
  One text: CSch, RCon.
-/
import Derived.Test.YtnmhcnppdhdhfaaGreatDoorG04
import Derived.Test.YtnmhcnppdhdhfaaGreatDoorG11
import Derived.Test.YtnmhcnppdhdhfaaGreatDoorG13
namespace Go.Proofs.YtnmhcnppdhdhfaaGreatDoor
open Go.RowKit
set_option linter.unusedVariables false
set_option linter.unusedSimpArgs false
set_option maxRecDepth 100000

/-- a predicate on the numbers of a list: it reads what lay there at w, and lays nothing but new blocks -/
def Prd (g : Nat) (lb : Array Value) (p : Int → Bool) (w : World) (zs : List Int) : Prop :=
  ∀ (W : World) (x : Int), x ∈ zs → Kept No w W → Calls Tryz.prog g (#[.int .i64 x] ++ lb) W fun e W' => e = .returned (.bool (p x)) ∧ Kept No W W'

def idxN {α : Type} (p : α → Bool) (zs : List α) : Int := match zs.findIdx? p with
  | some i => (i : Int)
  | none => -1

theorem idxN_hit {α : Type} {d : α} {p : α → Bool} {zs : List α} {k : Nat} (hk : k < zs.length) (h : p zs[k] = true) (hb : ∀ j, j < k → p (zs.getD j d) = false) : idxN p zs = (k : Int) := by
  have : zs.findIdx? p = some k := by
    rw [List.findIdx?_eq_some_iff_getElem]
    refine ⟨hk, h, fun j hj => ?_⟩
    have := hb j hj
    simp [List.getD, show j < zs.length by omega] at this
    simp [this]
  unfold idxN; rw [this]
theorem idxN_miss {α : Type} {d : α} {p : α → Bool} {zs : List α} (hb : ∀ j, j < zs.length → p (zs.getD j d) = false) : idxN p zs = -1 := by
  have : zs.findIdx? p = none := by
    rw [List.findIdx?_eq_none_iff]
    intro x hx
    obtain ⟨j, hj, rfl⟩ := List.getElem_of_mem hx
    have := hb j hj
    simpa [List.getD, hj] using this
  unfold idxN; rw [this]
theorem idxN_dec {α : Type} (p : α → Bool) (zs : List α) : decide (0 ≤ idxN p zs) = zs.any p := by
  unfold idxN
  cases h : zs.findIdx? p with
  | none =>
    have : zs.any p = false := by
      rw [List.any_eq_false]
      intro x hx
      have := (List.findIdx?_eq_none_iff.1 h) x hx
      simp [this]
    rw [this]; rfl
  | some i =>
    obtain ⟨hi, h1, _⟩ := List.findIdx?_eq_some_iff_getElem.1 h
    have : zs.any p = true := List.any_eq_true.2 ⟨_, List.getElem_mem hi, h1⟩
    rw [this]; simp

set_option maxHeartbeats 2000000 in
theorem idxN_any {F : Nat → Prop} {a : Option Addr} {n c : Nat} {zs : List Int} {p : Int → Bool} {g : Nat} {lb : Array Value} (eg : ∀ args w, (callFunc g args).run Tryz.prog w = .ok (.enter g args) w) (w : World) (hp : Prd g lb p w zs) (h : Ls 1 elI w F a n c zs) :
    Calls Tryz.prog 213 #[.slice a n c, .func (.func g) #[] lb] w fun e w' => e = .returned (.int .i64 (idxN p zs)) ∧ Kept No w w' := by
  have hl := h.len
  have hm := h.max
  have hcap := h.cap
  have HL : Hid (Ls 1 elI w F a n c zs) := h
  have HP : Hid (Prd g lb p w zs) := hp
  clear h hp
  go_enter Tryz.func213, Tryz.ntmps213
  go_wp2
  go_loopw [8] (fun i wr => ∃ k : Nat, k ≤ n ∧ i = .int .i64 k ∧ Kept No w wr ∧ ∀ j, j < k → p (zs.getD j 0) = false) (fun i _ => n - (intOf i).toNat)
  case atStart => exact ⟨0, by omega, rfl, Kept.refl _ _, fun j hj => absurd hj (Nat.not_lt_zero _)⟩
  case round =>
    obtain ⟨k, hk, rfl, K, hb⟩ := hrel
    by_cases hlt : k < n
    · have hkz : k < zs.length := by omega
      have hx : zs[k]? = some zs[k] := List.getElem?_eq_getElem hkz
      obtain ⟨b, o, cs, rfl, hF, hcl, hr, rfl, hI⟩ := HL.out.at' k _ hx
      have d : wr.cell? ⟨b, o + k, none⟩ = some (.int .i64 zs[k]) := by
        have := K.cell (hr 0 _ rfl) (fun h => h)
        rw [Nat.mul_one, Nat.add_zero] at this
        exact this
      have cp := HP.out wr zs[k] (List.getElem_mem hkz) K
      have HB : Hid (Kept No w wr ∧ (∀ j, j < k → p (zs.getD j 0) = false)) := ⟨K, hb⟩
      obtain ⟨z, hz⟩ : ∃ z, z = zs[k] := ⟨_, rfl⟩
      rw [← hz] at cp d
      have HZ : Hid (z = zs[k]) := hz
      have hltz : (k : Int) < (n : Int) := by omega
      clear hb K hr hI hx hz
      cases hq : p z with
      | true =>
        rw [hq] at cp
        go_wp2_with (go_at_fn g; refine cp.mono ?_; rintro e w2 ⟨rfl, k2⟩)
        go_ret
        refine ⟨?_, HB.out.1.trans k2 (fun _ h => .inl h)⟩
        rw [idxN_hit (d := (0 : Int)) hkz (by rw [← HZ.out]; exact hq) HB.out.2]
        rfl
      | false =>
        rw [hq] at cp
        go_wp2_with (go_at_fn g; refine cp.mono ?_; rintro e w2 ⟨rfl, k2⟩)
        go_roundw
        case rel =>
          refine ⟨k + 1, by omega, by go_num, HB.out.1.trans k2 (fun _ h => .inl h), fun j hj => ?_⟩
          by_cases e : j = k
          · subst e
            have : zs.getD j 0 = zs[j] := by simp [List.getD, hkz]
            rw [this, ← HZ.out]; exact hq
          · exact HB.out.2 j (by omega)
        case measure => simp [intOf]; omega
    · have hkn : k = n := by omega
      subst hkn
      go_wp2
      go_ret
      refine ⟨?_, K⟩
      rw [idxN_miss (d := (0 : Int)) (fun j hj => hb j (by omega))]
      rfl

theorem containsN_any {F : Nat → Prop} {a : Option Addr} {n c : Nat} {zs : List Int} {p : Int → Bool} {g : Nat} {lb : Array Value} (eg : ∀ args w, (callFunc g args).run Tryz.prog w = .ok (.enter g args) w) (w : World) (hp : Prd g lb p w zs) (h : Ls 1 elI w F a n c zs) :
    Calls Tryz.prog 192 #[.slice a n c, .func (.func g) #[] lb] w fun e w' => e = .returned (.bool (zs.any p)) ∧ Kept No w w' := by
  rw [← idxN_dec]
  have ci := idxN_any eg w hp h
  clear eg hp h
  generalize idxN p zs = V at *
  go_enter Tryz.func192, Tryz.ntmps192
  go_wp2_with (go_at_call 213; refine ci.mono ?_; rintro e w2 ⟨rfl, k2⟩)
  go_ret
  exact ⟨rfl, k2⟩

/-- a predicate on channels -/
def PrdC (g : Nat) (lb : Array Value) (p : Ch → Bool) (w : World) : Prop :=
  ∀ (W : World) (x : Ch) (F : Nat → Prop) (a : Option Addr) (n c : Nat), okCh x → Ls 1 elI W F a n c x.dst → Kept No w W → Calls Tryz.prog g (#[.agg #[.int .i64 x.kd, .int .i64 x.fr, .slice a n c, .int .i64 x.ph, .int .i64 x.pe]] ++ lb) W fun e W' => e = .returned (.bool (p x)) ∧ Kept No W W'
theorem PrdC.on {g : Nat} {lb : Array Value} {p : Ch → Bool} {w w' : World} (h : PrdC g lb p w) (k : Kept No w w') : PrdC g lb p w' :=
  fun W x F a n c ho hl K => h W x F a n c ho hl (k.trans K (fun _ h => .inl h))
def dCh : Ch := ⟨0, 0, [], 0, 0⟩
theorem idxC_any {F : Nat → Prop} {a : Option Addr} {n c : Nat} {zs : List Ch} {p : Ch → Bool} {g : Nat} {lb : Array Value} (eg : ∀ args w, (callFunc g args).run Tryz.prog w = .ok (.enter g args) w) (w : World) (hp : PrdC g lb p w) (h : Ls 5 elCh w F a n c zs) :
    Calls Tryz.prog 211 #[.slice a n c, .func (.func g) #[] lb] w fun e w' => e = .returned (.int .i64 (idxN p zs)) ∧ Kept No w w' := by
  have hl := h.len
  have hm := h.max
  have hcap := h.cap
  have HL : Hid (Ls 5 elCh w F a n c zs) := h
  have HP : Hid (PrdC g lb p w) := hp
  clear h hp
  go_enter Tryz.func211, Tryz.ntmps211
  go_wp2
  go_loopw [8] (fun i wr => ∃ k : Nat, k ≤ n ∧ i = .int .i64 k ∧ Kept No w wr ∧ ∀ j, j < k → p (zs.getD j dCh) = false) (fun i _ => n - (intOf i).toNat)
  case atStart => exact ⟨0, by omega, rfl, Kept.refl _ _, fun j hj => absurd hj (Nat.not_lt_zero _)⟩
  case round =>
    obtain ⟨k, hk, rfl, K, hb⟩ := hrel
    by_cases hlt : k < n
    · have hkz : k < zs.length := by omega
      have hx : zs[k]? = some zs[k] := List.getElem?_eq_getElem hkz
      obtain ⟨b, o, cs, rfl, hF, hcl, hr, hE⟩ := HL.out.at' k _ hx
      obtain ⟨⟨ta, tn, tc, rfl, hT⟩, hok⟩ := hE
      have d0 := K.cell (hr 0 _ rfl) (fun h => h)
      have d1 := K.cell (hr 1 _ rfl) (fun h => h)
      have d2 := K.cell (hr 2 _ rfl) (fun h => h)
      have d3 := K.cell (hr 3 _ rfl) (fun h => h)
      have d4 := K.cell (hr 4 _ rfl) (fun h => h)
      rw [Nat.add_zero] at d0
      have cp := HP.out wr zs[k] F ta tn tc hok (hT.kept K (fun _ _ h => h) (elI_kept K (fun _ _ h => h))) K
      have HB : Hid (Kept No w wr ∧ (∀ j, j < k → p (zs.getD j dCh) = false)) := ⟨K, hb⟩
      obtain ⟨z, hz⟩ : ∃ z, z = zs[k] := ⟨_, rfl⟩
      rw [← hz] at cp d0 d1 d3 d4
      have HZ : Hid (z = zs[k]) := hz
      have hltz : (k : Int) < (n : Int) := by omega
      clear hb K hr hT hok hx hz
      cases hq : p z with
      | true =>
        rw [hq] at cp
        go_wp2_with (go_at_fn g; refine cp.mono ?_; rintro e w2 ⟨rfl, k2⟩)
        go_ret
        refine ⟨?_, HB.out.1.trans k2 (fun _ h => .inl h)⟩
        rw [idxN_hit (d := dCh) hkz (by rw [← HZ.out]; exact hq) HB.out.2]
        rfl
      | false =>
        rw [hq] at cp
        go_wp2_with (go_at_fn g; refine cp.mono ?_; rintro e w2 ⟨rfl, k2⟩)
        go_roundw
        case rel =>
          refine ⟨k + 1, by omega, by go_num, HB.out.1.trans k2 (fun _ h => .inl h), fun j hj => ?_⟩
          by_cases e : j = k
          · subst e
            have : zs.getD j dCh = zs[j] := by simp [List.getD, hkz]
            rw [this, ← HZ.out]; exact hq
          · exact HB.out.2 j (by omega)
        case measure => simp [intOf]; omega
    · have hkn : k = n := by omega
      subst hkn
      go_wp2
      go_ret
      refine ⟨?_, K⟩
      rw [idxN_miss (d := dCh) (fun j hj => hb j (by omega))]
      rfl
theorem containsC_any {F : Nat → Prop} {a : Option Addr} {n c : Nat} {zs : List Ch} {p : Ch → Bool} {g : Nat} {lb : Array Value} (eg : ∀ args w, (callFunc g args).run Tryz.prog w = .ok (.enter g args) w) (w : World) (hp : PrdC g lb p w) (h : Ls 5 elCh w F a n c zs) :
    Calls Tryz.prog 187 #[.slice a n c, .func (.func g) #[] lb] w fun e w' => e = .returned (.bool (zs.any p)) ∧ Kept No w w' := by
  rw [← idxN_dec]
  have ci := idxC_any eg w hp h
  clear eg hp h
  generalize idxN p zs = V at *
  go_enter Tryz.func187, Tryz.ntmps187
  go_wp2_with (go_at_call 211; refine ci.mono ?_; rintro e w2 ⟨rfl, k2⟩)
  go_ret
  exact ⟨rfl, k2⟩

theorem indexI_any {F : Nat → Prop} {a : Option Addr} {n c : Nat} {zs : List Int} (v : Int) (w : World) (h : Ls 1 elI w F a n c zs) :
    Calls Tryz.prog 212 #[.slice a n c, .int .i64 v] w fun e w' => e = .returned (.int .i64 (idxN (fun x => v == x) zs)) ∧ Kept No w w' := by
  have hl := h.len
  have hm := h.max
  have hcap := h.cap
  have HL : Hid (Ls 1 elI w F a n c zs) := h
  clear h
  go_enter Tryz.func212, Tryz.ntmps212
  go_wp2
  go_loopw [8] (fun i wr => ∃ k : Nat, k ≤ n ∧ i = .int .i64 k ∧ Kept No w wr ∧ ∀ j, j < k → (fun x => v == x) (zs.getD j 0) = false) (fun i _ => n - (intOf i).toNat)
  case atStart => exact ⟨0, by omega, rfl, Kept.refl _ _, fun j hj => absurd hj (Nat.not_lt_zero _)⟩
  case round =>
    obtain ⟨k, hk, rfl, K, hb⟩ := hrel
    by_cases hlt : k < n
    · have hkz : k < zs.length := by omega
      have hx : zs[k]? = some zs[k] := List.getElem?_eq_getElem hkz
      obtain ⟨b, o, cs, rfl, hF, hcl, hr, rfl, hI⟩ := HL.out.at' k _ hx
      have d : wr.cell? ⟨b, o + k, none⟩ = some (.int .i64 zs[k]) := by
        have := K.cell (hr 0 _ rfl) (fun h => h)
        rw [Nat.mul_one, Nat.add_zero] at this
        exact this
      have HB : Hid (Kept No w wr ∧ (∀ j, j < k → (fun x => v == x) (zs.getD j 0) = false)) := ⟨K, hb⟩
      obtain ⟨z, hz⟩ : ∃ z, z = zs[k] := ⟨_, rfl⟩
      rw [← hz] at d
      have HZ : Hid (z = zs[k]) := hz
      have hltz : (k : Int) < (n : Int) := by omega
      clear hb K hr hI hx hz
      by_cases hq : v = z
      · subst hq
        go_wp2
        go_ret
        refine ⟨?_, HB.out.1⟩
        rw [idxN_hit (d := (0 : Int)) hkz (by rw [← HZ.out]; simp) HB.out.2]
        rfl
      · go_wp2
        go_roundw
        case rel =>
          refine ⟨k + 1, by omega, by go_num, HB.out.1, fun j hj => ?_⟩
          by_cases e : j = k
          · subst e
            have : zs.getD j 0 = zs[j] := by simp [List.getD, hkz]
            rw [this, ← HZ.out]; simpa using hq
          · exact HB.out.2 j (by omega)
        case measure => simp [intOf]; omega
    · have hkn : k = n := by omega
      subst hkn
      go_wp2
      go_ret
      refine ⟨?_, K⟩
      rw [idxN_miss (d := (0 : Int)) (fun j hj => hb j (by omega))]
      rfl
theorem containsI_any {F : Nat → Prop} {a : Option Addr} {n c : Nat} {zs : List Int} (v : Int) (w : World) (h : Ls 1 elI w F a n c zs) :
    Calls Tryz.prog 191 #[.slice a n c, .int .i64 v] w fun e w' => e = .returned (.bool (zs.any (fun x => v == x))) ∧ Kept No w w' := by
  rw [← idxN_dec]
  have ci := indexI_any v w h
  clear h
  generalize idxN (fun x => v == x) zs = V at *
  go_enter Tryz.func191, Tryz.ntmps191
  go_wp2_with (go_at_call 212; refine ci.mono ?_; rintro e w2 ⟨rfl, k2⟩)
  go_ret
  exact ⟨rfl, k2⟩
end Go.Proofs.YtnmhcnppdhdhfaaGreatDoor

namespace Go.Proofs.YtnmhcnppdhdhfaaGreatDoor
open Go.RowKit
set_option linter.unusedVariables false
set_option linter.unusedSimpArgs false
set_option maxRecDepth 100000

/-- a predicate on processes -/
def PrdP (g : Nat) (lb : Array Value) (p : Prc → Bool) (w : World) (zs : List Prc) : Prop :=
  ∀ (W : World) (x : Prc), x ∈ zs → Kept No w W → Calls Tryz.prog g (#[.agg #[.int .i64 x.en, .int .i64 x.pr, .int .i64 x.pe, .int .i64 x.li, .int .i64 x.ca, .bool x.auto]] ++ lb) W fun e W' => e = .returned (.bool (p x)) ∧ Kept No W W'
theorem idxP_any {F : Nat → Prop} {a : Option Addr} {n c : Nat} {zs : List Prc} {p : Prc → Bool} {g : Nat} {lb : Array Value} (eg : ∀ args w, (callFunc g args).run Tryz.prog w = .ok (.enter g args) w) (w : World) (hp : PrdP g lb p w zs) (h : Ls 6 elPrc w F a n c zs) :
    Calls Tryz.prog 148 #[.slice a n c, .func (.func g) #[] lb] w fun e w' => e = .returned (.int .i64 (idxN p zs)) ∧ Kept No w w' := by
  have hl := h.len
  have hm := h.max
  have hcap := h.cap
  have HL : Hid (Ls 6 elPrc w F a n c zs) := h
  have HP : Hid (PrdP g lb p w zs) := hp
  clear h hp
  go_enter Tryz.func148, Tryz.ntmps148
  go_wp2
  go_loopw [8] (fun i wr => ∃ k : Nat, k ≤ n ∧ i = .int .i64 k ∧ Kept No w wr ∧ ∀ j, j < k → p (zs.getD j dPrc) = false) (fun i _ => n - (intOf i).toNat)
  case atStart => exact ⟨0, by omega, rfl, Kept.refl _ _, fun j hj => absurd hj (Nat.not_lt_zero _)⟩
  case round =>
    obtain ⟨k, hk, rfl, K, hb⟩ := hrel
    by_cases hlt : k < n
    · have hkz : k < zs.length := by omega
      have hx : zs[k]? = some zs[k] := List.getElem?_eq_getElem hkz
      obtain ⟨b, o, cs, rfl, hF, hcl, hr, hE⟩ := HL.out.at' k _ hx
      obtain ⟨rfl, hok⟩ := hE
      have d0 := K.cell (hr 0 _ rfl) (fun h => h)
      have d1 := K.cell (hr 1 _ rfl) (fun h => h)
      have d2 := K.cell (hr 2 _ rfl) (fun h => h)
      have d3 := K.cell (hr 3 _ rfl) (fun h => h)
      have d4 := K.cell (hr 4 _ rfl) (fun h => h)
      have d5 := K.cell (hr 5 _ rfl) (fun h => h)
      rw [Nat.add_zero] at d0
      have cp := HP.out wr zs[k] (List.getElem_mem hkz) K
      have HB : Hid (Kept No w wr ∧ (∀ j, j < k → p (zs.getD j dPrc) = false)) := ⟨K, hb⟩
      obtain ⟨z, hz⟩ : ∃ z, z = zs[k] := ⟨_, rfl⟩
      rw [← hz] at cp d0 d1 d2 d3 d4 d5
      have HZ : Hid (z = zs[k]) := hz
      have hltz : (k : Int) < (n : Int) := by omega
      clear hb K hr hok hx hz
      cases hq : p z with
      | true =>
        rw [hq] at cp
        go_wp2_with (go_at_fn g; refine cp.mono ?_; rintro e w2 ⟨rfl, k2⟩)
        go_ret
        refine ⟨?_, HB.out.1.trans k2 (fun _ h => .inl h)⟩
        rw [idxN_hit (d := dPrc) hkz (by rw [← HZ.out]; exact hq) HB.out.2]
        rfl
      | false =>
        rw [hq] at cp
        go_wp2_with (go_at_fn g; refine cp.mono ?_; rintro e w2 ⟨rfl, k2⟩)
        go_roundw
        case rel =>
          refine ⟨k + 1, by omega, by go_num, HB.out.1.trans k2 (fun _ h => .inl h), fun j hj => ?_⟩
          by_cases e : j = k
          · subst e
            have : zs.getD j dPrc = zs[j] := by simp [List.getD, hkz]
            rw [this, ← HZ.out]; exact hq
          · exact HB.out.2 j (by omega)
        case measure => simp [intOf]; omega
    · have hkn : k = n := by omega
      subst hkn
      go_wp2
      go_ret
      refine ⟨?_, K⟩
      rw [idxN_miss (d := dPrc) (fun j hj => hb j (by omega))]
      rfl
theorem containsP_any {F : Nat → Prop} {a : Option Addr} {n c : Nat} {zs : List Prc} {p : Prc → Bool} {g : Nat} {lb : Array Value} (eg : ∀ args w, (callFunc g args).run Tryz.prog w = .ok (.enter g args) w) (w : World) (hp : PrdP g lb p w zs) (h : Ls 6 elPrc w F a n c zs) :
    Calls Tryz.prog 81 #[.slice a n c, .func (.func g) #[] lb] w fun e w' => e = .returned (.bool (zs.any p)) ∧ Kept No w w' := by
  rw [← idxN_dec]
  have ci := idxP_any eg w hp h
  clear eg hp h
  generalize idxN p zs = V at *
  go_enter Tryz.func81, Tryz.ntmps81
  go_wp2_with (go_at_call 148; refine ci.mono ?_; rintro e w2 ⟨rfl, k2⟩)
  go_ret
  exact ⟨rfl, k2⟩

/-- a predicate on instructions -/
def PrdI (g : Nat) (lb : Array Value) (p : Ins → Bool) (w : World) (zs : List Ins) : Prop :=
  ∀ (W : World) (x : Ins), x ∈ zs → Kept No w W → Calls Tryz.prog g (#[.agg #[.int .u8 x.op, .int .u8 x.a, .int .u8 x.b, .int .u8 x.c, .int .i32 x.imm]] ++ lb) W fun e W' => e = .returned (.bool (p x)) ∧ Kept No W W'
def dIns : Ins := ⟨0, 0, 0, 0, 0⟩
theorem idxIn_any {F : Nat → Prop} {a : Option Addr} {n c : Nat} {zs : List Ins} {p : Ins → Bool} {g : Nat} {lb : Array Value} (eg : ∀ args w, (callFunc g args).run Tryz.prog w = .ok (.enter g args) w) (w : World) (hp : PrdI g lb p w zs) (h : Ls 5 elIns w F a n c zs) :
    Calls Tryz.prog 79 #[.slice a n c, .func (.func g) #[] lb] w fun e w' => e = .returned (.int .i64 (idxN p zs)) ∧ Kept No w w' := by
  have hl := h.len
  have hm := h.max
  have hcap := h.cap
  have HL : Hid (Ls 5 elIns w F a n c zs) := h
  have HP : Hid (PrdI g lb p w zs) := hp
  clear h hp
  go_enter Tryz.func79, Tryz.ntmps79
  go_wp2
  go_loopw [8] (fun i wr => ∃ k : Nat, k ≤ n ∧ i = .int .i64 k ∧ Kept No w wr ∧ ∀ j, j < k → p (zs.getD j dIns) = false) (fun i _ => n - (intOf i).toNat)
  case atStart => exact ⟨0, by omega, rfl, Kept.refl _ _, fun j hj => absurd hj (Nat.not_lt_zero _)⟩
  case round =>
    obtain ⟨k, hk, rfl, K, hb⟩ := hrel
    by_cases hlt : k < n
    · have hkz : k < zs.length := by omega
      have hx : zs[k]? = some zs[k] := List.getElem?_eq_getElem hkz
      obtain ⟨b, o, cs, rfl, hF, hcl, hr, hE⟩ := HL.out.at' k _ hx
      obtain ⟨rfl, hok⟩ := hE
      have d0 := K.cell (hr 0 _ rfl) (fun h => h)
      have d1 := K.cell (hr 1 _ rfl) (fun h => h)
      have d2 := K.cell (hr 2 _ rfl) (fun h => h)
      have d3 := K.cell (hr 3 _ rfl) (fun h => h)
      have d4 := K.cell (hr 4 _ rfl) (fun h => h)
      rw [Nat.add_zero] at d0
      have cp := HP.out wr zs[k] (List.getElem_mem hkz) K
      have HB : Hid (Kept No w wr ∧ (∀ j, j < k → p (zs.getD j dIns) = false)) := ⟨K, hb⟩
      obtain ⟨z, hz⟩ : ∃ z, z = zs[k] := ⟨_, rfl⟩
      rw [← hz] at cp d0 d1 d2 d3 d4
      have HZ : Hid (z = zs[k]) := hz
      have hltz : (k : Int) < (n : Int) := by omega
      clear hb K hr hok hx hz
      cases hq : p z with
      | true =>
        rw [hq] at cp
        go_wp2_with (go_at_fn g; refine cp.mono ?_; rintro e w2 ⟨rfl, k2⟩)
        go_ret
        refine ⟨?_, HB.out.1.trans k2 (fun _ h => .inl h)⟩
        rw [idxN_hit (d := dIns) hkz (by rw [← HZ.out]; exact hq) HB.out.2]
        rfl
      | false =>
        rw [hq] at cp
        go_wp2_with (go_at_fn g; refine cp.mono ?_; rintro e w2 ⟨rfl, k2⟩)
        go_roundw
        case rel =>
          refine ⟨k + 1, by omega, by go_num, HB.out.1.trans k2 (fun _ h => .inl h), fun j hj => ?_⟩
          by_cases e : j = k
          · subst e
            have : zs.getD j dIns = zs[j] := by simp [List.getD, hkz]
            rw [this, ← HZ.out]; exact hq
          · exact HB.out.2 j (by omega)
        case measure => simp [intOf]; omega
    · have hkn : k = n := by omega
      subst hkn
      go_wp2
      go_ret
      refine ⟨?_, K⟩
      rw [idxN_miss (d := dIns) (fun j hj => hb j (by omega))]
      rfl
theorem containsIn_any {F : Nat → Prop} {a : Option Addr} {n c : Nat} {zs : List Ins} {p : Ins → Bool} {g : Nat} {lb : Array Value} (eg : ∀ args w, (callFunc g args).run Tryz.prog w = .ok (.enter g args) w) (w : World) (hp : PrdI g lb p w zs) (h : Ls 5 elIns w F a n c zs) :
    Calls Tryz.prog 43 #[.slice a n c, .func (.func g) #[] lb] w fun e w' => e = .returned (.bool (zs.any p)) ∧ Kept No w w' := by
  rw [← idxN_dec]
  have ci := idxIn_any eg w hp h
  clear eg hp h
  generalize idxN p zs = V at *
  go_enter Tryz.func43, Tryz.ntmps43
  go_wp2_with (go_at_call 79; refine ci.mono ?_; rintro e w2 ⟨rfl, k2⟩)
  go_ret
  exact ⟨rfl, k2⟩

end Go.Proofs.YtnmhcnppdhdhfaaGreatDoor
