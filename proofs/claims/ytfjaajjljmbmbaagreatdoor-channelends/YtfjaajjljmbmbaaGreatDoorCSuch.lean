/-
  slices.IndexFunc, ContainsFunc of ints; predicates on channels.
-/
import Derived.Test.YtfjaajjljmbmbaaGreatDoorCPrd
import Derived.Shelf.Abstract
namespace Go.Proofs.YtfjaajjljmbmbaaGreatDoor
open Go.RowKit Plain Go.Shelf
set_option linter.unusedVariables false
set_option maxRecDepth 100000

/-- the first place at which p holds; -1 -/
def idxF (p : Int → Bool) (zs : List Int) : Int := match zs.findIdx? p with
  | some i => (i : Int)
  | none => -1

theorem idxF_hit {p : Int → Bool} {zs : List Int} {k : Nat} (hk : k < zs.length) (h : p zs[k] = true) (hb : ∀ j, j < k → p (zs.getD j 0) = false) : idxF p zs = (k : Int) := by
  have : zs.findIdx? p = some k := by
    rw [List.findIdx?_eq_some_iff_getElem]
    refine ⟨hk, h, fun j hj => ?_⟩
    have := hb j hj
    simp [List.getD, show j < zs.length by omega] at this
    simp [this]
  unfold idxF; rw [this]
theorem idxF_miss {p : Int → Bool} {zs : List Int} (hb : ∀ j, j < zs.length → p (zs.getD j 0) = false) : idxF p zs = -1 := by
  have : zs.findIdx? p = none := by
    rw [List.findIdx?_eq_none_iff]
    intro x hx
    obtain ⟨j, hj, rfl⟩ := List.getElem_of_mem hx
    have := hb j hj
    simpa [List.getD, hj] using this
  unfold idxF; rw [this]
theorem idxF_any (p : Int → Bool) (zs : List Int) : decide (0 ≤ idxF p zs) = zs.any p := by
  unfold idxF
  cases h : zs.findIdx? p with
  | none =>
    have : zs.any p = false := by
      rw [List.any_eq_false]
      intro x hx
      have := (List.findIdx?_eq_none_iff.1 h) x hx
      simp [this]
    rw [this]; rfl
  | some i =>
    obtain ⟨hi, h1, _⟩ := List.findIdx?_eq_some_iff_getElem.1 h
    have : zs.any p = true := List.any_eq_true.2 ⟨_, List.getElem_mem hi, h1⟩
    rw [this]; simp

set_option maxHeartbeats 2000000 in
theorem idx_any {F : Nat → Prop} {a : Option Addr} {n c : Nat} {zs : List Int} {p : Int → Bool} {g : Nat} {lb : Array Value} (eg : ∀ args w, (callFunc g args).run Tryz.prog w = .ok (.enter g args) w) (w : World) (hp : Prd g lb p w) (h : Ls 1 elI w F a n c zs) :
    Calls Tryz.prog 58 #[.slice a n c, .func (.func g) #[] lb] w fun e w' => e = .returned (.int .i64 (idxF p zs)) ∧ Kept No w w' := by
  have hl := h.len
  have hm := h.max
  have hcap := h.cap
  have HL : Hid (Ls 1 elI w F a n c zs) := h
  have HP : Hid (Prd g lb p w) := hp
  clear h hp
  go_enter Tryz.func58, Tryz.ntmps58
  go_wp2
  go_loopw [8] (fun i wr => ∃ k : Nat, k ≤ n ∧ i = .int .i64 k ∧ Kept No w wr ∧ ∀ j, j < k → p (zs.getD j 0) = false) (fun i _ => n - (intOf i).toNat)
  case atStart => exact ⟨0, by omega, rfl, Kept.refl _ _, fun j hj => absurd hj (Nat.not_lt_zero _)⟩
  case round =>
    obtain ⟨k, hk, rfl, K, hb⟩ := hrel
    by_cases hlt : k < n
    · have hkz : k < zs.length := by omega
      have hx : zs[k]? = some zs[k] := List.getElem?_eq_getElem hkz
      obtain ⟨b, o, cs, rfl, hF, hcl, hr, rfl, hI⟩ := HL.out.at' k _ hx
      have d : wr.cell? ⟨b, o + k, none⟩ = some (.int .i64 zs[k]) := by
        have := K.cell (hr 0 _ rfl) (fun h => h)
        rw [Nat.mul_one, Nat.add_zero] at this
        exact this
      have cp := HP.out wr zs[k] hI K
      have HB : Hid (Kept No w wr ∧ (∀ j, j < k → p (zs.getD j 0) = false)) := ⟨K, hb⟩
      obtain ⟨z, hz⟩ : ∃ z, z = zs[k] := ⟨_, rfl⟩
      rw [← hz] at cp d
      have HZ : Hid (z = zs[k]) := hz
      have hltz : (k : Int) < (n : Int) := by omega
      clear hb K hr hI hx hz
      cases hq : p z with
      | true =>
        rw [hq] at cp
        go_wp2_with (go_at_fn g; refine cp.mono ?_; rintro e w2 ⟨rfl, k2⟩)
        go_ret
        refine ⟨?_, HB.out.1.trans k2 (fun _ h => .inl h)⟩
        rw [idxF_hit hkz (by rw [← HZ.out]; exact hq) HB.out.2]
        rfl
      | false =>
        rw [hq] at cp
        go_wp2_with (go_at_fn g; refine cp.mono ?_; rintro e w2 ⟨rfl, k2⟩)
        go_roundw
        case rel =>
          refine ⟨k + 1, by omega, by go_num, HB.out.1.trans k2 (fun _ h => .inl h), fun j hj => ?_⟩
          by_cases e : j = k
          · subst e
            have : zs.getD j 0 = zs[j] := by simp [List.getD, hkz]
            rw [this, ← HZ.out]; exact hq
          · exact HB.out.2 j (by omega)
        case measure => simp [intOf]; omega
    · have hkn : k = n := by omega
      subst hkn
      go_wp2
      go_ret
      refine ⟨?_, K⟩
      rw [idxF_miss (fun j hj => hb j (by omega))]
      rfl

theorem contains_any {F : Nat → Prop} {a : Option Addr} {n c : Nat} {zs : List Int} {p : Int → Bool} {g : Nat} {lb : Array Value} (eg : ∀ args w, (callFunc g args).run Tryz.prog w = .ok (.enter g args) w) (w : World) (hp : Prd g lb p w) (h : Ls 1 elI w F a n c zs) :
    Calls Tryz.prog 34 #[.slice a n c, .func (.func g) #[] lb] w fun e w' => e = .returned (.bool (zs.any p)) ∧ Kept No w w' := by
  rw [← idxF_any]
  have ci := idx_any eg w hp h
  clear eg hp h
  generalize idxF p zs = V at *
  go_enter Tryz.func34, Tryz.ntmps34
  go_wp2_with (go_at_call 58; refine ci.mono ?_; rintro e w2 ⟨rfl, k2⟩)
  go_ret
  exact ⟨rfl, k2⟩

/-- a predicate on channels -/
def PrdC (g : Nat) (lb : Array Value) (p : Ch → Bool) (w : World) : Prop :=
  ∀ (W : World) (x : Ch) (F : Nat → Prop) (a : Option Addr) (n c : Nat), okCh x → Ls 1 elI W F a n c x.dst → Kept No w W → Calls Tryz.prog g (#[.agg #[.int .i64 x.kd, .int .i64 x.fr, .slice a n c, .int .i64 x.ph, .int .i64 x.pe]] ++ lb) W fun e W' => e = .returned (.bool (p x)) ∧ Kept No W W'
theorem PrdC.on {g : Nat} {lb : Array Value} {p : Ch → Bool} {w w' : World} (h : PrdC g lb p w) (k : Kept No w w') : PrdC g lb p w' :=
  fun W x F a n c ho hl K => h W x F a n c ho hl (k.trans K (fun _ h => .inl h))

/-- a function value in a box -/
theorem coming_prd {p : Int → Bool} {g : Nat} {lb : Array Value} (eg : ∀ args w, (callFunc g args).run Tryz.prog w = .ok (.enter g args) w) (w : World) (hp : Prd g lb p w) {B : Nat} (hB : w.heap[B]? = some (.cells #[.func (.func g) #[] lb] 50)) :
    PrdC 31 #[.pointer (some ⟨B, 0, none⟩)] (fun c => p c.fr) w := by
  intro W x F a n c ho hl K
  have hc : W.cell? ⟨B, 0, none⟩ = some (.func (.func g) #[] lb) := one (K.at' hB (fun h => h))
  have KA : Kept No W (W.alloc (.cells #[.int .i64 x.kd, .int .i64 x.fr, .slice a n c, .int .i64 x.ph, .int .i64 x.pe] 39)) := (Kept.refl No W).alloc _
  have hc' := KA.cell hc (fun h => h)
  have cp := hp _ x.fr ho.2.1 (K.trans KA (fun _ h => .inl h))
  have HK : Hid (Kept No W (W.alloc (.cells #[.int .i64 x.kd, .int .i64 x.fr, .slice a n c, .int .i64 x.ph, .int .i64 x.pe] 39))) := KA
  clear K hB hp ho hl KA
  go_enter Tryz.func31, Tryz.ntmps31
  go_wp2_with (go_at_fn g; refine cp.mono ?_; rintro e w2 ⟨rfl, k2⟩)
  go_ret
  exact ⟨rfl, HK.out.trans k2 (fun _ h => .inl h)⟩
theorem going_prd {p : Int → Bool} {g : Nat} {lb : Array Value} (eg : ∀ args w, (callFunc g args).run Tryz.prog w = .ok (.enter g args) w) (w : World) (hp : Prd g lb p w) {B : Nat} (hB : w.heap[B]? = some (.cells #[.func (.func g) #[] lb] 50)) :
    PrdC 33 #[.pointer (some ⟨B, 0, none⟩)] (fun c => c.dst.any p) w := by
  intro W x F a n c ho hl K
  have hc : W.cell? ⟨B, 0, none⟩ = some (.func (.func g) #[] lb) := one (K.at' hB (fun h => h))
  have KA : Kept No W (W.alloc (.cells #[.int .i64 x.kd, .int .i64 x.fr, .slice a n c, .int .i64 x.ph, .int .i64 x.pe] 39)) := (Kept.refl No W).alloc _
  have hc' := KA.cell hc (fun h => h)
  have cp := contains_any eg _ (hp.on (K.trans KA (fun _ h => .inl h))) (hl.kept KA (fun _ _ h => h) (elI_kept KA (fun _ _ h => h)))
  have HK : Hid (Kept No W (W.alloc (.cells #[.int .i64 x.kd, .int .i64 x.fr, .slice a n c, .int .i64 x.ph, .int .i64 x.pe] 39))) := KA
  clear K hB hp ho hl KA eg
  go_enter Tryz.func33, Tryz.ntmps33
  go_wp2_with (go_at_call 34; refine cp.mono ?_; rintro e w2 ⟨rfl, k2⟩)
  go_ret
  exact ⟨rfl, HK.out.trans k2 (fun _ h => .inl h)⟩
end Go.Proofs.YtfjaajjljmbmbaaGreatDoor
