/-
  The Reader's count; slices of ints.
-/
import Derived.Test.YtakdfpenpodplaaRdCalls
namespace Go.Proofs.Ytakdfpenpodplaa
open Go.RowKit
set_option linter.unusedVariables false

def iv (x : Int) : Value := .int .i64 x
theorem iv_one (xs : List Int) : ∀ u ∈ xs.map iv, u.oneCell' = true := by
  intro u hu; rw [List.mem_map] at hu; obtain ⟨i, _, rfl⟩ := hu; rfl
theorem iv_get {xs : List Int} {i : Nat} (h : i < xs.length) : (xs.map iv)[i]? = some (iv (xs.getD i 0)) := by
  simp [List.getD, h]

/-- a slice of ints -/
structure Zs (w : World) (F : Nat → Prop) (a : Option Addr) (n c : Nat) (xs : List Int) : Prop where
  len : xs.length = n
  cap : n ≤ c
  max : c ≤ 9223372036854775807
  nil : a = none → c = 0
  at' : ∀ i, i < n → ∃ b o, a = some ⟨b, o, none⟩ ∧ F b ∧ w.cell? ⟨b, o + i, none⟩ = some (iv (xs.getD i 0))
theorem Zs.kept {w w' : World} {F G : Nat → Prop} {a : Option Addr} {n c : Nat} {xs : List Int} (h : Zs w F a n c xs) (k : Kept G w w') (hd : ∀ b, F b → ¬ G b) : Zs w' F a n c xs :=
  ⟨h.len, h.cap, h.max, h.nil, fun i hi => by obtain ⟨b, o, e, hb, hc⟩ := h.at' i hi; exact ⟨b, o, e, hb, k.cell hc (hd b hb)⟩⟩
theorem Zs.of_owns {w : World} {base : Nat} {e : TypeId} {v : Value} {xs : List Int} (h : w.ownsRow base e 1 v xs.length (xs.map iv)) :
    ∃ a c, v = .slice a xs.length c ∧ Zs w (fun g => v.ownBlock = some g) a xs.length c xs := by
  rcases owns_cells h with ⟨rfl, h0⟩ | ⟨g, cap, rfl, hb, hg, hn, hm, hc, hf⟩
  · refine ⟨none, 0, by rw [h0], ⟨rfl, by omega, by omega, fun _ => rfl, fun i hi => by omega⟩⟩
  · refine ⟨_, cap, rfl, ⟨rfl, hn, hm, fun h => (by cases h), fun i hi => ⟨g, 0, rfl, rfl, ?_⟩⟩⟩
    rw [Nat.zero_add]
    exact hc i _ (iv_get hi)

/-- the count: may it be taken; what is left, the fault, the answer -/
def cnOk (xs : List Nat) (e most : Int) : Bool := tkOk xs e 4 && decide (rdN xs e 4 ≤ most) && decide (rdN xs e 4 ≤ (xs.length : Int) - 4)
def cnN (xs : List Nat) (e most : Int) : Int := if cnOk xs e most then rdN xs e 4 else 0
def cnRest (xs : List Nat) (e most : Int) : List Nat := if cnOk xs e most then xs.drop 4 else xs
def cnE (xs : List Nat) (e most : Int) : Int := if e ≠ 0 then e else if tkOk xs e 4 = false then 20 else if most < rdN xs e 4 then 1 else if (xs.length : Int) - 4 < rdN xs e 4 then 20 else 0

set_option maxHeartbeats 1000000 in
theorem count_any (F : Nat → Prop) (p : Nat) (xs : List Nat) (e most : Int) (w : World) (h : Rd w F p xs e) :
    Calls Try.prog 60 #[.pointer (some ⟨p, 0, none⟩), .int .i64 most] w fun ex w' => ex = .returned (.int .i64 (cnN xs e most)) ∧ RdDid F p (cnRest xs e most) (cnE xs e most) w w' := by
  have c26 := ru32_any F p xs e w h
  have H : Hid (Rd w F p xs e) := h
  obtain ⟨a, n, c, hv⟩ := h
  have c0 := hv.c0
  have hlen := hv.bs.len
  have HV : Hid (RdV w F p a n c xs e) := hv
  clear hv
  cases hk : tkOk xs e 4 with
  | false =>
    have hok : cnOk xs e most = false := by unfold cnOk; rw [hk]; rfl
    have hne : tkE xs e 4 ≠ 0 := by unfold tkE; rw [hk]; split <;> simp_all
    have e1 : cnN xs e most = 0 := by unfold cnN; rw [hok]; rfl
    have e2 : cnRest xs e most = tkRest xs e 4 := by unfold cnRest tkRest; rw [hok, hk]; rfl
    have e3 : cnE xs e most = tkE xs e 4 := by unfold cnE tkE; rw [hk]; rfl
    rw [e1, e2, e3]
    obtain ⟨E, hE⟩ : ∃ E, E = tkE xs e 4 := ⟨_, rfl⟩
    rw [← hE] at c26 hne ⊢
    have hne2 : (E == 0) = false := by simpa using hne
    clear hok hk e1 e2 e3 hE
    go_enter Try.func60, Try.ntmps60
    go_wp2_with (go_at_call 26; refine c26.mono ?_; rintro ex w1 ⟨rfl, ⟨a1, n1, k1, hv1⟩, kp1⟩; have d1 := hv1.c1)
    go_ret
    exact ⟨rfl, ⟨a1, n1, k1, hv1⟩, kp1⟩
  | true =>
    have he0 : e = 0 := by unfold tkOk at hk; simp at hk; exact hk.1
    subst he0
    have h4 : 4 ≤ xs.length := by unfold tkOk at hk; simp at hk; omega
    have e1 : tkE xs 0 4 = 0 := by unfold tkE; rw [hk]; rfl
    have e2 : tkRest xs 0 4 = xs.drop 4 := by unfold tkRest; rw [hk]; rfl
    rw [e1, e2] at c26
    obtain ⟨N, hN⟩ : ∃ N, N = rdN xs 0 4 := ⟨_, rfl⟩
    rw [← hN] at c26
    clear e1 e2
    -- going back: the rest as it was
    have back : ∀ (w1 : World) (E : Int), RdDid F p (xs.drop 4) 0 w w1 → RdDid F p xs E w ((w1.setCell ⟨p, 1, none⟩ (.int .i64 E)).setCell ⟨p, 0, none⟩ (.slice a n c)) := by
      rintro w1 E ⟨⟨a1, n1, k1, hv1⟩, kp1⟩
      have hb : Bs w1 (fun b => F b ∧ b ≠ p) a n c xs := by
        exact HV.out.bs.kept kp1 (fun b hb => hb.2)
      have h1 := hv1.put1 E
      refine ⟨⟨a, n, c, h1.put0 (hb.kept (G := fun k => k = p) ((Kept.refl (fun k => k = p) w1).setCell (p := ⟨p, 1, none⟩) (.inl rfl) _) (fun b hb => hb.2))⟩, ?_⟩
      exact (kp1.setCell (p := ⟨p, 1, none⟩) (.inl rfl) _).setCell (p := ⟨p, 0, none⟩) (.inl rfl) _
    have BK : Hid (∀ (w1 : World) (E : Int), RdDid F p (xs.drop 4) 0 w w1 → RdDid F p xs E w ((w1.setCell ⟨p, 1, none⟩ (.int .i64 E)).setCell ⟨p, 0, none⟩ (.slice a n c))) := back
    clear back
    by_cases h1 : most < N
    · have hok : cnOk xs 0 most = false := by unfold cnOk; rw [← hN, decide_eq_false (show ¬ N ≤ most by omega)]; simp
      have e1 : cnN xs 0 most = 0 := by unfold cnN; rw [hok]; rfl
      have e2 : cnRest xs 0 most = xs := by unfold cnRest; rw [hok]; rfl
      have e3 : cnE xs 0 most = 1 := by unfold cnE; rw [← hN, if_neg (by simp), hk, if_neg (by simp), if_pos h1]
      rw [e1, e2, e3]
      clear hok e1 e2 e3 hN hk
      go_enter Try.func60, Try.ntmps60
      go_wp2_with (go_at_call 26; refine c26.mono ?_; rintro ex w1 ⟨rfl, hd⟩; obtain ⟨a1, n1, k1, hv1⟩ := hd.1; have d1 := hv1.c1; have g1 := hv1.fz 1; have d0 := hv1.c0; have g0 := hv1.fz 0; clear hv1)
      go_ret
      exact ⟨rfl, BK.out w1 1 hd⟩
    · by_cases h2 : (xs.length : Int) - 4 < N
      · have hok : cnOk xs 0 most = false := by unfold cnOk; rw [← hN, decide_eq_false (show ¬ N ≤ (xs.length : Int) - 4 by omega)]; simp
        have e1 : cnN xs 0 most = 0 := by unfold cnN; rw [hok]; rfl
        have e2 : cnRest xs 0 most = xs := by unfold cnRest; rw [hok]; rfl
        have e3 : cnE xs 0 most = 20 := by unfold cnE; rw [← hN, if_neg (by simp), hk, if_neg (by simp), if_neg h1, if_pos h2]
        rw [e1, e2, e3]
        clear hok e1 e2 e3 hN hk
        have h3 : ∀ n1 : Nat, (xs.drop 4).length = n1 → (n1 : Int) < N := fun n1 h => by rw [List.length_drop] at h; omega
        have H3 : Hid (∀ n1 : Nat, (xs.drop 4).length = n1 → (n1 : Int) < N) := h3
        clear h3
        go_enter Try.func60, Try.ntmps60
        go_wp2_with (go_at_call 26; refine c26.mono ?_; rintro ex w1 ⟨rfl, hd⟩; obtain ⟨a1, n1, k1, hv1⟩ := hd.1; have d1 := hv1.c1; have g1 := hv1.fz 1; have d0 := hv1.c0; have g0 := hv1.fz 0; have h4 := H3.out n1 hv1.bs.len; clear hv1)
        go_ret
        exact ⟨rfl, BK.out w1 20 hd⟩
      · have hok : cnOk xs 0 most = true := by unfold cnOk; rw [← hN, hk, decide_eq_true (show N ≤ most by omega), decide_eq_true (show N ≤ (xs.length : Int) - 4 by omega)]; rfl
        have e1 : cnN xs 0 most = N := by unfold cnN; rw [hok]; exact hN.symm
        have e2 : cnRest xs 0 most = xs.drop 4 := by unfold cnRest; rw [hok]; rfl
        have e3 : cnE xs 0 most = 0 := by unfold cnE; rw [← hN, if_neg (by simp), hk, if_neg (by simp), if_neg h1, if_neg h2]
        rw [e1, e2, e3]
        clear hok e1 e2 e3 hN hk
        have h3 : ∀ n1 : Nat, (xs.drop 4).length = n1 → N ≤ (n1 : Int) := fun n1 h => by rw [List.length_drop] at h; omega
        have H3 : Hid (∀ n1 : Nat, (xs.drop 4).length = n1 → N ≤ (n1 : Int)) := h3
        clear h3
        go_enter Try.func60, Try.ntmps60
        go_wp2_with (go_at_call 26; refine c26.mono ?_; rintro ex w1 ⟨rfl, hd⟩; obtain ⟨a1, n1, k1, hv1⟩ := hd.1; have d1 := hv1.c1; have g1 := hv1.fz 1; have d0 := hv1.c0; have g0 := hv1.fz 0; have h4 := H3.out n1 hv1.bs.len; clear hv1)
        go_ret
        exact ⟨rfl, hd⟩

end Go.Proofs.Ytakdfpenpodplaa
