/-
  first: who is next by the rule.
-/
import Derived.Test.YtffgcijicmfmlaaGreatDoorDRuleP
namespace Go.Proofs.YtffgcijicmfmlaaGreatDoor
open Go.RowKit Plain
set_option linter.unusedVariables false
set_option maxRecDepth 100000

set_option maxHeartbeats 4000000 in
theorem firstR_any {F : Nat → Prop} {a : Option Addr} {c : Nat} {xs : List Srv} {v : Value} {r : Nat → Nat} (w : World) (h : Sv w F a xs.length c xs) (hn : xs.length ≤ 32) (hr : Rd0 w v xs.length (fun i => (r i : Int))) (hb : ∀ i, i < xs.length → r i ≤ 1048576) :
    Calls Tryz.prog 19 #[.slice a xs.length c, v] w fun e w' => e = .returned (.int .i64 ((Rule.pick (sys xs) r xs.length : Int) - 1)) ∧ Kept No w w' := by
  have HS : Hid (Sv w F a xs.length c xs) := h
  have HR : Hid (Rd0 w v xs.length (fun i => (r i : Int)) ∧ ∀ i, i < xs.length → r i ≤ 1048576) := ⟨hr, hb⟩
  have hcap := h.cap
  have hmax := h.max
  obtain ⟨va, vn, vc, hvv⟩ : ∃ va vn vc, v = .slice va vn vc := by
    rcases hr with ⟨h1, _⟩ | ⟨g, c, h1, _⟩
    · exact ⟨_, _, _, h1⟩
    · exact ⟨_, _, _, h1⟩
  subst hvv
  clear h hr hb
  go_enter Tryz.func19, Tryz.ntmps19
  go_wp2
  go_loopw [5, 6] (fun v x wr => ∃ k : Nat, k ≤ xs.length ∧ x = .int .i64 k ∧ v = .int .i64 ((Rule.pick (sys xs) r k : Int) - 1) ∧ Kept No w wr) (fun _ x _ => xs.length - (intOf x).toNat)
  case atStart => exact ⟨0, Nat.zero_le _, rfl, rfl, Kept.refl No w⟩
  case round =>
    obtain ⟨k, hk, rfl, rfl, hw⟩ := hrel
    have HK : Hid (Kept No w wr) := hw
    clear hw
    by_cases hlt : k < xs.length
    · obtain ⟨g, rfl, hgv⟩ : ∃ g, va = some ⟨g, 0, none⟩ ∧ vn = xs.length ∧ Ct w g xs.length (fun i => (r i : Int)) := by
        rcases HR.out.1 with ⟨_, h0⟩ | ⟨g, c, h1, _, _, h2⟩
        · omega
        · injection h1 with h1 h3 _; exact ⟨g, h1, h3, h2⟩
      obtain ⟨rfl, hgc⟩ := hgv
      have x1 := (hgc.keep HK.out).at' k hlt
      have x2 := HR.out.2 k hlt
      obtain ⟨hok, b, o, rfl, hbb, e0, e1, e2, e3⟩ := (HS.out.keep HK.out).gs4 hlt
      have HX : Hid ((gs xs k).q = (sys xs).pr k) := rfl
      have hq6 : I6 (gs xs k).q := hok.2.2.2
      unfold I6 at hq6
      generalize (gs xs k).q = xq at *
      clear e0 e1 e2 hok hgc
      have hple := Rule.pick_le (sys xs) r k
      by_cases h0 : r k = 0
      · have HP : Hid (Rule.pick (sys xs) r (k + 1) = Rule.pick (sys xs) r k) := pick_no0 h0
        generalize r k = R at *
        have hR' : decide (0 < R) = false := decide_eq_false (by omega)
        clear x2 h0 e3 hq6
        generalize hpk : (Rule.pick (sys xs) r k : Int) - 1 = pk at *
        go_wp2
        go_quiet (fail)
        go_wp2
        go_roundw
        case rel => exact ⟨k + 1, by omega, by go_num, by rw [HP.out, hpk], HK.out.drewN _⟩
        case measure => simp [intOf]; omega
      · have h1 : 0 < r k := by omega
        by_cases hz : Rule.pick (sys xs) r k = 0
        · have HP : Hid (Rule.pick (sys xs) r (k + 1) = k + 1) := pick_yes0 h1 hz
          rw [hz]
          rw [show ((0 : Nat) : Int) - 1 = -1 from rfl]
          generalize r k = R at *
          clear h0 hz e3 hq6 hple
          go_wp2
          go_quiet (fail)
          go_wp2
          go_roundw
          case rel => exact ⟨k + 1, by omega, by go_num, by rw [HP.out]; go_num, HK.out.drewN _⟩
          case measure => simp [intOf]; omega
        · obtain ⟨p, hp⟩ : ∃ p, Rule.pick (sys xs) r k = p + 1 := ⟨Rule.pick (sys xs) r k - 1, by omega⟩
          have hpx : p < xs.length := by omega
          obtain ⟨hokp, b', o', he, _, f0, f1, f2, f3⟩ := (HS.out.keep HK.out).gs4 hpx
          simp only [Option.some.injEq, Addr.mk.injEq, and_true] at he
          obtain ⟨rfl, rfl⟩ := he
          have hp6 : I6 (gs xs p).q := hokp.2.2.2
          unfold I6 at hp6
          have HXP : Hid ((gs xs p).q = (sys xs).pr p) := rfl
          clear f0 f1 f2 hokp
          generalize (gs xs p).q = qp at *
          have ePk : (Rule.pick (sys xs) r k : Int) - 1 = (p : Int) := by omega
          rw [ePk]
          have hpi : (p : Int) < (xs.length : Int) := by omega
          have hp0 : decide ((p : Int) < 0) = false := decide_eq_false (by omega)
          by_cases hq : qp < xq
          · have HP : Hid (Rule.pick (sys xs) r (k + 1) = k + 1) := pick_yes1 h1 hp (by rw [← HXP.out, ← HX.out]; exact hq)
            generalize r k = R at *
            clear h0 hz hp hple ePk
            go_wp2
            go_quiet (fail)
            go_wp2
            go_roundw
            case rel => exact ⟨k + 1, by omega, by go_num, by rw [HP.out]; go_num, HK.out.drewN _⟩
            case measure => simp [intOf]; omega
          · have HP : Hid ((Rule.pick (sys xs) r (k + 1) : Int) - 1 = (p : Int)) := by rw [pick_no1 hp (by rw [← HXP.out, ← HX.out]; exact hq)]; show ((p + 1 : Nat) : Int) - 1 = (p : Int); omega
            generalize r k = R at *
            have hq' : decide (qp < xq) = false := decide_eq_false hq
            clear h0 hz hp hq hple ePk
            go_wp2
            go_quiet (fail)
            go_wp2
            go_roundw
            case rel => exact ⟨k + 1, by omega, by go_num, by rw [HP.out], HK.out.drewN _⟩
            case measure => simp [intOf]; omega
    · have hke : k = xs.length := by omega
      subst hke
      go_wp2
      go_ret
      exact ⟨rfl, HK.out⟩
end Go.Proofs.YtffgcijicmfmlaaGreatDoor
