/-
  chosen: who has, of these rests, the greatest priority.
-/
import Derived.Test.YticnkekedhhbaaaGreatDoorORests
import Derived.BigQuiet
namespace Go.Proofs.YticnkekedhhbaaaGreatDoor
open Go.RowKit Go.Shelf Plain
set_option linter.unusedVariables false
set_option maxRecDepth 100000

theorem pick_yes0 {s : Rule.Sys} {r : Nat → Nat} {k : Nat} (h : 0 < r k) (h0 : Rule.pick s r k = 0) : Rule.pick s r (k + 1) = k + 1 := by
  rw [Rule.pick]; exact if_pos ⟨h, .inl h0⟩
theorem pick_yes1 {s : Rule.Sys} {r : Nat → Nat} {k p : Nat} (h : 0 < r k) (h0 : Rule.pick s r k = p + 1) (hq : s.pr p < s.pr k) : Rule.pick s r (k + 1) = k + 1 := by
  rw [Rule.pick]; exact if_pos ⟨h, .inr (by rw [h0, Nat.add_sub_cancel]; exact hq)⟩
theorem pick_no0 {s : Rule.Sys} {r : Nat → Nat} {k : Nat} (h : r k = 0) : Rule.pick s r (k + 1) = Rule.pick s r k := by
  rw [Rule.pick]; exact if_neg (fun h' => by omega)
theorem pick_no1 {s : Rule.Sys} {r : Nat → Nat} {k p : Nat} (h0 : Rule.pick s r k = p + 1) (hq : ¬ s.pr p < s.pr k) : Rule.pick s r (k + 1) = p + 1 := by
  rw [Rule.pick, h0]; exact if_neg (fun h' => by
    rcases h'.2 with h1 | h1
    · omega
    · rw [Nat.add_sub_cancel] at h1; exact hq h1)
theorem Sv.prio {w : World} {F : Nat → Prop} {b o : Nat} {n c : Nat} {xs : List Srv} (h : Sv w F (some ⟨b, o, none⟩) n c xs) {i : Nat} (hi : i < xs.length) : w.cell? ⟨b, o + i * 4 + 3, none⟩ = some (.int .i64 ((sys xs).pr i)) ∧ I6 ((sys xs).pr i) := by
  have hx : xs[i]? = some xs[i] := List.getElem?_eq_getElem hi
  obtain ⟨hok, b', o', e, hb, c0, c1, c2, c3⟩ := h.at' i _ hx
  injection e with e
  injection e with e1 e2 _
  subst e1 e2
  have hgs : gs xs i = xs[i] := by unfold gs; rw [List.getD_eq_getElem?_getD, hx]; rfl
  have : (sys xs).pr i = (xs[i]).q := by show (gs xs i).q = _; rw [hgs]
  rw [this]
  exact ⟨c3, hok.2.2.2⟩

set_option maxHeartbeats 2000000 in
theorem chosen_any {F : Nat → Prop} {a : Option Addr} {c g : Nat} {xs : List Srv} {r : Nat → Nat} (w : World) (h : Sv w F a xs.length c xs) (hn : xs.length ≤ 32) (hr : Ct w g xs.length (fun i => (r i : Int))) (hb : ∀ i, i < xs.length → r i ≤ 1048576) :
    Calls Tryz.prog 13 #[.slice a xs.length c, .slice (some ⟨g, 0, none⟩) xs.length xs.length] w fun e w' => e = .returned (.int .i64 (Rule.pick (sys xs) r xs.length)) ∧ Kept No w w' := by
  have HS : Hid (Sv w F a xs.length c xs) := h
  have HR : Hid (Ct w g xs.length (fun i => (r i : Int)) ∧ ∀ i, i < xs.length → r i ≤ 1048576) := ⟨hr, hb⟩
  have hcap := h.cap
  have hmax := h.max
  clear h hr hb
  go_enter Tryz.func13, Tryz.ntmps13
  go_wp2
  go_loopw [5, 6] (fun v x wr => ∃ k : Nat, k ≤ xs.length ∧ x = .int .i64 k ∧ v = .int .i64 (Rule.pick (sys xs) r k) ∧ Kept No w wr) (fun _ x _ => xs.length - (intOf x).toNat)
  case atStart => exact ⟨0, Nat.zero_le _, rfl, rfl, Kept.refl No w⟩
  case round =>
    obtain ⟨k, hk, rfl, rfl, hw⟩ := hrel
    have HK : Hid (Kept No w wr) := hw
    clear hw
    by_cases hlt : k < xs.length
    · have x1 := (HR.out.1.keep HK.out).at' k hlt
      have x2 := HR.out.2 k hlt
      obtain ⟨b, o, rfl⟩ : ∃ b o, a = some ⟨b, o, none⟩ := by
        obtain ⟨_, b, o, e, _⟩ := HS.out.at' k _ (List.getElem?_eq_getElem hlt)
        exact ⟨b, o, e⟩
      obtain ⟨p1, p2⟩ := (HS.out.keep HK.out).prio hlt
      unfold I6 at p2
      have hple := Rule.pick_le (sys xs) r k
      by_cases h0 : r k = 0
      · have HP : Hid (Rule.pick (sys xs) r (k + 1) = Rule.pick (sys xs) r k) := pick_no0 h0
        generalize r k = R at *
        have hR' : decide (0 < R) = false := decide_eq_false (by omega)
        clear x2 p1 p2 h0
        generalize hpk : Rule.pick (sys xs) r k = pk at *
        go_wp2
        go_quiet (fail)
        go_wp2
        go_roundw
        case rel => exact ⟨k + 1, by omega, by go_num, by rw [HP.out], HK.out.drewN _⟩
        case measure => simp [intOf]; omega
      · have h1 : 0 < r k := by omega
        by_cases hz : Rule.pick (sys xs) r k = 0
        · have HP : Hid (Rule.pick (sys xs) r (k + 1) = k + 1) := pick_yes0 h1 hz
          rw [hz]
          generalize r k = R at *
          clear p1 p2 h0 hz hple
          go_wp2
          go_quiet (fail)
          go_wp2
          go_roundw
          case rel => exact ⟨k + 1, by omega, by go_num, by rw [HP.out]; go_num, HK.out.drewN _⟩
          case measure => simp [intOf]; omega
        · obtain ⟨p, hp⟩ : ∃ p, Rule.pick (sys xs) r k = p + 1 := ⟨Rule.pick (sys xs) r k - 1, by omega⟩
          have hpx : p < xs.length := by omega
          obtain ⟨q1, q2⟩ := (HS.out.keep HK.out).prio hpx
          unfold I6 at q2
          by_cases hq : (sys xs).pr p < (sys xs).pr k
          · have HP : Hid (Rule.pick (sys xs) r (k + 1) = k + 1) := pick_yes1 h1 hp hq
            generalize Rule.pick (sys xs) r k = P1 at *
            generalize r k = R at *
            generalize (sys xs).pr p = qp at *
            generalize (sys xs).pr k = qk at *
            have eI : (P1 : Int) - 1 = (p : Int) := by omega
            have hz' : ((P1 : Int) == 0) = false := beq_eq_false_iff_ne.2 (by omega)
            have hpi : (p : Int) < (xs.length : Int) := by omega
            clear h0 hz hp
            go_wp2
            go_quiet (fail)
            go_wp2
            go_roundw
            case rel => exact ⟨k + 1, by omega, by go_num, by rw [HP.out]; go_num, HK.out.drewN _⟩
            case measure => simp [intOf]; omega
          · have HP : Hid (Rule.pick (sys xs) r (k + 1) = Rule.pick (sys xs) r k) := by rw [hp]; exact pick_no1 hp hq
            generalize Rule.pick (sys xs) r k = P1 at *
            generalize r k = R at *
            generalize (sys xs).pr p = qp at *
            generalize (sys xs).pr k = qk at *
            have eI : (P1 : Int) - 1 = (p : Int) := by omega
            have hz' : ((P1 : Int) == 0) = false := beq_eq_false_iff_ne.2 (by omega)
            have hq' : decide (qp < qk) = false := decide_eq_false hq
            have hpi : (p : Int) < (xs.length : Int) := by omega
            clear h0 hz hp hq
            go_wp2
            go_quiet (fail)
            go_wp2
            go_roundw
            case rel => exact ⟨k + 1, by omega, by go_num, by rw [HP.out], HK.out.drewN _⟩
            case measure => simp [intOf]; omega
    · have hke : k = xs.length := by omega
      subst hke
      go_wp2
      go_ret
      exact ⟨rfl, HK.out⟩
end Go.Proofs.YticnkekedhhbaaaGreatDoor
