/-
  proc: SetPriority; Start at no tick.
-/
import Derived.Test.YtofkacfchkimiaaPMore
namespace Go.Proofs.Ytofkacfchkimiaa
open Go.RowKit Plain
set_option linter.unusedVariables false
set_option maxRecDepth 100000

/-- another priority; a new place if it is ready -/
def Tt.prio (T : Tt) (i : Nat) (x : Int) : Tt := if (T.ps i).st = 1 then (T.at i (Pr.sPri x)).behind i else T.at i (Pr.sPri x)
section
variable {b g cap : Nat} {T : Tt}
theorem prio_yes (w : World) (h : Tw w b g cap T) {i : Nat} (hi : i < T.n) (hn : T.n ≤ 1048576) (hr : Rm T.pl) (hs : (T.ps i).st ≠ 0) (x : Int) (h0 : 0 ≤ x) (h1 : x ≤ 255) :
    Calls Try.prog 59 #[.pointer (some ⟨b, 0, none⟩), .int .i64 ((i : Int) + 1), .int .i64 x] w fun e w' => e = .returned (.bool true) ∧ Tw w' b g cap (T.prio i x) ∧ Kept (Bg b g) w w' := by
  have fi := find_yes w h hi hn
  have c0 : w.cell? ⟨g, i * 32, none⟩ = some (.int .i64 (T.ps i).st) := h.at' i hi 0 (by omega)
  have c1 : w.cell? ⟨g, i * 32 + 1, none⟩ = some (.int .i64 (T.ps i).pri) := h.at' i hi 1 (by omega)
  have f1 := h.fg (i * 32 + 1)
  have t1 := h.sPri hi x
  have k1 : Kept (Bg b g) w (w.setCell ⟨g, i * 32 + 1, none⟩ (.int .i64 x)) := (Kept.refl _ w).setCell (.inl (.inr rfl)) _
  have hs' : ((T.ps i).st == 0) = false := by simp [hs]
  generalize (T.ps i).pri = p0 at *
  by_cases h2 : (T.ps i).st = 1
  · have E : Hid (T.prio i x = (T.at i (Pr.sPri x)).behind i) := if_pos h2
    have bh := behind_tw _ t1 (show i < _ from hi) hr
    rw [h2] at c0
    have HK : Hid (Kept (Bg b g) w (w.setCell ⟨g, i * 32 + 1, none⟩ (.int .i64 x))) := k1
    clear h t1 k1 hs hs' h2
    generalize (T.at i (Pr.sPri x)).behind i = U at *
    go_enter Try.func59, Try.ntmps59
    go_wp2_with (first
      | (go_at_call 34; refine fi.mono ?_; rintro e w1 ⟨rfl, e1⟩; subst e1; clear fi)
      | (go_at_call 51; refine bh.mono ?_; rintro e w2 ⟨⟨v, rfl⟩, t2, k2⟩; have H2 : Hid (Tw w2 b g cap U ∧ Kept (Bg b g) w1 w2) := ⟨t2, HK.out.trans k2 (fun _ e => .inl e)⟩; clear t2 k2 bh))
    go_ret
    exact ⟨rfl, by rw [E.out]; exact H2.out.1, H2.out.2⟩
  · have E : Hid (T.prio i x = T.at i (Pr.sPri x)) := if_neg h2
    have h2' : ((T.ps i).st == 1) = false := by simp [h2]
    have HK : Hid (Tw (w.setCell ⟨g, i * 32 + 1, none⟩ (.int .i64 x)) b g cap (T.at i (Pr.sPri x)) ∧ Kept (Bg b g) w (w.setCell ⟨g, i * 32 + 1, none⟩ (.int .i64 x))) := ⟨t1, k1⟩
    clear h t1 k1 hs h2
    generalize (T.ps i).st = st at c0 hs' h2'
    go_enter Try.func59, Try.ntmps59
    go_wp2_with (go_at_call 34; refine fi.mono ?_; rintro e w1 ⟨rfl, e1⟩; subst e1; clear fi)
    go_ret
    exact ⟨rfl, by rw [E.out]; exact HK.out.1, HK.out.2⟩
end
end Go.Proofs.Ytofkacfchkimiaa
