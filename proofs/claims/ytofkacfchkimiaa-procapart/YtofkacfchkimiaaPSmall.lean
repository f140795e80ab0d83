/-
  proc: the small calls.
-/
import Derived.Test.YtofkacfchkimiaaNNext
import Derived.Test.YtofkacfchkimiaaPData
import Derived.BigRegion
namespace Go.Proofs.Ytofkacfchkimiaa
open Go.RowKit Plain
set_option linter.unusedVariables false
set_option maxRecDepth 100000

/-- the table's two blocks -/
def Bg (b g : Nat) : Nat → Prop := fun x => x = b ∨ x = g
/-- the next place may be one more -/
def Rm (x : Int) : Prop := 0 ≤ x ∧ x < 4611686018427387904

theorem isTick_any (t : Int) (w : World) : Calls Try.prog 35 #[.int .i64 t] w fun e w' => e = .returned (.bool (decide (0 ≤ t) && decide (t < 1099511627776))) ∧ w' = w := by
  by_cases h1 : 0 ≤ t
  · rw [show decide (0 ≤ t) = true by simp [h1], Bool.true_and]
    go_enter Try.func35, Try.ntmps35
    go_wp2
    go_ret
    exact ⟨rfl, rfl⟩
  · rw [show decide (0 ≤ t) = false by simp [h1], Bool.false_and]
    have h2 : t < 0 := by omega
    go_enter Try.func35, Try.ntmps35
    go_wp2
    go_ret
    exact ⟨rfl, rfl⟩

section
variable {b g cap : Nat} {T : Tt}
theorem behind_tw (w : World) (h : Tw w b g cap T) {i : Nat} (hi : i < T.n) (hr : Rm T.pl) :
    Calls Try.prog 51 #[.pointer (some ⟨b, 0, none⟩), .pointer (some ⟨g, i * 32, none⟩)] w fun e w' => (∃ v, e = .returned v) ∧ Tw w' b g cap (T.behind i) ∧ Kept (Bg b g) w w' := by
  have hb := h.pl
  have hc : w.cell? ⟨g, i * 32 + 2, none⟩ = some (.int .i64 (T.ps i).pl) := h.at' i hi 2 (by omega)
  have fb := h.fb 4
  have fc := h.fg (i * 32 + 2)
  have hne := h.ne
  obtain ⟨r1, r2⟩ := hr
  have H : Hid (Tw w b g cap T) := h
  clear h
  go_enter Try.func51, Try.ntmps51
  go_wp2
  go_end0
  exact ⟨⟨_, rfl⟩, (H.out.sPl hi T.pl).setPl (T.pl + 1), ((Kept.refl _ w).setCell (.inl (.inr rfl)) _).setCell (.inl (.inl rfl)) _⟩

theorem enter_tw (w : World) (h : Tw w b g cap T) {i : Nat} (hi : i < T.n) (hr : Rm T.pl) (s : Int) :
    Calls Try.prog 39 #[.pointer (some ⟨b, 0, none⟩), .pointer (some ⟨g, i * 32, none⟩), .int .i64 s] w fun e w' => (∃ v, e = .returned v) ∧ Tw w' b g cap (T.enter i s) ∧ Kept (Bg b g) w w' := by
  have c0 : w.cell? ⟨g, i * 32, none⟩ = some (.int .i64 (T.ps i).st) := h.at' i hi 0 (by omega)
  have c7 : w.cell? ⟨g, i * 32 + 22, none⟩ = some (.int .i64 (T.ps i).un) := h.at' i hi 22 (by omega)
  have c9 : w.cell? ⟨g, i * 32 + 24, none⟩ = some (.int .i64 (T.ps i).ob) := h.at' i hi 24 (by omega)
  have c10 : w.cell? ⟨g, i * 32 + 25, none⟩ = some (.int .i64 (T.ps i).ad) := h.at' i hi 25 (by omega)
  have c11 : w.cell? ⟨g, i * 32 + 26, none⟩ = some (T.ps i).da := h.at' i hi 26 (by omega)
  have f0 := h.fg (i * 32)
  have f7 := h.fg (i * 32 + 22)
  have f9 := h.fg (i * 32 + 24)
  have f10 := h.fg (i * 32 + 25)
  have f11 := h.fg (i * 32 + 26)
  have H := ((((h.sSt hi s).sUn (show i < (T.at i (Pr.sSt s)).n from hi) (-1)).sOb (show i < ((T.at i (Pr.sSt s)).at i (Pr.sUn (-1))).n from hi) 0).sAd (show i < (((T.at i (Pr.sSt s)).at i (Pr.sUn (-1))).at i (Pr.sOb 0)).n from hi) 0).sDa (show i < ((((T.at i (Pr.sSt s)).at i (Pr.sUn (-1))).at i (Pr.sOb 0)).at i (Pr.sAd 0)).n from hi) (Zs.none _ _)
  have kk : Kept (Bg b g) w (((((w.setCell ⟨g, i * 32, none⟩ (.int .i64 s)).setCell ⟨g, i * 32 + 22, none⟩ (.int .i64 (-1))).setCell ⟨g, i * 32 + 24, none⟩ (.int .i64 0)).setCell ⟨g, i * 32 + 25, none⟩ (.int .i64 0)).setCell ⟨g, i * 32 + 26, none⟩ (.slice none 0 0)) :=
    (((((Kept.refl _ w).setCell (.inl (.inr rfl)) _).setCell (.inl (.inr rfl)) _).setCell (.inl (.inr rfl)) _).setCell (.inl (.inr rfl)) _).setCell (.inl (.inr rfl)) _
  have bh := behind_tw _ H (show i < _ from hi) hr
  clear h H
  go_enter Try.func39, Try.ntmps39
  go_wp2_with (go_at_call 51; refine bh.mono ?_; rintro e w' ⟨⟨v, rfl⟩, t, k⟩; have Hh : Hid (Tw w' b g cap (T.enter i s) ∧ Kept (Bg b g) w w') := ⟨t, kk.trans k (fun _ e => .inl e)⟩; clear t k bh kk)
  go_end0
  exact ⟨⟨_, rfl⟩, Hh.out⟩
end
end Go.Proofs.Ytofkacfchkimiaa
