/-
  'sameWords'.
-/
import Derived.Test.YtijeaonldhccmaaDoorCalls
import Derived.Deep.DeepCutAuto
import Derived.BigQuiet
import Derived.Deep.QuietTactic
namespace Go.Proofs.YtijeaonldhccmaaDoor
open Go.RowKit
set_option linter.unusedVariables false

theorem drewN_add (w : World) (a b : Nat) : (w.drewN a).drewN b = w.drewN (a + b) := by simp [World.drewN, Nat.add_assoc]

set_option maxHeartbeats 1000000 in
theorem same_any (F G : Nat → Prop) (a a' : Option Addr) (n n' c c' : Nat) (xs ys : List Int) (w : World) (hx : Zs w F a n c xs) (hy : Zs w G a' n' c' ys) :
    Calls Tryd.prog 18 #[.slice a n c, .slice a' n' c'] w fun ex w' => ex = .returned (.bool (decide (xs = ys))) ∧ ∃ k, w' = w.drewN k := by
  have hlx := hx.len
  have hly := hy.len
  have hcx := hx.cap
  have hcy := hy.cap
  have hmx := hx.max
  have HX : Hid (Zs w F a n c xs) := hx
  have HY : Hid (Zs w G a' n' c' ys) := hy
  clear hx hy
  by_cases hn : n = n'
  · subst hn
    go_enter Tryd.func18, Tryd.ntmps18
    go_wp2
    go_loopw [5] (fun i wr => ∃ k : Nat, k ≤ n ∧ i = .int .i64 k ∧ (∀ j, j < k → xs.getD j 0 = ys.getD j 0) ∧ ∃ q, wr = w.drewN q) (fun i _ => n - (intOf i).toNat)
    case atStart => exact ⟨0, by omega, rfl, fun j hj => by omega, 0, rfl⟩
    case round =>
      obtain ⟨k, hk, rfl, heq, q, rfl⟩ := hrel
      by_cases hlt : k < n
      · obtain ⟨b, o, rfl, _, hc1⟩ := HX.out.at' k hlt
        obtain ⟨b', o', rfl, _, hc2⟩ := HY.out.at' k hlt
        obtain ⟨x, hxx⟩ : ∃ x, x = xs.getD k 0 := ⟨_, rfl⟩
        obtain ⟨y, hyy⟩ : ∃ y, y = ys.getD k 0 := ⟨_, rfl⟩
        have d1 : w.cell? ⟨b, o + k, none⟩ = some (.int .i64 x) := by rw [hxx]; exact hc1
        have d2 : w.cell? ⟨b', o' + k, none⟩ = some (.int .i64 y) := by rw [hyy]; exact hc2
        have HE : Hid (∀ j, j < k → xs.getD j 0 = ys.getD j 0) := heq
        have HXX : Hid (x = xs.getD k 0) := hxx
        have HYY : Hid (y = ys.getD k 0) := hyy
        clear hc1 hc2 heq hxx hyy
        by_cases hxy : x = y
        · subst hxy
          go_wp2
          go_quiet (fail)
          go_wp2
          go_roundw
          case rel =>
            refine ⟨k + 1, by omega, by go_num, ?_, _, rfl⟩
            intro j hj
            by_cases hjk : j = k
            · subst hjk; rw [← HXX.out, ← HYY.out]
            · exact HE.out j (by omega)
          case measure => simp [intOf]; omega
        · have hne : (x == y) = false := by simpa using hxy
          have hf : decide (xs = ys) = false := by
            simp
            rintro rfl
            exact hxy (HXX.out.trans HYY.out.symm)
          have HF : Hid (decide (xs = ys) = false) := hf
          clear hf
          go_wp2
          go_quiet (fail)
          go_wp2
          go_ret
          exact ⟨by rw [HF.out]; rfl, _, drewN_add _ _ _⟩
      · have hkn : k = n := by omega
        subst hkn
        have ht : decide (xs = ys) = true := by
          simp
          apply List.ext_getElem (by omega)
          intro i h1 h2
          have := heq i (by omega)
          simpa [List.getD, h1, h2] using this
        have HT : Hid (decide (xs = ys) = true) := ht
        clear ht heq
        go_wp2
        go_ret
        exact ⟨by rw [HT.out]; rfl, q, rfl⟩
  · have hf : decide (xs = ys) = false := by
      simp
      rintro rfl
      omega
    rw [hf]
    clear hf
    have hnn : ((n : Int) == (n' : Int)) = false := by simp; omega
    go_enter Tryd.func18, Tryd.ntmps18
    go_wp2
    go_ret
    exact ⟨rfl, 0, rfl⟩

end Go.Proofs.YtijeaonldhccmaaDoor
