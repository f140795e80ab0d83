/-
  'step', of any operation.
-/
import Derived.Test.YtgapljgnedbkiaaStep4
import Derived.Test.YtgapljgnedbkiaaStep6
namespace Go.Proofs.Ytgapljgnedbkiaa
open Go.RowKit
set_option linter.unusedVariables false

/-- the memory behind one operation -/
def stX (xs : List Int) (d : OpD) : List Int :=
  if d.K = 2 then wrX xs d.Fx d.A [d.V] else if d.K = 4 then wrX xs d.Fx d.A d.ds else if d.K = 6 then (if mvOk xs.length d.N d.ds.length then wrX xs d.Fx d.A (rdX xs d.N d.ds.length) else xs) else xs
theorem stX_length (xs : List Int) (d : OpD) : (stX xs d).length = xs.length := by
  unfold stX
  split
  · exact wrX_length _ _ _ _
  · split
    · exact wrX_length _ _ _ _
    · split
      · split
        · exact wrX_length _ _ _ _
        · rfl
      · rfl

theorem step_any (w : World) (B g n cg : Nat) (xs : List Int) (Gx : Nat → Prop) (xa : Option Addr) (xc : Nat) (Gd : Nat → Prop) (da : Option Addr) (dn dc : Nat) (K Fx A N V : Int) (ds : List Int) (h : Stp w B g n cg xs Gx xa xc Gd da dn dc ds) (hN : N ≤ 9223372036854775807) :
    Calls Try.prog 17 #[.slice (some ⟨g, 0, none⟩) n cg, .slice xa n xc, .agg #[.int .i64 K, .int .i64 Fx, .int .i64 A, .int .i64 N, .int .i64 V, .slice da dn dc]] w fun ex w' => ∃ ya yc, ex = .returned (.tuple #[.slice ya n yc, .bool true]) ∧ StDid w B g n cg Gx (stX xs ⟨K, Fx, A, N, V, ds⟩) ya yc w' := by
  unfold stX
  simp only
  by_cases h1 : K = 1
  · subst h1
    rw [if_neg (by decide), if_neg (by decide), if_neg (by decide)]
    exact (step_load w B g n cg xs Gx xa xc Gd da dn dc ds Fx A N V h).mono (fun ex w' hh => ⟨xa, xc, hh.1, hh.2⟩)
  by_cases h2 : K = 2
  · subst h2
    rw [if_pos rfl]
    exact step_store w B g n cg xs Gx xa xc Gd da dn dc ds Fx A N V h
  rw [if_neg h2]
  by_cases h4 : K = 4
  · subst h4
    rw [if_pos rfl]
    exact step_write w B g n cg xs Gx xa xc Gd da dn dc ds Fx A N V h
  rw [if_neg h4]
  by_cases h6 : K = 6
  · subst h6
    rw [if_pos rfl, h.lx, h.zd.len]
    cases hk : mvOk n N dn with
    | false =>
      rw [if_neg (by simp)]
      exact (step_stay w B g n cg xs Gx xa xc Gd da dn dc ds Fx A N V h hk).mono (fun ex w' hh => ⟨xa, xc, hh.1, hh.2⟩)
    | true =>
      have hk2 : 0 ≤ N ∧ N ≤ n ∧ (dn : Int) ≤ n - N := by simpa [mvOk] using hk
      obtain ⟨d, rfl⟩ : ∃ d : Nat, N = d := ⟨N.toNat, by omega⟩
      rw [if_pos rfl]
      exact step_move w B g n cg xs Gx xa xc Gd da dn dc ds Fx A V d h (by omega)
  rw [if_neg h6]
  by_cases h3 : K = 3
  · subst h3
    exact (step_read w B g n cg xs Gx xa xc Gd da dn dc ds Fx A N V h).mono (fun ex w' hh => ⟨xa, xc, hh.1, hh.2⟩)
  by_cases h5 : K = 5
  · subst h5
    exact (step_writable w B g n cg xs Gx xa xc Gd da dn dc ds Fx A N V h hN).mono (fun ex w' hh => ⟨xa, xc, hh.1, hh.2⟩)
  exact (step_none K w B g n cg xs Gx xa xc Gd da dn dc ds Fx A N V h h1 h2 h3 h4 h5 h6).mono (fun ex w' hh => ⟨xa, xc, hh.1, hh.2⟩)

end Go.Proofs.Ytgapljgnedbkiaa
