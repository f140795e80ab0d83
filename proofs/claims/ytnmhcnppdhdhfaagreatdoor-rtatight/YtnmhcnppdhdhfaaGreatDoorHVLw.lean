/-
  One text: VLw.
-/
import Derived.Test.YtnmhcnppdhdhfaaGreatDoorG48
import Derived.Test.YtnmhcnppdhdhfaaGreatDoorHYOpn
namespace Go.Proofs.YtnmhcnppdhdhfaaGreatDoor
open Go.ChangeShapes Go.WideShapes Go.ChangeAt Go.RowKit Plain Rp
set_option linter.unusedVariables false
set_option maxRecDepth 100000

theorem pim_of {x : Im} {p : Int} {n0 : Nat} (hl : x.parts.length = n0) (he : woE x p = 0) : ∃ q : Nat, p = q ∧ Pim x n0 q := by
  obtain ⟨q, e, h1, h2, h3, h4, h5⟩ := woE_zero he
  exact ⟨q, e, h1, by omega, h3, h4, h5⟩
theorem safe_law {F3 : Nat → Prop} {a0 a1 a2 : Option Addr} {n0 c0 n1 c1 n2 c2 : Nat} {x : Im} {b : Option Addr} {l dd : Nat} {zs : List Int} (w : World) (hg : Gl w) (hO : Lg.Ops w) (h : Img w (Hn w) a0 n0 c0 a1 n1 c1 a2 n2 c2 x) (hS : szIm x) (hZ : Ls 1 elI w F3 b l dd zs) (p t : Int) :
    Calls Tryz.prog 3 #[.agg #[.slice a0 n0 c0, .slice a1 n1 c1, .slice a2 n2 c2], .int .i64 p, .slice b l dd, .int .i64 t] w fun e w' => e = .returned (.bool true) ∧ Kept No w w' := by
  by_cases h1 : t < 0
  · exact safe_out (x := x) w hg hO p t _ (.inl h1)
  · by_cases h2 : 20000 < t
    · exact safe_out (x := x) w hg hO p t _ (.inr h2)
    · by_cases he : woE x p = 0
      · obtain ⟨q, rfl, hp⟩ := pim_of h.ps.len he
        obtain ⟨N, rfl⟩ := Int.eq_ofNat_of_zero_le (show 0 ≤ t by omega)
        exact safe_in w hg hO h hS hZ q N (by omega) hp
      · exact safe_err w hg hO h hS p t _ h1 h2 he
theorem open_ints {H : Type} {enc : TypeId × Value → H} {W : World} {base : Nat} {v : Value} {d : DataW H} {p : List MemPlace}
    (hv : Value.okWide Tryz.prog W .any base 27 v) (h : DataW.Trod enc Tryz.prog W 0 (fun _ => true) true 27 v d p) (hw : ∀ n ∈ d.weights Tryz.prog 27, n ≤ reachBytes) :
    ∃ (a : Option Addr) (n c : Nat) (xs : List Int), v = .slice a n c ∧ Ls 1 elI W (Hn W) a n c xs ∧ n * 8 ≤ reachBytes := by
  obtain ⟨fuel, hf⟩ := h
  obtain ⟨q, l, k, rfl, _⟩ := okWide_slice Tryz.underlying27 hv
  have hf' : DataW.trod enc Tryz.prog W 0 (fun _ => true) true fuel 27 [.slice q l k] = some (d, p) := hf
  obtain ⟨a, n, c, xs, e1, h1, _, h3⟩ := open_list (El := elI) (Sz := fun _ => True) Tryz.underlying27 cells_int (by decide) 0 (opn_I 3 Tryz.underlying3) hf' hw
  rw [by_cells_int] at h3
  exact ⟨a, n, c, xs, e1, h1, h3⟩
end Go.Proofs.YtnmhcnppdhdhfaaGreatDoor
