/-
  The walk of NumLeast, all ways.
-/
import Derived.Test.YtpkifhbjlpkcnaaLeastTrue
import Derived.Test.YtpkifhbjlpkcnaaLeastFalse
namespace Go.Proofs.Ytpkifhbjlpkcnaa
open Go.RowKit Plain

theorem numLeast_walk (a0 : Option Addr) (len cap : Nat) (z : Nat → Int) (most times a b d : Int) (w : World) (hl : len ≤ 9223372036854775807)
    (hm : I64 most) (ht : I64 times) (ha : I64 a) (hb : I64 b) (hd : I64 d) (hr : Row w a0 len z) :
    Calls Try.prog 3 #[.slice a0 len cap, .int .i64 most, .int .i64 times, .int .i64 a, .int .i64 b, .int .i64 d] w fun e w' => e = .returned (.bool true) ∧ ∃ n, w' = w.drewN n := by
  by_cases h : 1000 < len
  · exact numLeast_long a0 len cap most times a b d w hl h
  cases hB : lcmB z len most
  · exact numLeast_false a0 len cap z most times a b d w hl (by omega) hm ht ha hb hd hr hB
  · exact numLeast_true a0 len cap z most times a b d w hl (by omega) hm ht ha hb hd hr hB

/-- a row of a slice that came in, as 'open_ints' tells it -/
theorem row_of {w : World} {x : Addr} {len cap : Nat} {zs : List Int} (hl : len ≤ cap) (hz : zs.length = cap)
    (hcell : ∀ i, i < zs.length → w.cell? (x.add i) = some (.int .i64 (zs.getD i 0))) (hw : ∀ n ∈ zs, (Lit.int .i64 n).wf = true) :
    Row w (some x) len (fun i => zs.getD i 0) := by
  intro i hi
  have h0 := hcell 0 (by omega)
  have hc := hcell i (by omega)
  obtain ⟨bk, off, spot⟩ := x
  have hs : spot = none := by simpa [Addr.add] using World.cell?_spot h0
  subst hs
  have hm : zs.getD i 0 ∈ zs := by
    rw [List.getD_eq_getElem?_getD, List.getElem?_eq_getElem (show i < zs.length by omega)]
    exact List.getElem_mem _
  have e : (Addr.add ⟨bk, off, none⟩ i) = ⟨bk, off + i, none⟩ := by
    by_cases h : i = 0
    · subst h; simp [Addr.add]
    · simp [Addr.add, h]
  rw [e] at hc
  exact ⟨bk, off, rfl, hc, wf_I64 (hw _ hm)⟩

end Go.Proofs.Ytpkifhbjlpkcnaa
