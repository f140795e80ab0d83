/-
  Ports and channels that are read.
-/
import Derived.Test.YtdohjhhflfnncaaDoorFRch
import Derived.Test.YtdohjhhflfnncaaDoorFJo
namespace Go.Proofs.YtdohjhhflfnncaaDoor
open Go.RowKit
set_option linter.unusedVariables false
set_option maxRecDepth 100000

/-- the image's ports and channels, as they are read -/
structure Rd (w : World) (F : Nat → Prop) (a1 : Option Addr) (n1 c1 : Nat) (a2 : Option Addr) (n2 c2 : Nat) (n0 : Nat) (ps : List Po) (L : List Ch) : Prop where
  qs : Ls 6 elPo w F a1 n1 c1 ps
  cs : Ls 5 elCh w F a2 n2 c2 L
  ds : ∀ x ∈ L, x.dst.length ≤ 1000000000000
  nn : n0 ≤ 1000000
  ed : (edg n0 ps L).length ≤ 1000000
theorem Rd.kept {w w' : World} {F G : Nat → Prop} {a1 : Option Addr} {n1 c1 : Nat} {a2 : Option Addr} {n2 c2 : Nat} {n0 : Nat} {ps : List Po} {L : List Ch} (h : Rd w F a1 n1 c1 a2 n2 c2 n0 ps L) (k : Kept G w w') (hd : ∀ b, F b → ¬ G b) : Rd w' F a1 n1 c1 a2 n2 c2 n0 ps L :=
  ⟨h.qs.kept k hd (elPo_kept k hd), h.cs.kept k hd (elCh_kept k hd), h.ds, h.nn, h.ed⟩

end Go.Proofs.YtdohjhhflfnncaaDoor
