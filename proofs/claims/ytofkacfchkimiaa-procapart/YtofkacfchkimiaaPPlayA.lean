/-
  plays, whole: the step as one function of the table.
-/
import Derived.Test.YtofkacfchkimiaaPPlayD
import Derived.Test.YtofkacfchkimiaaPPlayW
namespace Go.Proofs.Ytofkacfchkimiaa
open Go.RowKit Plain
set_option linter.unusedVariables false
set_option maxRecDepth 100000
/-- a step as data -/
structure Sp where
  k : Int
  p : Int
  a : Int
  b : Int
  c : Int
  d : Int
  x : Int
  y : Int
  z : Int
  ws : List Int
/-- what a step makes of the table (v: where the words that are handed in lie) -/
def Tt.plays (T : Tt) (s : Sp) (v : Value) : Option Tt :=
  if s.k = 1 then T.cStart s.p s.a s.x s.y s.z else if s.k = 2 then T.cStop s.p else if s.k = 3 then T.cSuspend s.p else if s.k = 4 then T.cResume s.p
  else if s.k = 5 then T.cLock s.p else if s.k = 6 then T.cUnlock s.p else if s.k = 7 then T.cPrio s.p s.a else if s.k = 8 then T.cYield s.p
  else if s.k = 9 then T.cWait s.p s.a s.b s.c s.d v s.ws else if s.k = 10 then T.cPeriod s.p s.a else if s.k = 11 then T.cWake s.p s.x
  else if s.k = 12 then T.cSet s.p (rgS s.x s.y s.z) s.a else if s.k = 13 then T.cFire s.p s.a s.b else none
section
variable {b g cap : Nat} {T : Tt}
theorem plays_any {F : Nat → Prop} {da : Option Addr} {dn dc : Nat} (w : World) (h : Tw w b g cap T) (hn : T.n ≤ 1048576) (hr : Rm T.pl) (hmi : ∀ i, i < T.n → Rm (T.ps i).mis) (h1 : ∀ i, i < T.n → I64 (T.ps i).rel ∧ I64 (T.ps i).per) (s : Sp) (hz : Zs w F da dn dc s.ws) (hm : dn ≤ 1048576) :
    Calls Try.prog 29 #[.pointer (some ⟨b, 0, none⟩), .agg #[.int .i64 s.k, .int .i64 s.p, .int .i64 s.a, .int .i64 s.b, .int .i64 s.c, .int .i64 s.d, .int .i64 s.x, .int .i64 s.y, .int .i64 s.z, .slice da dn dc]] w fun e w' => ∃ v, Nwv w v ∧ Does w b g cap T (T.plays s v) e w' := by
  obtain ⟨k, p, A, B, C, D, x, y, z, ws⟩ := s
  have hk : k = 1 ∨ k = 2 ∨ k = 3 ∨ k = 4 ∨ k = 5 ∨ k = 6 ∨ k = 7 ∨ k = 8 ∨ k = 9 ∨ k = 10 ∨ k = 11 ∨ k = 12 ∨ k = 13 ∨ (k < 1 ∨ 13 < k) := by omega
  have lift : ∀ {R : Option Tt}, (∀ v, T.plays ⟨k, p, A, B, C, D, x, y, z, ws⟩ v = R) → Calls Try.prog 29 #[.pointer (some ⟨b, 0, none⟩), .agg #[.int .i64 k, .int .i64 p, .int .i64 A, .int .i64 B, .int .i64 C, .int .i64 D, .int .i64 x, .int .i64 y, .int .i64 z, .slice da dn dc]] w (Does w b g cap T R) → Calls Try.prog 29 #[.pointer (some ⟨b, 0, none⟩), .agg #[.int .i64 k, .int .i64 p, .int .i64 A, .int .i64 B, .int .i64 C, .int .i64 D, .int .i64 x, .int .i64 y, .int .i64 z, .slice da dn dc]] w fun e w' => ∃ v, Nwv w v ∧ Does w b g cap T (T.plays ⟨k, p, A, B, C, D, x, y, z, ws⟩ v) e w' := fun {R} hR c => c.mono fun e w' d => ⟨.slice none 0 0, Nwv.nil w, by rw [hR]; exact d⟩
  rcases hk with rfl | rfl | rfl | rfl | rfl | rfl | rfl | rfl | rfl | rfl | rfl | rfl | rfl | hk
  · exact lift (fun _ => rfl) (plays_1 w h hn hr p A B C D x y z)
  · exact lift (fun _ => rfl) (plays_2 w h hn hr p A B C D x y z)
  · exact lift (fun _ => rfl) (plays_3 w h hn hr p A B C D x y z)
  · exact lift (fun _ => rfl) (plays_4 w h hn hr p A B C D x y z)
  · exact lift (fun _ => rfl) (plays_5 w h hn hr p A B C D x y z)
  · exact lift (fun _ => rfl) (plays_6 w h hn hr p A B C D x y z)
  · exact lift (fun _ => rfl) (plays_7 w h hn hr p A B C D x y z)
  · exact lift (fun _ => rfl) (plays_8 w h hn hr p A B C D x y z)
  · exact plays_9 w h hn hr p A B C D x y z hz hm
  · exact lift (fun _ => rfl) (plays_10 w h hn hr h1 p A B C D x y z)
  · exact lift (fun _ => rfl) (plays_11 w h hn hr p A B C D x y z)
  · exact lift (fun _ => rfl) (plays_12 w h hn p A B C D x y z)
  · exact lift (fun _ => rfl) (plays_13 w h hn hr hmi p A B C D x y z)
  · refine lift (fun _ => ?_) (plays_none w h k p A B C D x y z hk)
    unfold Tt.plays
    simp only
    rw [if_neg (by omega), if_neg (by omega), if_neg (by omega), if_neg (by omega), if_neg (by omega), if_neg (by omega), if_neg (by omega), if_neg (by omega), if_neg (by omega), if_neg (by omega), if_neg (by omega), if_neg (by omega), if_neg (by omega)]
end
end Go.Proofs.Ytofkacfchkimiaa
