/-
  WheelExact's own body.
-/
import Derived.Test.YtdojmmnojpeklaaWMain1
import Derived.Test.YtdojmmnojpeklaaWHeldW
import Derived.Test.YtdojmmnojpeklaaWOpenO
namespace Go.Proofs.Ytdojmmnojpeklaa
open Go.RowKit
set_option linter.unusedVariables false
set_option maxRecDepth 100000

def PlaySpec : Prop := ∀ (W : World) (F : Nat → Prop) (b n m : Nat) (L : List Fi) (v : Value), Wh W F b n L → (∀ k, F k → k < W.heap.size) → W.ownsRow 0 32 2 v m (fcL L) → (∀ g, v.ownBlock = some g → ¬ F g) → ∀ (kd : Int) (s : Bool) (id tick : Int), I6 id ∧ I6 tick → Calls Try.prog 20 #[pv b n v, .agg #[.int .i64 kd, .bool s, .int .i64 id, .int .i64 tick]] W (Pans W F v b)
def Few (xss : List (List Fi)) : Prop := ∀ xs, xs ∈ xss → xs.length ≤ 65536 ∧ ∀ x, x ∈ xs → I6 x.t ∧ I6 x.i
/-- the state at the head of the loop -/
def Mi (W : World) (q1 q2 j : Nat) (av wv : Value) (wr : World) : Prop := ∃ p1 p2 ls ks xss, Mn W q1 q2 p1 p2 av ls xss wv ks xss [] [] (.slice none 0 0) (.slice none 0 0) wr ∧ Few xss ∧ ls.length = j
/-- the state at the beginning -/
theorem mn_new {W w1 w2 w6 : World} {b1 b2 n1 n2 : Nat} (hW1 : Wh w1 (fun k => W.heap.size ≤ k) b1 n1 []) (hb1 : Below W.heap.size W w1) (hW2 : Wh w2 (fun k => w1.heap.size ≤ k) b2 n2 []) (hb2 : Below w1.heap.size w1 w2) (hb6 : Below w2.heap.size w2 w6) :
    Mi W w6.heap.size (w6.heap.size + 1) 0 (.slice none 0 0) (.slice none 0 0) ((w6.alloc (.cells #[.pointer (some ⟨b1, 0, none⟩), .int .i64 n1, .slice none 0 0] 51)).alloc (.cells #[.pointer (some ⟨b2, 0, none⟩), .int .i64 n2, .slice none 0 0] 51)) := by
  obtain ⟨Q1, Q2⟩ := heap_two w6 (.cells #[.pointer (some ⟨b1, 0, none⟩), .int .i64 n1, .slice none 0 0] 51) (.cells #[.pointer (some ⟨b2, 0, none⟩), .int .i64 n2, .slice none 0 0] 51)
  have hb8 : Below w6.heap.size w6 ((w6.alloc (.cells #[.pointer (some ⟨b1, 0, none⟩), .int .i64 n1, .slice none 0 0] 51)).alloc (.cells #[.pointer (some ⟨b2, 0, none⟩), .int .i64 n2, .slice none 0 0] 51)) := ((Below.refl _ w6).alloc (Nat.le_refl _) _).alloc (by simp) _
  have hsz : ((w6.alloc (.cells #[.pointer (some ⟨b1, 0, none⟩), .int .i64 n1, .slice none 0 0] 51)).alloc (.cells #[.pointer (some ⟨b2, 0, none⟩), .int .i64 n2, .slice none 0 0] 51)).heap.size = w6.heap.size + 2 := by simp
  generalize (w6.alloc (.cells #[.pointer (some ⟨b1, 0, none⟩), .int .i64 n1, .slice none 0 0] 51)).alloc (.cells #[.pointer (some ⟨b2, 0, none⟩), .int .i64 n2, .slice none 0 0] 51) = w8 at *
  have s1 := hb1.size
  have s2 := hb2.size
  have s6 := hb6.size
  have hb28 : Below w2.heap.size w2 w8 := hb6.trans (hb8.mono s6)
  have hb18 : Below w1.heap.size w1 w8 := hb2.trans (hb28.mono s2)
  refine ⟨⟨b1, n1, [], .slice none 0 0⟩, ⟨b2, n2, [], .slice none 0 0⟩, [], [], [], ⟨fun j => if j < W.heap.size then 0 else if j < w1.heap.size then 1 else if j < w2.heap.size then 2 else if j = w6.heap.size then 5 else if j = w6.heap.size + 1 then 6 else 0, hb1.trans (hb18.mono s1), fun j hj => ?_, ⟨(hW1.bound.below hb18).mono (fun k hk => ?_), World.ownsRow_nil _ _ _ _, Q1⟩, ⟨(hW2.bound.below hb28).mono (fun k hk => ?_), World.ownsRow_nil _ _ _ _, Q2⟩, (fun g e => by cases e), (fun g e => by cases e), ?_, ?_, hs_nil _, hs_nil _, (fun g e => ?_), (fun g e => ?_), World.ownsRow_nil _ _ _ _, World.ownsRow_nil _ _ _ _, (fun g e => by cases e), (fun g e => by cases e)⟩, (fun xs hxs => by cases hxs), rfl⟩
  · by_cases c0 : j < W.heap.size
    · simp [c0] at hj
    by_cases c1 : j < w1.heap.size
    · omega
    by_cases c2 : j < w2.heap.size
    · omega
    by_cases c5 : j = w6.heap.size
    · omega
    by_cases c6 : j = w6.heap.size + 1
    · omega
    · simp [c0, c1, c2, c5, c6] at hj
  · obtain ⟨a1, a2⟩ := hk
    have : ¬ k < W.heap.size := by omega
    simp [this, a2]
  · obtain ⟨a1, a2⟩ := hk
    have c0 : ¬ k < W.heap.size := by omega
    have c1 : ¬ k < w1.heap.size := by omega
    simp [c0, c1, a2]
  · have c0 : ¬ w6.heap.size < W.heap.size := by omega
    have c1 : ¬ w6.heap.size < w1.heap.size := by omega
    have c2 : ¬ w6.heap.size < w2.heap.size := by omega
    simp [c0, c1, c2]
  · have c0 : ¬ w6.heap.size + 1 < W.heap.size := by omega
    have c1 : ¬ w6.heap.size + 1 < w1.heap.size := by omega
    have c2 : ¬ w6.heap.size + 1 < w2.heap.size := by omega
    simp [c0, c1, c2]
  · rcases e with e | ⟨l, hl, _⟩
    · cases e
    · cases hl
  · rcases e with e | ⟨l, hl, _⟩
    · cases e
    · cases hl
end Go.Proofs.Ytdojmmnojpeklaa
