/-
  'play': what Advance does on both sides, in one form.
-/
import Derived.Test.YtdojmmnojpeklaaWPlay0
namespace Go.Proofs.Ytdojmmnojpeklaa
open Go.RowKit
set_option linter.unusedVariables false
set_option maxRecDepth 100000

/-- both Advances: the errno, the tick, what is told, what is left -/
structure Av (n : Nat) (L : List Fi) (x er : Int) (n2 : Nat) (T2 L2 : List Fi) : Prop where
  err : er = 0 ∨ er = 2
  tl : ∀ y, y ∈ T2 → y ∈ L
  len : T2.length ≤ L.length
  wheel : ∀ (w : World) (F : Nat → Prop) (b : Nat), Wh w F b n L → Calls Try.prog 12 #[.pointer (some ⟨b, 0, none⟩), .int .i64 x] w fun ex w' => ∃ l F2, ex = .returned (.tuple #[l, .int .i64 er]) ∧ Wh w' F2 b n2 L2 ∧ Kept F w w' ∧ (∀ j, F2 j → F j ∨ w.heap.size ≤ j) ∧ w'.ownsRow w.heap.size 32 2 l T2.length (fcL T2) ∧ ∀ g, l.ownBlock = some g → ¬ F2 g
  doc : ∀ (W : World) (v : Value) (m : Nat), W.ownsRow 0 32 2 v m (fcL L) → m ≤ 1000000 → Calls Try.prog 31 #[mv n v, .int .i64 x] W fun ex w' => ∃ u o, ex = .returned (.tuple #[mv n2 u, o, .int .i64 er]) ∧ w'.ownsRow W.heap.size 32 2 o T2.length (fcL T2) ∧ w'.ownsRow 0 32 2 u L2.length (fcL L2) ∧ (∀ g, u.ownBlock = some g → v.ownBlock = some g ∨ W.heap.size ≤ g) ∧ (∀ g, o.ownBlock = some g → u.ownBlock ≠ some g) ∧ Below W.heap.size W w'
theorem av_any (n : Nat) (L : List Fi) (x : Int) : ∃ er n2 T2 L2, Av n L x er n2 T2 L2 := by
  by_cases hx : x < n ∨ x > 1099511627776
  · refine ⟨2, n, [], L, .inr rfl, (fun y hy => by cases hy), Nat.zero_le _, fun w F b h => ?_, fun W v m hv hm => ?_⟩
    · refine (advance_no h x hx).mono ?_
      rintro ex w' ⟨rfl, rfl⟩
      exact ⟨_, F, rfl, h, Kept.refl _ _, fun j hj => .inl hj, World.ownsRow_nil _ _ _ _, (fun g e => by cases e)⟩
    · refine (radv_no x hx hv).mono ?_
      rintro ex w' ⟨rfl, hb⟩
      have hl := owns_len2 hv
      exact ⟨v, _, rfl, World.ownsRow_nil _ _ _ _, by rw [hl]; exact (Kept.of_below (F := No) hb).owns hv (fun _ _ h => h), fun g hg => .inl hg, (fun g e => by cases e), hb⟩
  · obtain ⟨tg, rfl⟩ : ∃ tg : Nat, x = tg := ⟨x.toNat, by omega⟩
    refine ⟨0, tg, upT tg L, pastT tg L, .inl rfl, fun y hy => (List.mem_filter.1 hy).1, List.length_filter_le _ _, fun w F b h => ?_, fun W v m hv hm => ?_⟩
    · refine (advance_yes sortSpec h tg (by omega) (by omega)).mono ?_
      rintro ex w' ⟨l, rfl, F2, T, L', rfl, h1, h2, h3, h4, h5, h6, h7⟩
      obtain ⟨e1, e2⟩ := upT_split h1 h2
      rw [e1, e2]
      exact ⟨l, F2, rfl, h4, h5, h6, h3, h7⟩
    · refine (radv_yes tg (by omega) (by omega) hv hm).mono ?_
      rintro ex w' ⟨u, o, rfl, h1, h2, h3, h4⟩
      exact ⟨u, o, rfl, h1, owns_base h2 (Nat.zero_le _), fun g hg => .inr (h2.lt g hg).1, h3, h4⟩
end Go.Proofs.Ytdojmmnojpeklaa
