/-
  'Next'.
-/
import Derived.Test.YtffgcijicmfmlaaGreatDoorWArm
namespace Go.Proofs.YtffgcijicmfmlaaGreatDoor
open Go.RowKit
set_option linter.unusedVariables false

/-- the least tick of a list, and of one more -/
def fm (a : Int) (xs : List Fi) : Int := xs.foldl (fun a x => min a x.t) a
theorem fm_snoc (a : Int) (xs : List Fi) (x : Fi) : fm a (xs ++ [x]) = min (fm a xs) x.t := by unfold fm; rw [List.foldl_append]; rfl
theorem fm_le (xs : List Fi) : ∀ a, fm a xs ≤ a := by
  induction xs with
  | nil => intro a; exact Int.le_refl _
  | cons y xs ih => intro a; have := ih (min a y.t); show fm (min a y.t) xs ≤ a; omega
theorem fm_mem {x : Fi} : ∀ (xs : List Fi) (a : Int), x ∈ xs → fm a xs ≤ x.t
  | [], a, h => by cases h
  | y :: xs, a, h => by
    show fm (min a y.t) xs ≤ x.t
    rcases List.mem_cons.1 h with rfl | h
    · have := fm_le xs (min a x.t); omega
    · exact fm_mem xs _ h
theorem fm_ge {m : Int} : ∀ (xs : List Fi) (a : Int), m ≤ a → (∀ x, x ∈ xs → m ≤ x.t) → m ≤ fm a xs
  | [], a, h, _ => h
  | y :: xs, a, h, hx => fm_ge xs (min a y.t) (by have := hx y List.mem_cons_self; omega) (fun x hm => hx x (List.mem_cons_of_mem _ hm))

/-- the first slot holds the first timer -/
theorem first_of {n c : Nat} {M : Int → Option (Int × Int)} {S : Nat → List Fi} {L : List Fi} (hi : Iv n M S []) (hr : Rp c M L) {k : Nat} (hk : k < 448) (hne : S k ≠ []) (h0 : ∀ j, j < k → S j = []) : ∃ x L', L = x :: L' ∧ x ∈ S k ∧ ∀ y, y ∈ S k → x.t ≤ y.t := by
  have inL : ∀ l, l < 448 → ∀ y, y ∈ S l → y ∈ L := fun l hl y hy => by
    obtain ⟨j, hj⟩ := mem_at hy
    exact (hr.mem y.i y.t).1 (tk_some (hi.at' l hl j y hj))
  obtain ⟨s, hs⟩ := List.exists_mem_of_ne_nil _ hne
  cases L with
  | nil => have := inL k hk s hs; cases this
  | cons x L' =>
    have hx : ∀ y, y ∈ x :: L' → x.t ≤ y.t := fun y hy => by
      rcases List.mem_cons.1 hy with rfl | hy
      · exact Int.le_refl _
      · exact lt2_le ((List.pairwise_cons.1 hr.sorted).1 y hy)
    refine ⟨x, L', rfl, ?_, fun y hy => hx y (inL k hk y hy)⟩
    obtain ⟨j, hj⟩ := some_tk ((hr.mem x.i x.t).2 List.mem_cons_self)
    rcases hi.back x.i x.t j hj with ⟨jn, rfl, hjn⟩ | hp
    · by_cases e : sl n x.t.toNat = k
      · rw [e] at hjn; exact at_mem hjn
      · exfalso
        have hm := at_mem hjn
        have hkl : k < sl n x.t.toNat := by
          apply Decidable.byContradiction
          intro hn
          rw [h0 _ (by omega)] at hm
          cases hm
        obtain ⟨oks, es⟩ := hi.ok k hk s hs
        obtain ⟨okx, ex⟩ := hi.ok _ (sl_lt _ _) _ hm
        obtain ⟨s1, s2, s3, s4⟩ := oks.tn
        obtain ⟨x1, x2, x3, x4⟩ := okx.tn
        have g1 := slot_order_lt s3 s2 x2 s1 x1 (by rw [show sl n s.t.toNat = k from es]; exact hkl)
        have g2 := hx s (inL k hk s hs)
        dsimp only at x4 g1 g2
        omega
    · cases hp
theorem none_of {n c : Nat} {M : Int → Option (Int × Int)} {S : Nat → List Fi} {L : List Fi} (hi : Iv n M S []) (hr : Rp c M L) (h0 : ∀ j, j < 448 → S j = []) : L = [] := by
  cases L with
  | nil => rfl
  | cons x L' =>
    obtain ⟨j, hj⟩ := some_tk ((hr.mem x.i x.t).2 List.mem_cons_self)
    rcases hi.back x.i x.t j hj with ⟨jn, rfl, hjn⟩ | hp
    · rw [h0 _ (sl_lt _ _)] at hjn; cases hjn
    · cases hp

set_option maxHeartbeats 1000000 in
theorem next_wh {w : World} {F : Nat → Prop} {b n : Nat} {L : List Fi} (h : Wh w F b n L) : Calls Tryz.prog 112 #[.pointer (some ⟨b, 0, none⟩)] w fun ex w' => ex = .returned (.tuple #[.int .i64 ((L.head?.map Fi.t).getD 0), .bool L.head?.isSome]) ∧ Below w.heap.size w w' := by
  obtain ⟨hn, mb, c, M, S, V, h1, h2, h3, h4⟩ := h
  have HW : Hid (Wl w b mb n c M S V) := h1
  have HI : Hid (Iv n M S []) := h2
  have HRP : Hid (Rp c M L) := h3
  have cF := first_any h1
  clear h1 h2 h3 h4
  generalize hr1 : (L.head?.map Fi.t).getD 0 = r1
  generalize hr2 : L.head?.isSome = r2
  have HR : Hid ((L.head?.map Fi.t).getD 0 = r1 ∧ L.head?.isSome = r2) := ⟨hr1, hr2⟩
  clear hr1 hr2
  go_enter Tryz.func112, Tryz.ntmps112
  go_upto_region 1 with fail
  go_upto_region 2 with (go_at_call 113; refine cF.mono ?_; rintro ex w2 ⟨hw2, hcase⟩; obtain rfl := hw2.symm; rcases hcase with ⟨l, p, hl, hp, hne, h0, rfl⟩ | ⟨h0, rfl⟩)
  · clear cF
    have hk := ix_lt hl hp
    obtain ⟨x, L', hL, hxk, hxl⟩ := first_of HI.out HRP.out hk hne h0
    have HX : Hid (r1 = x.t ∧ r2 = true ∧ x ∈ S (ix l p) ∧ (∀ y, y ∈ S (ix l p) → x.t ≤ y.t) ∧ x.t ≤ 1099511627776) := (by
      have o := (HI.out.ok _ hk x hxk).1
      unfold Ok at o
      obtain ⟨e1, e2⟩ := HR.out
      rw [hL] at e1 e2
      exact ⟨e1.symm, e2.symm, hxk, hxl, by omega⟩)
    obtain ⟨va, vc, hv⟩ := HW.out.shape hk
    have s0 := HW.out.slot _ hk
    rw [hv, show 2 + ix l p = 2 + l * 64 + p by unfold ix; omega] at s0
    have hrow := HW.out.row _ hk
    generalize hml : (S (ix l p)).length = m at *
    have hmx : m ≤ 9223372036854775807 := by
      rcases owns_cells2 hrow with ⟨_, h2, _⟩ | ⟨g, cap, _, _, _, h3, h4, _⟩
      · omega
      · omega
    rw [hv] at hrow
    have HROW : Hid (w.ownsRow 0 98 2 (.slice va m vc) m (fcL (S (ix l p)))) := hrow
    have HML : Hid ((S (ix l p)).length = m) := hml
    clear hL hxk hxl hv hrow hml hne h0 HR
    go_wp2
    go_loopw [7, 27] (fun a d wr => ∃ j : Nat, j ≤ m ∧ d = .int .i64 j ∧ a = .int .i64 (fm 1099511627776 ((S (ix l p)).take j)) ∧ Below w.heap.size w wr) (fun _ d _ => m - (intOf d).toNat)
    case atStart => exact ⟨0, Nat.zero_le _, rfl, rfl, Below.refl _ _⟩
    case round =>
      obtain ⟨j, hj, rfl, rfl, hb⟩ := hrel
      have HB : Hid (Below w.heap.size w wr) := hb
      clear hb s0
      by_cases hlt : j < m
      · obtain ⟨y, hy⟩ : ∃ y, (S (ix l p))[j]? = some y := ⟨_, List.getElem?_eq_getElem (by rw [HML.out]; exact hlt)⟩
        have hrow := (Kept.of_below (F := No) HB.out).owns HROW.out (fun _ _ h => h)
        obtain ⟨g, rfl⟩ : ∃ g, va = some ⟨g, 0, none⟩ := by
          rcases owns_cells2 hrow with ⟨_, h2, _⟩ | ⟨g, cap, h1, _⟩
          · omega
          · injection h1 with h1 _ _; exact ⟨g, h1⟩
        obtain ⟨r0, r1', _⟩ := row_at hrow hy
        have HF : Hid (fm 1099511627776 ((S (ix l p)).take (j + 1)) = min (fm 1099511627776 ((S (ix l p)).take j)) y.t) := (show _ = _ by rw [List.take_add_one, hy, ← fm_snoc]; rfl)
        generalize fm 1099511627776 ((S (ix l p)).take j) = a0 at HF ⊢
        clear hrow hy
        obtain ⟨yt, yi⟩ := y
        dsimp only at r0 r1' HF
        go_wp2
        go_roundw
        case rel => exact ⟨j + 1, by omega, by go_num, by rw [HF.out]; congr 1; split <;> omega, HB.out.alloc HB.out.size _⟩
        case measure => simp [intOf]; omega
      · have hjm : j = m := by omega
        subst hjm
        have HF : Hid (fm 1099511627776 ((S (ix l p)).take j) = r1) := (show _ = _ by
          rw [List.take_of_length_le (by rw [HML.out]; exact Nat.le_refl _), HX.out.1]
          apply Int.le_antisymm
          · exact fm_mem _ _ HX.out.2.2.1
          · exact fm_ge _ _ HX.out.2.2.2.2 HX.out.2.2.2.1)
        generalize fm 1099511627776 ((S (ix l p)).take j) = a0 at HF ⊢
        have HR2 : Hid (r2 = true) := HX.out.2.1
        go_wp2
        go_ret2
        exact ⟨by rw [← HF.out, HR2.out]; rfl, HB.out⟩
  · have hL := none_of HI.out HRP.out h0
    have HE : Hid (r1 = 0 ∧ r2 = false) := (by
      obtain ⟨e1, e2⟩ := HR.out
      rw [hL] at e1 e2
      exact ⟨e1.symm, e2.symm⟩)
    clear cF h0 hL HR
    go_wp2
    go_ret2
    exact ⟨by rw [HE.out.1, HE.out.2]; rfl, Below.refl _ _⟩

end Go.Proofs.YtffgcijicmfmlaaGreatDoor
