/-
  spoilt; Advance, whatever it is asked; three dispatchers apart.
-/
import Derived.Test.YtffgcijicmfmlaaGreatDoorDStepsW
namespace Go.Proofs.YtffgcijicmfmlaaGreatDoor
open Go.RowKit Plain
set_option linter.unusedVariables false
set_option maxRecDepth 100000

theorem own_over {w w' : World} {G : Nat → Prop} {base size n : Nat} {e : TypeId} {v : Value} {xs : List Value} (h : w.ownsRow base e size v n xs) (hk : Kept G w w') (hG : ∀ g, v.ownBlock = some g → ¬ G g) : w'.ownsRow base e size v n xs := by
  have hc := h
  obtain ⟨h0, h1 | ⟨g, cap, cur, rfl, hb, hg, hn, hm, h5, h6⟩⟩ := h
  · exact ⟨h0, .inl h1⟩
  · exact ⟨h0, .inr ⟨g, cap, cur, rfl, hb, by rw [hk.block g (hc.lt g rfl).2 (hG g rfl)]; exact hg, hn, hm, h5, h6⟩⟩

/-- what Advance answers, and where it stands behind it -/
def adE (t : Nat) (x : Int) : Int := if (t : Int) ≤ x ∧ x < 1099511627776 then 0 else 2
def adT (t : Nat) (x : Int) : Nat := if (t : Int) ≤ x ∧ x < 1099511627776 then x.toNat else t
theorem adT_lt {t : Nat} {x : Int} (h : t < 1099511627776) : adT t x < 1099511627776 := by
  unfold adT; split <;> omega
theorem adv_dn {w : World} {d : Nat} {R : Nat → Prop} {xs : List Srv} {t : Nat} (hv : Vd xs) (h : Dn w d R xs t) (x : Int) :
    Calls Tryz.prog 11 #[.pointer (some ⟨d, 0, none⟩), .int .i64 x] w fun e w' => e = .returned (.int .i64 (adE t x)) ∧ Dn w' d (fun k => R k ∨ w.heap.size ≤ k) xs (adT t x) ∧ Kept R w w' := by
  by_cases hx : (t : Int) ≤ x ∧ x < 1099511627776
  · obtain ⟨u, rfl⟩ : ∃ u : Nat, x = (u : Int) := ⟨x.toNat, by omega⟩
    have := good_dn hv h u (by omega) (by omega)
    unfold adE adT
    rw [if_pos hx, if_pos hx, Int.toNat_natCast]
    exact this
  · refine (bad_dn h x (by omega)).mono ?_
    rintro e w' ⟨rfl, rfl⟩
    unfold adE adT
    rw [if_neg hx, if_neg hx]
    exact ⟨rfl, h.mono (fun k hk => .inl hk), Kept.refl _ _⟩
theorem rests_own {w : World} {d : Nat} {R : Nat → Prop} {xs : List Srv} {t : Nat} (hv : Vd xs) (h : Dn w d R xs t) : Calls Tryz.prog 14 #[.pointer (some ⟨d, 0, none⟩)] w fun e w' => ∃ g c, e = .returned (.slice (some ⟨g, 0, none⟩) xs.length c) ∧ w.heap.size ≤ g ∧ g < w'.heap.size ∧ xs.length ≤ c ∧ c ≤ 9223372036854775807 ∧ Ct w' g xs.length (fun i => (Rule.rest (sys xs) t i : Int)) ∧ (∃ L, w'.ownsRow w.heap.size 3 1 (.slice (some ⟨g, 0, none⟩) xs.length c) xs.length L) ∧ Kept No w w' := by
  obtain ⟨gR, bW, a, c, FS, FW, ⟨L, h1, _⟩, h2⟩ := h
  exact (restsD_any h1 hv.num).mono (by rintro e w' ⟨g', c', rfl, q1, q2, q3, q4, q6, q5⟩; exact ⟨g', c', rfl, q1, q4.lt, q2, q3, q4, ⟨_, q6⟩, q5⟩)

set_option maxHeartbeats 4000000 in
theorem spoilt_any {g c n m : Nat} {L : List Value} (w : World) (how : w.ownsRow m 3 1 (.slice (some ⟨g, 0, none⟩) n c) n L) (hn : n ≤ 32) (hm : m ≤ w.heap.size) :
    Calls Tryz.prog 17 #[.slice (some ⟨g, 0, none⟩) n c] w fun e w' => e = .returned (.int .i64 ((n : Int) + 64)) ∧ Kept (fun k => k = g) w w' := by
  obtain ⟨i0, hi0, hz0, hz1, hz2⟩ := info_parts Tryz.infoI3
  have hcap : n ≤ c ∧ c ≤ 9223372036854775807 := by
    rcases owns_cells how with ⟨h1, _⟩ | ⟨g', cap, h1, _, _, h2, h3, _⟩
    · cases h1
    · injection h1 with _ _ h1
      subst h1
      exact ⟨h2, by unfold maxLen at h3; omega⟩
  obtain ⟨hcap, hmax⟩ := hcap
  have HO : Hid (w.ownsRow m 3 1 (.slice (some ⟨g, 0, none⟩) n c) n L) := how
  have HM : Hid (m ≤ w.heap.size) := hm
  clear how hm
  go_enter Tryz.func17, Tryz.ntmps17
  go_wp2
  go_loopw [3] (fun x wr => ∃ k : Nat, k ≤ n ∧ x = .int .i64 k ∧ (∃ L', wr.ownsRow m 3 1 (.slice (some ⟨g, 0, none⟩) n c) n L') ∧ Kept (fun k => k = g) w wr) (fun x _ => n - (intOf x).toNat)
  case atStart => exact ⟨0, Nat.zero_le _, rfl, ⟨_, HO.out⟩, Kept.refl _ w⟩
  case round =>
    obtain ⟨k, hk, rfl, ⟨L', hown⟩, hkr⟩ := hrel
    have HK : Hid (wr.ownsRow m 3 1 (.slice (some ⟨g, 0, none⟩) n c) n L' ∧ Kept (fun k => k = g) w wr) := ⟨hown, hkr⟩
    clear hown hkr
    by_cases hlt : k < n
    · have hl : L'.length = n := by have := HK.out.1.1; omega
      obtain ⟨u, hu⟩ : ∃ u, L'[k]? = some u := ⟨_, List.getElem?_eq_getElem (by omega)⟩
      have x1 : wr.cell? ⟨g, k, none⟩ = some u := by rw [HK.out.1.cellAt k (by omega)]; exact hu
      have x2 : wr.frozen? ⟨g, k, none⟩ = false := HK.out.1.frozenAt k
      clear hl hu
      go_wp2
      go_roundw
      case rel => exact ⟨k + 1, by omega, by go_num, ⟨_, (HK.out.1.stored k _).1⟩, HK.out.2.grown (HK.out.1.stored k _).2 (fun j e => .inl (by injection e with e; exact e.symm))⟩
      case measure => simp [intOf]; omega
    · have hke : k = n := by omega
      subst hke
      clear HO
      go_wp2
      go_loopw [0, 4] (fun v x w2 => ∃ j : Nat, j ≤ 64 ∧ x = .int .i64 j ∧ (∃ L', w2.ownsRow m 3 1 v (k + j) L') ∧ (∀ b, v.ownBlock = some b → b = g ∨ w.heap.size ≤ b) ∧ Kept (fun k => k = g) w w2) (fun _ x _ => 64 - (intOf x).toNat)
      case atStart => exact ⟨0, Nat.zero_le _, rfl, ⟨_, HK.out.1⟩, fun b e => .inl (by injection e with e; exact e.symm), HK.out.2⟩
      case round =>
        obtain ⟨j, hj, rfl, ⟨L2, hown⟩, hv, hkr⟩ := hrel
        have H2 : Hid (wr.ownsRow m 3 1 u0 (k + j) L2 ∧ (∀ b, u0.ownBlock = some b → b = g ∨ w.heap.size ≤ b) ∧ Kept (fun k => k = g) w wr) := ⟨hown, hv, hkr⟩
        clear hown hv hkr
        by_cases hlt2 : j < 64
        · go_wp2_with (at_builtin; refine wpList_append_own_at _ rfl _ _ 23 rfl m 3 i0 (.int .i64 0) 1 8 Tryz.underlying23 hi0 hz0 hz1 hz2 rfl (by decide) _ _ _ rfl (World.ownsRow.alloc H2.out.1 _) ⟨wr.heap.size, 0, none⟩ 1 1 [.int .i64 (-8)] rfl rfl (cell_one_new _ _ _) (one_one _ _) (by unfold maxLen; omega) (by omega) (by have := H2.out.2.2.size; have := HM.out; simp; omega) ?_; intro v9 w10 own10 grow10 _ at10)
          have HN : Hid (w10.ownsRow m 3 1 v9 (k + j + 1) (L2 ++ [.int .i64 (-8)]) ∧ (∀ b, v9.ownBlock = some b → b = g ∨ w.heap.size ≤ b) ∧ Kept (fun k => k = g) w w10) := by
            refine ⟨own10, fun b e => ?_, (H2.out.2.2.alloc _).grown grow10 (fun b e => H2.out.2.1 b e)⟩
            rcases at10 with h | h
            · exact H2.out.2.1 b (h ▸ e)
            · rw [h] at e
              injection e with e
              have := H2.out.2.2.size
              right
              simp at e
              omega
          clear own10 grow10 at10
          go_wp2
          go_roundw
          case rel => exact ⟨j + 1, by omega, by go_num, ⟨_, HN.out.1⟩, HN.out.2.1, HN.out.2.2⟩
          case measure => simp [intOf]; omega
        · have hj4 : j = 64 := by omega
          subst hj4
          rcases owns_cells H2.out.1 with ⟨_, h0⟩ | ⟨g2, cap2, hv2, _, _, q2, q3, _⟩
          · omega
          · subst hv2
            have e64 : (((k + 64 : Nat) : Int)) = (k : Int) + 64 := by omega
            go_wp2
            go_ret
            exact ⟨by first | rfl | (rw [e64]) | (simp; omega), H2.out.2.2⟩

/-- three dispatchers apart, their blocks ahead of m -/
def Tri (W w : World) (m d1 d2 d3 : Nat) (xs ys : List Srv) (t1 t2 t3 : Nat) : Prop :=
  ∃ R1 R2 R3 : Nat → Prop, Dn w d1 R1 xs t1 ∧ Dn w d2 R2 ys t2 ∧ Dn w d3 R3 xs t3 ∧ (∀ k, R1 k → ¬ R2 k ∧ ¬ R3 k) ∧ (∀ k, R2 k → ¬ R3 k) ∧ (∀ k, R1 k → W.heap.size ≤ k ∧ k < m) ∧ (∀ k, R2 k → W.heap.size ≤ k ∧ k < m) ∧ (∀ k, R3 k → W.heap.size ≤ k ∧ k < m) ∧ W.heap.size ≤ m ∧ m ≤ w.heap.size ∧ Kept No W w
section
variable {W w w' : World} {m d1 d2 d3 : Nat} {xs ys : List Srv} {t1 t2 t3 : Nat}
theorem Tri.k (h : Tri W w m d1 d2 d3 xs ys t1 t2 t3) : Kept No W w := by
  obtain ⟨R1, R2, R3, h1, h2, h3, h4, h5, h6, h7, h8, h9, h10, h11⟩ := h
  exact h11
theorem Tri.le (h : Tri W w m d1 d2 d3 xs ys t1 t2 t3) : m ≤ w.heap.size := by
  obtain ⟨R1, R2, R3, h1, h2, h3, h4, h5, h6, h7, h8, h9, h10, h11⟩ := h
  exact h10
theorem Tri.over {G : Nat → Prop} (h : Tri W w m d1 d2 d3 xs ys t1 t2 t3) (hk : Kept G w w') (hG : ∀ k, G k → m ≤ k) : Tri W w' m d1 d2 d3 xs ys t1 t2 t3 := by
  obtain ⟨R1, R2, R3, h1, h2, h3, h4, h5, h6, h7, h8, h9, h10, h11⟩ := h
  exact ⟨R1, R2, R3, h1.kept hk (fun k q g => by have := (h6 k q).2; have := hG k g; omega), h2.kept hk (fun k q g => by have := (h7 k q).2; have := hG k g; omega), h3.kept hk (fun k q g => by have := (h8 k q).2; have := hG k g; omega), h4, h5, h6, h7, h8, h9, Nat.le_trans h10 hk.size, h11.trans hk (fun k g => .inr (by have := hG k g; omega))⟩
theorem Tri.keep (h : Tri W w m d1 d2 d3 xs ys t1 t2 t3) (hk : Kept No w w') : Tri W w' m d1 d2 d3 xs ys t1 t2 t3 := h.over hk (fun _ h => h.elim)
theorem Tri.a (h : Tri W w m d1 d2 d3 xs ys t1 t2 t3) : ∃ R, Dn w d1 R xs t1 := by
  obtain ⟨R1, R2, R3, h1, h2, h3, _⟩ := h
  exact ⟨_, h1⟩
theorem Tri.c (h : Tri W w m d1 d2 d3 xs ys t1 t2 t3) : ∃ R, Dn w d3 R xs t3 := by
  obtain ⟨R1, R2, R3, h1, h2, h3, _⟩ := h
  exact ⟨_, h3⟩
theorem Tri.adv1 (hv : Vd xs) (h : Tri W w m d1 d2 d3 xs ys t1 t2 t3) (x : Int) :
    Calls Tryz.prog 11 #[.pointer (some ⟨d1, 0, none⟩), .int .i64 x] w fun e w' => e = .returned (.int .i64 (adE t1 x)) ∧ Tri W w' w'.heap.size d1 d2 d3 xs ys (adT t1 x) t2 t3 := by
  obtain ⟨R1, R2, R3, h1, h2, h3, h4, h5, h6, h7, h8, h9, h10, h11⟩ := h
  refine (adv_dn hv h1 x).mono ?_
  rintro e w' ⟨rfl, g1, g2⟩
  have hs := g2.size
  refine ⟨rfl, _, R2, R3, g1.cut, h2.kept g2 (fun k q1 q2 => (h4 k q2).1 q1), h3.kept g2 (fun k q1 q2 => (h4 k q2).2 q1), ?_, h5, ?_, fun k hk => ⟨(h7 k hk).1, by have := (h7 k hk).2; omega⟩, fun k hk => ⟨(h8 k hk).1, by have := (h8 k hk).2; omega⟩, by omega, Nat.le_refl _, h11.trans g2 (fun k hk => .inr (h6 k hk).1)⟩
  · rintro k ⟨hk | hk, _⟩
    · exact h4 k hk
    · exact ⟨fun q => by have := (h7 k q).2; omega, fun q => by have := (h8 k q).2; omega⟩
  · rintro k ⟨hk | hk, hlt⟩
    · exact ⟨(h6 k hk).1, hlt⟩
    · exact ⟨by omega, hlt⟩
theorem Tri.adv2 (hv : Vd ys) (h : Tri W w m d1 d2 d3 xs ys t1 t2 t3) (x : Int) :
    Calls Tryz.prog 11 #[.pointer (some ⟨d2, 0, none⟩), .int .i64 x] w fun e w' => e = .returned (.int .i64 (adE t2 x)) ∧ Tri W w' w'.heap.size d1 d2 d3 xs ys t1 (adT t2 x) t3 := by
  obtain ⟨R1, R2, R3, h1, h2, h3, h4, h5, h6, h7, h8, h9, h10, h11⟩ := h
  refine (adv_dn hv h2 x).mono ?_
  rintro e w' ⟨rfl, g1, g2⟩
  have hs := g2.size
  refine ⟨rfl, R1, _, R3, h1.kept g2 (fun k q1 q2 => (h4 k q1).1 q2), g1.cut, h3.kept g2 (fun k q1 q2 => h5 k q2 q1), ?_, ?_, fun k hk => ⟨(h6 k hk).1, by have := (h6 k hk).2; omega⟩, ?_, fun k hk => ⟨(h8 k hk).1, by have := (h8 k hk).2; omega⟩, by omega, Nat.le_refl _, h11.trans g2 (fun k hk => .inr (h7 k hk).1)⟩
  · intro k hk
    exact ⟨fun q => by
      rcases q.1 with q | q
      · exact (h4 k hk).1 q
      · have := (h6 k hk).2; omega, (h4 k hk).2⟩
  · rintro k ⟨hk | hk, _⟩
    · exact h5 k hk
    · exact fun q => by have := (h8 k q).2; omega
  · rintro k ⟨hk | hk, hlt⟩
    · exact ⟨(h7 k hk).1, hlt⟩
    · exact ⟨by omega, hlt⟩
theorem Tri.adv3 (hv : Vd xs) (h : Tri W w m d1 d2 d3 xs ys t1 t2 t3) (x : Int) :
    Calls Tryz.prog 11 #[.pointer (some ⟨d3, 0, none⟩), .int .i64 x] w fun e w' => e = .returned (.int .i64 (adE t3 x)) ∧ Tri W w' w'.heap.size d1 d2 d3 xs ys t1 t2 (adT t3 x) := by
  obtain ⟨R1, R2, R3, h1, h2, h3, h4, h5, h6, h7, h8, h9, h10, h11⟩ := h
  refine (adv_dn hv h3 x).mono ?_
  rintro e w' ⟨rfl, g1, g2⟩
  have hs := g2.size
  refine ⟨rfl, R1, R2, _, h1.kept g2 (fun k q1 q2 => (h4 k q1).2 q2), h2.kept g2 (fun k q1 q2 => h5 k q1 q2), g1.cut, ?_, ?_, fun k hk => ⟨(h6 k hk).1, by have := (h6 k hk).2; omega⟩, fun k hk => ⟨(h7 k hk).1, by have := (h7 k hk).2; omega⟩, ?_, by omega, Nat.le_refl _, h11.trans g2 (fun k hk => .inr (h8 k hk).1)⟩
  · intro k hk
    exact ⟨(h4 k hk).1, fun q => by
      rcases q.1 with q | q
      · exact (h4 k hk).2 q
      · have := (h6 k hk).2; omega⟩
  · intro k hk q
    rcases q.1 with q | q
    · exact h5 k hk q
    · have := (h7 k hk).2; omega
  · rintro k ⟨hk | hk, hlt⟩
    · exact ⟨(h8 k hk).1, hlt⟩
    · exact ⟨by omega, hlt⟩
end
end Go.Proofs.YtffgcijicmfmlaaGreatDoor
