/-
  One text: ONext.
-/
import Derived.Test.YtibmgpinfdcaoaaGreatDoorG16
import Derived.Test.YtibmgpinfdcaoaaGreatDoorHORange
namespace Go.Proofs.YtibmgpinfdcaoaaGreatDoor
open Go.RowKit Plain
set_option linter.unusedVariables false
set_option maxRecDepth 100000

structure Bd (s : Rule.Sys) : Prop where
  ok : Rule.Ok s
  per : ∀ i, i < s.n → s.P i ≤ 1048576
  bud : ∀ i, i < s.n → s.B i ≤ 1048576
  num : s.n ≤ 32

theorem Pl.set5 {w : World} {g : Nat} {s : Rule.Sys} {idx rs nx : Nat → Nat} (h : Pl w g s idx rs nx) {k v : Nat} : Pl (w.setCell ⟨g, k * 7 + 5, none⟩ (nv v)) g s idx (Rule.up rs k v) nx := by
  refine ⟨fun j hj => ?_, fun i => by rw [World.frozen?_setCell]; exact h.fz i⟩
  obtain ⟨c0, c1, c2, c4, c5, c6⟩ := h.at' j hj
  refine ⟨?_, ?_, ?_, ?_, ?_, ?_⟩
  · rw [cell_set c0, if_neg (by omega)]
  · rw [cell_set c1, if_neg (by omega)]
  · rw [cell_set c2, if_neg (by omega)]
  · rw [cell_set c4, if_neg (by omega)]
  · rw [cell_set c5]
    by_cases e : j = k
    · subst e; rw [if_pos rfl, Rule.up_same]
    · rw [if_neg (by omega), Rule.up_other _ _ e]
  · rw [cell_set c6, if_neg (by omega)]
theorem Pl.set6 {w : World} {g : Nat} {s : Rule.Sys} {idx rs nx : Nat → Nat} (h : Pl w g s idx rs nx) {k v : Nat} : Pl (w.setCell ⟨g, k * 7 + 6, none⟩ (nv v)) g s idx rs (Rule.up nx k v) := by
  refine ⟨fun j hj => ?_, fun i => by rw [World.frozen?_setCell]; exact h.fz i⟩
  obtain ⟨c0, c1, c2, c4, c5, c6⟩ := h.at' j hj
  refine ⟨?_, ?_, ?_, ?_, ?_, ?_⟩
  · rw [cell_set c0, if_neg (by omega)]
  · rw [cell_set c1, if_neg (by omega)]
  · rw [cell_set c2, if_neg (by omega)]
  · rw [cell_set c4, if_neg (by omega)]
  · rw [cell_set c5, if_neg (by omega)]
  · rw [cell_set c6]
    by_cases e : j = k
    · subst e; rw [if_pos rfl, Rule.up_same]
    · rw [if_neg (by omega), Rule.up_other _ _ e]
theorem Pl.drewN {w : World} {g : Nat} {s : Rule.Sys} {idx rs nx : Nat → Nat} (h : Pl w g s idx rs nx) (q : Nat) : Pl (w.drewN q) g s idx rs nx := h.kept rfl

theorem catch_any {s : Rule.Sys} (hb : Bd s) {w : World} {g : Nat} {idx rs nx : Nat → Nat} {now k : Nat} (hk : k < s.n) (hn : now ≤ 1099511627776) (hp : Pl w g s idx rs nx) (hi : Rule.Inv s idx rs nx now) :
    Calls Tryz.prog 80 #[.pointer (some ⟨g, k * 7, none⟩), .int .i64 now] w fun e w' => (∃ v, e = .returned v) ∧ ∃ rs' nx', Rule.Inv s idx rs' nx' now ∧ Pl w' g s idx rs' nx' ∧ now < nx' k ∧ (∀ j, j ≠ k → rs' j = rs j ∧ nx' j = nx j) ∧ Kept (fun b => b = g) w w' := by
  obtain ⟨c0, c1, c2, c4, c5, c6⟩ := hp.at' k hk
  by_cases hle : nx k ≤ now
  · have hid := hi.lt k hk
    refine (catch_yes g (k * 7) now (nx k) (s.P (idx k)) (s.B (idx k)) (s.O (idx k)) (rs k) w c0 c1 c2 c5 c6 (hp.fz _) (hp.fz _) hle (hb.ok.per _ hid) (hb.per _ hid) (hb.ok.off _ hid) hn).mono ?_
    rintro e w' ⟨hv, q, rfl⟩
    have ha := nextN_after hb.ok (i := idx k) (now := now) hid
    refine ⟨hv, _, _, hi.catchUp hk hle ha, (hp.set5.set6).drewN q, ?_, ?_, ?_⟩
    · rw [Rule.up_same]; exact ha.2.1
    · intro j hj; exact ⟨Rule.up_other _ _ hj, Rule.up_other _ _ hj⟩
    · exact (((Kept.refl (fun b => b = g) w).setCell (p := ⟨g, k * 7 + 5, none⟩) (.inl rfl) _).setCell (p := ⟨g, k * 7 + 6, none⟩) (.inl rfl) _).drewN q
  · refine (catch_no g (k * 7) now (nx k) w c6 (by omega)).mono ?_
    rintro e w' ⟨hv, rfl⟩
    exact ⟨hv, rs, nx, hi, hp, by omega, fun j _ => ⟨rfl, rfl⟩, Kept.refl _ _⟩

theorem if_mn (x y : Nat) : ∃ z : Nat, (if x < y then (x : Int) else (y : Int)) = (z : Int) ∧ z ≤ x ∧ z ≤ y ∧ (z = x ∨ z = y) := by
  by_cases h : x < y
  · exact ⟨x, by rw [if_pos h], by omega, by omega, .inl rfl⟩
  · exact ⟨y, by rw [if_neg h], by omega, by omega, .inr rfl⟩
theorem cells2 {w : World} {g : Nat} {u v : Value} {t : TypeId} (h : w.heap[g]? = some (.cells #[u, v] t)) : w.cell? ⟨g, 0, none⟩ = some u ∧ w.cell? ⟨g, 1, none⟩ = some v ∧ w.frozen? ⟨g, 0, none⟩ = false ∧ w.frozen? ⟨g, 1, none⟩ = false := by
  refine ⟨?_, ?_, ?_, ?_⟩ <;> simp [World.cell?, World.frozen?, h]
theorem if_mn2 (x b n : Nat) (h : n < b) : ∃ z : Nat, (if (x : Int) < (b : Int) - (n : Int) then (x : Int) else (b : Int) - (n : Int)) = (z : Int) ∧ z ≤ x ∧ n + z ≤ b ∧ (z = x ∨ z = b - n) := by
  by_cases h : (x : Int) < (b : Int) - (n : Int)
  · exact ⟨x, by rw [if_pos h], by omega, by omega, .inl rfl⟩
  · exact ⟨b - n, by rw [if_neg h]; omega, by omega, by omega, .inr rfl⟩
theorem set2 {w : World} {g : Nat} {u v x y : Value} {t : TypeId} (h : w.heap[g]? = some (.cells #[u, v] t)) : ((w.setCell ⟨g, 0, none⟩ x).setCell ⟨g, 1, none⟩ y).heap[g]? = some (.cells #[x, y] t) := by
  simp only [World.setCell, Array.getElem?_modify, if_pos, h]
  rfl
/-- what nextSlot has told -/
def Told (s : Rule.Sys) (w : World) (g : Nat) (idx : Nat → Nat) (now below : Nat) (e : Ending) (w' : World) : Prop :=
  ∃ (len part : Nat) (rs' nx' : Nat → Nat), e = .returned (sv len part) ∧ 1 ≤ len ∧ now + len ≤ below ∧ (∀ u, now ≤ u → u < now + len → Rule.occ s u = part) ∧ Rule.Inv s idx rs' nx' (now + len) ∧ Pl w' g s idx rs' nx' ∧ Kept (fun b => b = g) w w'

set_option maxHeartbeats 2000000 in
theorem next_slot {s : Rule.Sys} (hb : Bd s) {w : World} {g c : Nat} {idx rs nx : Nat → Nat} {now below : Nat} (hg : g < w.heap.size) (h1 : now < below) (h2 : below ≤ 1099511627776) (hp : Pl w g s idx rs nx) (hi : Rule.Inv s idx rs nx now) :
    Calls Tryz.prog 59 #[.slice (some ⟨g, 0, none⟩) s.n c, .int .i64 now, .int .i64 below] w (Told s w g idx now below) := by
  have hn := hb.num
  have HB : Hid (Bd s) := hb
  have HA : Hid (Kept (fun b => b = g) w (w.alloc (.cells #[.int .i64 0, .int .i64 0] 79))) := (Kept.refl _ w).alloc _
  have HP0 : Hid (Pl (w.alloc (.cells #[.int .i64 0, .int .i64 0] 79)) g s idx rs nx) := hp.kept (Below.heap_alloc _ _ _ hg)
  have HI0 : Hid (Rule.Inv s idx rs nx now) := hi
  have HG : Hid (g < w.heap.size) := hg
  clear hp hi hb hg
  go_enter Tryz.func59, Tryz.ntmps59
  go_wp2
  go_loopw [2, 12] (fun v x wr => ∃ (k b : Nat) (rs nx : Nat → Nat), k ≤ s.n ∧ x = .int .i64 k ∧ v = .int .i64 b ∧ now < b ∧ b ≤ below ∧ Rule.Inv s idx rs nx now ∧ Pl wr g s idx rs nx ∧ (∀ j, j < k → now < nx j ∧ rs j = 0 ∧ b ≤ nx j) ∧ Kept (fun b => b = g) w wr ∧ wr.heap[w.heap.size]? = some (.cells #[.int .i64 0, .int .i64 0] 79)) (fun _ x _ => s.n - (intOf x).toNat)
  case atStart => exact ⟨0, below, rs, nx, by omega, rfl, rfl, h1, Nat.le_refl _, HI0.out, HP0.out, fun j hj => by omega, HA.out, World.alloc_heap_new _ _⟩
  case round =>
    clear HP0 HI0 HA
    clear rs nx
    obtain ⟨k, b, rs, nx, hk, rfl, rfl, hb1, hb2, hi, hp, hj, hkr, hres⟩ := hrel
    by_cases hlt : k < s.n
    · have hc := catch_any HB.out (k := k) hlt (by omega) hp hi
      have HR : Hid (Kept (fun b => b = g) w wr ∧ wr.heap[w.heap.size]? = some (.cells #[.int .i64 0, .int .i64 0] 79) ∧ (∀ j, j < k → now < nx j ∧ rs j = 0 ∧ b ≤ nx j)) := ⟨hkr, hres, hj⟩
      clear hi hp hj hkr hres
      go_upto_region 6 with (go_at_call 80; refine hc.mono ?_; rintro e w1 ⟨⟨v, rfl⟩, rs', nx', hi1, hp1, hn1, ho1, hk1⟩; clear hc)
      obtain ⟨c0, c1, c2, c4, c5, c6⟩ := hp1.at' k hlt
      have H1 : Hid (Rule.Inv s idx rs' nx' now ∧ Pl w1 g s idx rs' nx' ∧ (∀ (j : Nat), j ≠ k → rs' j = rs j ∧ nx' j = nx j) ∧ Kept (fun b => b = g) wr w1) := ⟨hi1, hp1, ho1, hk1⟩
      clear hi1 ho1 hk1
      have f5 := hp1.fz (k * 7 + 5)
      clear hp1 c0 c1 c2
      unfold nv at c4 c5 c6
      go_upto_region 7 with fail
      obtain ⟨b', eb, q1, q2, q3⟩ := if_mn (nx' k) b
      simp only [eb]
      have HQ : Hid (b' = nx' k ∨ b' = b) := q3
      clear eb q3
      generalize hrk : rs' k = x at *
      have HX : Hid (rs' k = x) := hrk
      have hxb : x ≤ 1048576 := by
        have e1 := (H1.out.1.soon k hlt hn1).1
        have e2 := Rule.rest_le s now (idx k)
        have e3 := HB.out.bud (idx k) (H1.out.1.lt k hlt)
        rw [hrk] at e1
        omega
      clear hrk
      by_cases hx : 0 < x
      · go_upto_region 9 with fail
        obtain ⟨L, eL, p1, p2, p3⟩ := if_mn2 x b' now (by rcases HQ.out with h | h <;> omega)
        simp only [eL]
        have HL : Hid (1 ≤ L) := by show 1 ≤ L; rcases HQ.out with h | h <;> rcases p3 with h' | h' <;> omega
        clear eL p3
        have hne : w.heap.size ≠ g := by have := HG.out; omega
        have hres1 : w1.heap[w.heap.size]? = some (.cells #[.int .i64 0, .int .i64 0] 79) := H1.out.2.2.2.at' HR.out.2.1 hne
        obtain ⟨r0, r1, r2, r3⟩ := cells2 hres1
        have HN : Hid (w.heap.size ≠ g ∧ w1.heap[w.heap.size]? = some (.cells #[.int .i64 0, .int .i64 0] 79)) := ⟨hne, hres1⟩
        clear hres1
        go_upto_region 10 with fail
        have s0 : (w1.setCell ⟨g, k * 7 + 5, none⟩ (.int .i64 (x - L : Int))).cell? ⟨g, k * 7 + 4, none⟩ = some (.int .i64 ((idx k + 1 : Nat) : Int)) := by rw [cell_set c4, if_neg (by omega)]
        have t0 : (w1.setCell ⟨g, k * 7 + 5, none⟩ (.int .i64 (x - L : Int))).heap[w.heap.size]? = some (.cells #[.int .i64 0, .int .i64 0] 79) := (Below.heap_setCell _ _ _ _ hne).trans HN.out.2
        have HS : Hid (w1.setCell ⟨g, k * 7 + 5, none⟩ (.int .i64 (x - L : Int)) = w1.setCell ⟨g, k * 7 + 5, none⟩ (nv (x - L))) := by show _ = _; unfold nv; congr 2; omega
        obtain ⟨r0', r1', r2', r3'⟩ := cells2 t0
        have HT : Hid ((w1.setCell ⟨g, k * 7 + 5, none⟩ (.int .i64 (x - L : Int))).heap[w.heap.size]? = some (.cells #[.int .i64 0, .int .i64 0] 79)) := t0
        clear t0
        clear r0 r1 r2 r3 c4 c5 c6 f5
        generalize w1.setCell ⟨g, k * 7 + 5, none⟩ (.int .i64 (x - L : Int)) = w2 at *
        go_wp2
        have e2 := HS.out
        obtain ⟨hi1, hp1, ho1, hk1⟩ := H1.out
        have hsl := hi1.slot HB.out.ok (L := L) hlt (fun j hj => ?_) (fun j hj => ?_) (by rw [HX.out]; exact p1)
        · obtain ⟨z1, z2⟩ := hsl
          refine bodyPost_ret (results_cell_row rfl _ _ w.heap.size 79 #[.int .i64 L, .int .i64 ((idx k + 1 : Nat) : Int)] (0, 0) _ rfl (set2 HT.out) Tryz.underlying79 rfl (by kernel_rfl)) rfl ?_
          obtain ⟨hr1, hr2, hr3⟩ := HR.out
          rw [HX.out] at z2
          refine ⟨L, idx k + 1, _, nx', rfl, HL.out, by omega, z1, z2, ?_, ?_⟩
          · have hp2 : Pl w2 g s idx (Rule.up rs' k (x - L)) nx' := by rw [e2]; exact hp1.set5
            exact hp2.kept ((Below.heap_setCell _ _ _ _ (Ne.symm HN.out.1)).trans (Below.heap_setCell _ _ _ _ (Ne.symm HN.out.1)))
          · have hk2 : Kept (fun b => b = g) w w2 := by rw [e2]; exact (hr1.trans hk1 (fun _ h => .inl h)).setCell (p := ⟨g, k * 7 + 5, none⟩) (.inl rfl) _
            exact (hk2.setCell (p := ⟨w.heap.size, 0, none⟩) (.inr (Nat.le_refl _)) _).setCell (p := ⟨w.heap.size, 1, none⟩) (.inr (Nat.le_refl _)) _
        · obtain ⟨hr1, hr2, hr3⟩ := HR.out
          by_cases e : j = k
          · subst e; exact ⟨hn1, by omega⟩
          · obtain ⟨o1, o2⟩ := ho1 j e
            obtain ⟨a1, a2, a3⟩ := hr3 j (by omega)
            rw [o2]
            exact ⟨a1, by omega⟩
        · obtain ⟨hr1, hr2, hr3⟩ := HR.out
          obtain ⟨o1, o2⟩ := ho1 j (by omega)
          rw [o1]
          exact (hr3 j (by omega)).2.1
      · have hx0 : x = 0 := by omega
        subst hx0
        go_wp2
        go_roundw
        case rel =>
          obtain ⟨hi1, hp1, ho1, hk1⟩ := H1.out
          obtain ⟨hr1, hr2, hr3⟩ := HR.out
          refine ⟨k + 1, b', rs', nx', by omega, by go_num, rfl, by rcases HQ.out with h | h <;> omega, by omega, hi1, hp1, fun j hj => ?_, hr1.trans hk1 (fun _ h => .inl h), hk1.at' hr2 (by have := HG.out; omega)⟩
          by_cases e : j = k
          · subst e; exact ⟨hn1, HX.out, q1⟩
          · obtain ⟨o1, o2⟩ := ho1 j e
            obtain ⟨a1, a2, a3⟩ := hr3 j (by omega)
            rw [o1, o2]
            exact ⟨a1, a2, by omega⟩
        case measure => simp [intOf]; omega
    · have hke : k = s.n := by omega
      subst hke
      obtain ⟨r0, r1, r2, r3⟩ := cells2 hres
      have H1 : Hid (Rule.Inv s idx rs nx now ∧ Pl wr g s idx rs nx ∧ Kept (fun b => b = g) w wr ∧ ∀ j, j < s.n → now < nx j ∧ rs j = 0 ∧ b ≤ nx j) := ⟨hi, hp, hkr, hj⟩
      clear hi hp hkr hj
      have HRS : Hid (wr.heap[w.heap.size]? = some (.cells #[.int .i64 0, .int .i64 0] 79)) := hres
      clear hres
      go_wp2
      obtain ⟨hi1, hp1, hk1, hj1⟩ := H1.out
      obtain ⟨z1, z2⟩ := hi1.none (L := b - now) (fun j hj => by obtain ⟨a1, a2, a3⟩ := hj1 j hj; exact ⟨a1, a2, by omega⟩)
      have hne : w.heap.size ≠ g := by have := HG.out; omega
      refine bodyPost_ret (results_cell_row rfl _ _ w.heap.size 79 #[.int .i64 (b - now : Int), .int .i64 0] (0, 0) _ rfl (set2 HRS.out) Tryz.underlying79 rfl (by kernel_rfl)) rfl ?_
      have e1 : ((b : Int) - now) = ((b - now : Nat) : Int) := by omega
      refine ⟨b - now, 0, rs, nx, by rw [e1]; rfl, by omega, by omega, z1, z2, ?_, ?_⟩
      · exact hp1.kept ((Below.heap_setCell _ _ _ _ (Ne.symm hne)).trans (Below.heap_setCell _ _ _ _ (Ne.symm hne)))
      · exact (hk1.setCell (p := ⟨w.heap.size, 0, none⟩) (.inr (Nat.le_refl _)) _).setCell (p := ⟨w.heap.size, 1, none⟩) (.inr (Nat.le_refl _)) _
end Go.Proofs.YtibmgpinfdcaoaaGreatDoor
