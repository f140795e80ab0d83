/-
  'lay'.
-/
import Derived.Test.YtffgcijicmfmlaaGreatDoorWHeld
namespace Go.Proofs.YtffgcijicmfmlaaGreatDoor
open Go.RowKit
set_option linter.unusedVariables false

theorem info_partsw {P : Program} {e : TypeId} {z : Option Value} {s b : Nat} (h : (P.info? e).map (fun i => (i.zero, i.size, i.bytes)) = some (z, s, b)) : ∃ i, P.info? e = some i ∧ i.zero = z ∧ i.size = s ∧ i.bytes = b := by
  cases hi : P.info? e with
  | none => rw [hi] at h; cases h
  | some i => rw [hi] at h; simp at h; exact ⟨i, rfl, h.1, h.2.1, h.2.2⟩
theorem info32 : (Tryz.prog.info? 98).map (fun i => (i.zero, i.size, i.bytes)) = some (some (.agg #[.int .i64 0, .int .i64 0]), 2, 16) := by kernel_rfl

namespace Wl
variable {w w' : World} {b mb n c : Nat} {M : Int → Option (Int × Int)} {S : Nat → List Fi} {V : Nat → Value}
/-- a slot's row has grown: in its place or elsewhere -/
theorem grow (h : Wl w b mb n c M S V) {k : Nat} (hk : k < 448) {v : Value} {xs : List Fi} (kp : Kept (fun j => (V k).ownBlock = some j) w w') (hv : w'.ownsRow 0 98 2 v xs.length (fcL xs)) (hb : v.ownBlock = (V k).ownBlock ∨ ∃ g, v.ownBlock = some g ∧ w.heap.size ≤ g) :
    Wl (w'.setCell ⟨b, 2 + k, none⟩ v) b mb n c M (updN S k xs) (updN V k v) := by
  have hbk := (h.rb k hk).1
  have hmk := (h.rb k hk).2
  have kq : Kept (fun j => j = b) w' (w'.setCell ⟨b, 2 + k, none⟩ v) := Kept.setCell (F := fun j => j = b) (p := ⟨b, 2 + k, none⟩) (Kept.refl _ w') (.inl rfl) _
  obtain ⟨cs, hcs⟩ := h.blk
  have hcs' := kp.at' hcs hbk
  have hvb : v.ownBlock ≠ some b := by
    rcases hb with e | ⟨g, e, hg⟩
    · rw [e]; exact hbk
    · rw [e]; intro e2; injection e2 with e2; have := h.lt; omega
  have hvm : v.ownBlock ≠ some mb := by
    rcases hb with e | ⟨g, e, hg⟩
    · rw [e]; exact hmk
    · rw [e]; intro e2; injection e2 with e2; have := h.tm.lt; omega
  have hvr : ∀ j, j < 448 → j ≠ k → ∀ g, v.ownBlock = some g → (V j).ownBlock ≠ some g := by
    intro j hj hjk g hg
    rcases hb with e | ⟨g', e, hg'⟩
    · rw [e] at hg; exact h.rr k j hk hj (fun e => hjk e.symm) g hg
    · rw [e] at hg; injection hg with hg; intro e2; have := ((h.row j hj).lt g e2).2; omega
  refine ⟨⟨_, heap_setCell_eq hcs' v⟩, (cell_other w' b (2 + k) 0 v (by omega)).trans (kp.cell h.now hbk), (cell_other w' b (2 + k) 1 v (by omega)).trans (kp.cell h.map hbk), fun j hj => ?_, fun j hj => ?_, (h.tm.kept kp hmk).kept kq h.ne, h.ne, fun j hj => ?_, fun i j hi hj hij g => ?_⟩
  · by_cases e : j = k
    · subst e
      rw [updN_same]
      exact World.cell?_setCell_same _ _ _ (kp.cell (h.slot j hj) hbk)
    · rw [updN_ne _ _ e]
      exact (cell_other w' b (2 + k) (2 + j) v (by omega)).trans (kp.cell (h.slot j hj) hbk)
  · by_cases e : j = k
    · subst e
      rw [updN_same, updN_same]
      exact kq.owns hv (fun g hg e => hvb (e ▸ hg))
    · rw [updN_ne _ _ e, updN_ne _ _ e]
      exact kq.owns (kp.owns (h.row j hj) (fun g hg e2 => h.rr j k hj hk e g hg e2)) (fun g hg e => (h.rb j hj).1 (e ▸ hg))
  · by_cases e : j = k
    · subst e; rw [updN_same]; exact ⟨hvb, hvm⟩
    · rw [updN_ne _ _ e]; exact h.rb j hj
  · by_cases ei : i = k
    · subst ei
      rw [updN_same, updN_ne _ _ (fun e => hij e.symm)]
      exact hvr j hj (fun e => hij e.symm) g
    · by_cases ej : j = k
      · subst ej
        rw [updN_same, updN_ne _ _ ei]
        intro h1 h2
        exact hvr i hi ei g h2 h1
      · rw [updN_ne _ _ ei, updN_ne _ _ ej]
        exact h.rr i j hi hj hij g
/-- the shape of a slot -/
theorem shape (h : Wl w b mb n c M S V) {k : Nat} (hk : k < 448) : ∃ va vc, V k = .slice va (S k).length vc := by
  rcases owns_cells2 (h.row k hk) with ⟨h1, h2, _⟩ | ⟨g, cap, h1, _⟩
  · exact ⟨none, 0, by rw [h1, h2]⟩
  · exact ⟨_, _, h1⟩
end Wl

theorem cell2_new (w : World) (x : Fi) : ∀ j u, (fc x)[j]? = some u → (w.alloc (.cells #[.int .i64 x.t, .int .i64 x.i] 98)).cell? ((⟨w.heap.size, 0, none⟩ : Addr).add j) = some u := by
  intro j u hu
  rw [add_none, Nat.zero_add]
  have hb := heap_last w (.cells #[.int .i64 x.t, .int .i64 x.i] 98)
  match j, hu with
  | 0, hu => exact cell_of_row hb (by simpa [fc] using hu)
  | 1, hu => exact cell_of_row hb (by simpa [fc] using hu)
  | j + 2, hu => simp [fc] at hu

set_option maxHeartbeats 2000000 in
set_option maxRecDepth 100000 in
theorem lay_any {w : World} {b mb n c : Nat} {M : Int → Option (Int × Int)} {S : Nat → List Fi} {V : Nat → Value} (h : Wl w b mb n c M S V) (hn : n < 4398046511104) (t : Nat) (ht : t < 4398046511104) (i : Int) (hi : I6w i) (hc : c < 140737488351232) (hm : (S (sl n t)).length < 1099511627776) :
    Calls Tryz.prog 117 #[.pointer (some ⟨b, 0, none⟩), (Fi.mk t i).v] w fun ex w' => ex = .returned (.tuple #[]) ∧ ∃ v, Wl w' b mb n (if M i = none then c + 1 else c) (updM M i (some ((t : Int), ((S (sl n t)).length : Int)))) (updN S (sl n t) (S (sl n t) ++ [⟨t, i⟩])) (updN V (sl n t) v) ∧ Kept (Fp b mb V) w w' ∧ (v.ownBlock = (V (sl n t)).ownBlock ∨ ∃ g, v.ownBlock = some g ∧ w.heap.size ≤ g) := by
  have HWL : Hid (Wl w b mb n c M S V) := h
  have hk448 : sl n t < 448 := sl_lt n t
  generalize hkk : sl n t = k at hk448 hm ⊢
  have HKK : Hid (sl n t = k) := hkk
  generalize hml : (S k).length = m at hm ⊢
  have HML : Hid ((S k).length = m) := hml
  generalize hcc : (if M i = none then c + 1 else c) = c'
  have HCC : Hid ((if M i = none then c + 1 else c) = c') := hcc
  generalize hss : S k ++ [Fi.mk t i] = sk
  have HSS : Hid (S k ++ [Fi.mk t i] = sk) := hss
  clear hkk hml hcc hss
  have hbq := h.lt
  have hmq := h.tm.lt
  have HQ := heap_last w (.cells #[.int .i64 t, .int .i64 i] 98)
  have B1 : Hid (Below w.heap.size w (w.alloc (.cells #[.int .i64 t, .int .i64 i] 98))) := (Below.refl _ w).alloc (Nat.le_refl _) _
  have HIx : Hid (I6w i) := hi
  clear h hi
  unfold Fi.v
  go_enter Tryz.func117, Tryz.ntmps117
  go_upto_region 1 with fail
  generalize hw1 : w.alloc (.cells #[.int .i64 (t : Int), .int .i64 i] 98) = w1 at HQ B1 ⊢
  have hb1 := B1.out.size
  have q0 : w1.cell? ⟨w.heap.size, 0, none⟩ = some (.int .i64 t) := cell_of_row HQ rfl
  have q1 : w1.cell? ⟨w.heap.size, 1, none⟩ = some (.int .i64 i) := cell_of_row HQ rfl
  have cS := slotFor_any b n t hn ht w1 (HWL.out.below B1.out).now
  rw [HKK.out] at cS
  go_upto_region 2 with (go_at_call 122; refine cS.mono ?_; rintro ex w2 ⟨rfl, kq, hwq0⟩; have hwq : Hid (w2 = w1.drewN kq) := hwq0; clear hwq0)
  have W2 : Hid (Wl w2 b mb n c M S V) := (by rw [hwq.out]; exact (HWL.out.below B1.out).kept ((Kept.refl No w1).drewN kq) (fun _ _ h => h))
  have HQ2 : Hid (w2.heap[w.heap.size]? = some (.cells #[.int .i64 t, .int .i64 i] 98)) := (by rw [hwq.out]; exact HQ)
  have K2 : Hid (Kept (Fp b mb V) w w2) := (by rw [hwq.out]; exact (Kept.of_below (F := Fp b mb V) B1.out).drewN kq)
  clear cS hwq q0 q1 HQ B1 hb1 hw1
  obtain ⟨va, vc, hv⟩ := W2.out.shape hk448
  rw [HML.out] at hv
  have HV : Hid (V k = .slice va m vc) := hv
  clear hv
  obtain ⟨w3, hrun3, tm3, kp3⟩ := (W2.out.tm.kept ((Kept.refl No w2).drew) (fun h => h)).put (w := w2.drew) (by omega) HIx.out t m
  rw [HCC.out] at tm3
  have W2d : Hid (Wl w2.drew b mb n c M S V) := W2.out.kept ((Kept.refl No w2).drew) (fun _ _ h => h)
  have W3 : Hid (Wl w3 b mb n c' (updM M i (some ((t : Int), (m : Int)))) S V) := W2d.out.turn kp3 tm3
  have hqm : w.heap.size ≠ mb := by omega
  have HQ3 : Hid (w3.heap[w.heap.size]? = some (.cells #[.int .i64 t, .int .i64 i] 98)) := kp3.at' (show w2.drew.heap[w.heap.size]? = _ from HQ2.out) hqm
  have K3 : Hid (Kept (Fp b mb V) w w3) := (K2.out.drew).trans kp3 (fun j e => .inl (.inr (.inl e)))
  have HR3 : Hid ((Instr.mapUpdate 90 (.map (some mb)) (.int .i64 i) (tmV t m)).run Tryz.prog w2.drew = .ok () w3) := hrun3
  clear hrun3 tm3 kp3
  try simp only [Act.put, List.setIfInBounds_toArray, List.set_cons_zero, List.set_cons_succ]
  refine wp_region_held_drew (S := fun w' => w'.cell? ⟨b, 1, none⟩ = some (.map (some mb)) ∧ w'.cell? ⟨w.heap.size, 0, none⟩ = some (.int .i64 t) ∧ w'.cell? ⟨w.heap.size, 1, none⟩ = some (.int .i64 i) ∧ w'.cell? ⟨b, 2 + k, none⟩ = some (.slice va m vc)) (by kernel_rfl) ⟨W2d.out.map, cell_of_row (show w2.drew.heap[w.heap.size]? = _ from HQ2.out) rfl, cell_of_row (show w2.drew.heap[w.heap.size]? = _ from HQ2.out) rfl, by rw [← HV.out]; exact W2d.out.slot k hk448⟩ (fun hS => ?_)
  refine d_take 0 9 rfl rfl (by kernel_rfl) (by kernel_rfl) (by kernel_rfl) (fun _ _ _ h => h) rfl (fun w' hw' => er_mvw _ rfl (.pointer (some ⟨b, 0, none⟩)) rfl) hS ?_
  simp only [Act.put, List.setIfInBounds_toArray, List.set_cons_zero, List.set_cons_succ]
  refine d_take 1 10 rfl rfl (by kernel_rfl) (by kernel_rfl) (by kernel_rfl) (fun _ _ _ h => h) rfl (fun w' hw' => er_nil _ rfl ⟨b, 0, none⟩ rfl) hS ?_
  simp only [Act.put, List.setIfInBounds_toArray, List.set_cons_zero, List.set_cons_succ]
  refine d_take 2 11 rfl rfl (by kernel_rfl) (by kernel_rfl) (by kernel_rfl) (fun _ _ _ h => h) rfl (fun w' hw' => er_f69_1 _ rfl b rfl) hS ?_
  simp only [Act.put, List.setIfInBounds_toArray, List.set_cons_zero, List.set_cons_succ]
  refine d_take 3 12 rfl rfl (by kernel_rfl) (by kernel_rfl) (by kernel_rfl) (fun _ _ _ h => h) rfl (fun w' hw' => er_load63 _ rfl b 1 _ rfl hw'.1) hS ?_
  simp only [Act.put, List.setIfInBounds_toArray, List.set_cons_zero, List.set_cons_succ]
  refine d_take 4 13 rfl rfl (by kernel_rfl) (by kernel_rfl) (by kernel_rfl) (fun _ _ _ h => h) rfl (fun w' hw' => er_f32_1 _ rfl w.heap.size rfl) hS ?_
  simp only [Act.put, List.setIfInBounds_toArray, List.set_cons_zero, List.set_cons_succ]
  refine d_take 5 14 rfl rfl (by kernel_rfl) (by kernel_rfl) (by kernel_rfl) (fun _ _ _ h => h) rfl (fun w' hw' => er_load3 _ rfl w.heap.size 1 _ rfl hw'.2.2.1) hS ?_
  simp only [Act.put, List.setIfInBounds_toArray, List.set_cons_zero, List.set_cons_succ]
  refine d_take 6 15 rfl rfl (by kernel_rfl) (by kernel_rfl) (by kernel_rfl) (fun _ _ _ h => h) rfl (fun w' hw' => er_f32_0 _ rfl w.heap.size rfl) hS ?_
  simp only [Act.put, List.setIfInBounds_toArray, List.set_cons_zero, List.set_cons_succ]
  refine d_take 7 16 rfl rfl (by kernel_rfl) (by kernel_rfl) (by kernel_rfl) (fun _ _ _ h => h) rfl (fun w' hw' => er_load3 _ rfl w.heap.size 0 _ rfl hw'.2.1) hS ?_
  simp only [Act.put, List.setIfInBounds_toArray, List.set_cons_zero, List.set_cons_succ]
  refine d_take 8 17 rfl rfl (by kernel_rfl) (by kernel_rfl) (by kernel_rfl) (fun _ _ _ h => h) rfl (fun w' hw' => er_mvw _ rfl (.pointer (some ⟨b, 2 + k, none⟩)) rfl) hS ?_
  simp only [Act.put, List.setIfInBounds_toArray, List.set_cons_zero, List.set_cons_succ]
  refine d_take 9 18 rfl rfl (by kernel_rfl) (by kernel_rfl) (by kernel_rfl) (fun _ _ _ h => h) rfl (fun w' hw' => er_nil _ rfl ⟨b, 2 + k, none⟩ rfl) hS ?_
  simp only [Act.put, List.setIfInBounds_toArray, List.set_cons_zero, List.set_cons_succ]
  refine d_take 10 19 rfl rfl (by kernel_rfl) (by kernel_rfl) (by kernel_rfl) (fun _ _ _ h => h) rfl (fun w' hw' => er_load64 _ rfl b (2 + k) _ rfl hw'.2.2.2) hS ?_
  simp only [Act.put, List.setIfInBounds_toArray, List.set_cons_zero, List.set_cons_succ]
  refine d_take 11 20 rfl rfl (by kernel_rfl) (by kernel_rfl) (by kernel_rfl) (fun _ _ _ h => h) rfl (fun w' hw' => er_len64 _ rfl rfl va m vc rfl) hS ?_
  simp only [Act.put, List.setIfInBounds_toArray, List.set_cons_zero, List.set_cons_succ]
  refine d_take 12 21 rfl rfl (by kernel_rfl) (by kernel_rfl) (by kernel_rfl) (fun _ _ _ h => h) rfl (fun w' hw' => er_build61 _ _ rfl t m rfl rfl) hS ?_
  simp only [Act.put, List.setIfInBounds_toArray, List.set_cons_zero, List.set_cons_succ]
  refine d_turn 13 (by kernel_rfl) rfl rfl rfl (er_mapUp _ _ _ rfl mb (.int .i64 i) (tmV t m) rfl rfl rfl HR3.out) ⟨W3.out.map, cell_of_row HQ3.out rfl, cell_of_row HQ3.out rfl, by rw [← HV.out]; exact W3.out.slot k hk448⟩ ?_
  refine wpAnyH_done (by kernel_rfl) ?_ _
  clear hS HR3 W2 W2d HQ2 K2
  go_upto_region 3 with fail
  have W3d : Hid (Wl w3.drew b mb n c' (updM M i (some ((t : Int), (m : Int)))) S V) := W3.out.kept ((Kept.refl No w3).drew) (fun _ _ h => h)
  obtain ⟨i0, hi0, hz0, hz1, hz2⟩ := info_partsw info32
  have hrow := W3d.out.row k hk448
  rw [HV.out, HML.out] at hrow
  have hrow4 := hrow.alloc (.cells #[.int .i64 t, .int .i64 i] 98)
  obtain ⟨v5, w5, hr5, own5, gr5, _, hb5⟩ := run_append_own_at (P := Tryz.prog) (w := w3.drew.alloc (.cells #[.int .i64 t, .int .i64 i] 98)) 0 91 91 98 i0 (.agg #[.int .i64 0, .int .i64 0]) 2 16 Tryz.underlying91 hi0 hz0 hz1 hz2 rfl (by decide) (.slice va m vc) m (fcL (S k)) hrow4 ⟨w3.drew.heap.size, 0, none⟩ 1 1 (fc ⟨t, i⟩) rfl (cell2_new w3.drew ⟨t, i⟩) (by intro u hu; simp [fc] at hu; rcases hu with rfl | rfl <;> rfl) (by unfold maxLen; omega) (by omega) (Nat.zero_le _)
  have kp5 : Kept (fun j => (V k).ownBlock = some j) w3.drew w5 := ((Kept.refl _ w3.drew).alloc _).grown gr5 (fun j e => .inl (by rw [HV.out]; exact e))
  have hb5' : v5.ownBlock = (V k).ownBlock ∨ ∃ g, v5.ownBlock = some g ∧ w3.drew.heap.size ≤ g := by
    rcases hb5 with e | e
    · exact .inl (by rw [HV.out]; exact e)
    · exact .inr ⟨_, e, by rw [World.size_alloc]; omega⟩
  have own5' : w5.ownsRow 0 98 2 v5 sk.length (fcL sk) := by
    rw [← HSS.out, List.length_append, HML.out, fcL_append]
    exact own5
  have W6 : Hid (Wl (w5.setCell ⟨b, 2 + k, none⟩ v5) b mb n c' (updM M i (some ((t : Int), (m : Int)))) (updN S k sk) (updN V k v5)) := W3d.out.grow hk448 kp5 own5' hb5'
  have hcb5 := kp5.cell (W3d.out.slot k hk448) (W3d.out.rb k hk448).1
  have hfz5 : w5.frozen? ⟨b, 2 + k, none⟩ = false := by
    obtain ⟨cs, hcs⟩ := W3d.out.blk
    have := kp5.at' hcs (W3d.out.rb k hk448).1
    simp [World.frozen?, this]
  have K6 : Hid (Kept (Fp b mb V) w (w5.setCell ⟨b, 2 + k, none⟩ v5)) := ((K3.out.drew).trans kp5 (fun j e => .inl (.inr (.inr ⟨k, hk448, e⟩)))).setCell (p := ⟨b, 2 + k, none⟩) (.inl (.inl rfl)) _
  have hs3 := K3.out.size
  have HB6 : Hid (v5.ownBlock = (V k).ownBlock ∨ ∃ g, v5.ownBlock = some g ∧ w.heap.size ≤ g) := (by
    rcases hb5' with e | ⟨g, e, hg⟩
    · exact .inl e
    · exact .inr ⟨g, e, Nat.le_trans hs3 hg⟩)
  have hsh5 : ∃ p n c, v5 = .slice p n c := by
    rcases own5.2 with ⟨e, _⟩ | ⟨g, cap, cur, e, _⟩
    · exact ⟨_, _, _, e⟩
    · exact ⟨_, _, _, e⟩
  have HQ4 : (w3.drew.alloc (.cells #[.int .i64 (t : Int), .int .i64 i] 98)).heap[w.heap.size]? = some (.cells #[.int .i64 t, .int .i64 i] 98) := (Below.heap_alloc _ _ _ (heap_lt HQ3.out)).trans HQ3.out
  have hqv : (V k).ownBlock ≠ some w.heap.size := fun e => by have := (HWL.out.row k hk448).lt _ e; omega
  have HQ5 : w5.heap[w.heap.size]? = some (.cells #[.int .i64 t, .int .i64 i] 98) := kp5.at' (show w3.drew.heap[w.heap.size]? = _ from HQ3.out) hqv
  have HQ6 : (w5.setCell ⟨b, 2 + k, none⟩ v5).heap[w.heap.size]? = some (.cells #[.int .i64 t, .int .i64 i] 98) := (Below.heap_setCell _ _ _ _ (show w.heap.size ≠ b by omega)).trans HQ5
  try simp only [Act.put, List.setIfInBounds_toArray, List.set_cons_zero, List.set_cons_succ]
  refine wp_region_held_drew (S := fun w' => w'.cell? ⟨w.heap.size, 0, none⟩ = some (.int .i64 t) ∧ w'.cell? ⟨w.heap.size, 1, none⟩ = some (.int .i64 i)) (by kernel_rfl) ⟨cell_of_row (show w3.drew.heap[w.heap.size]? = _ from HQ3.out) rfl, cell_of_row (show w3.drew.heap[w.heap.size]? = _ from HQ3.out) rfl⟩ (fun hS => ?_)
  refine d_take 0 22 rfl rfl (by kernel_rfl) (by kernel_rfl) (by kernel_rfl) (fun _ _ _ h => h) rfl (fun w' hw' => er_mvw _ rfl (.pointer (some ⟨b, 2 + k, none⟩)) rfl) hS ?_
  simp only [Act.put, List.setIfInBounds_toArray, List.set_cons_zero, List.set_cons_succ]
  refine d_take 1 23 rfl rfl (by kernel_rfl) (by kernel_rfl) (by kernel_rfl) (fun _ _ _ h => h) rfl (fun w' hw' => er_mvw _ rfl (.pointer (some ⟨b, 2 + k, none⟩)) rfl) hS ?_
  simp only [Act.put, List.setIfInBounds_toArray, List.set_cons_zero, List.set_cons_succ]
  refine d_take 2 24 rfl rfl (by kernel_rfl) (by kernel_rfl) (by kernel_rfl) (fun _ _ _ h => h) rfl (fun w' hw' => er_nil _ rfl ⟨b, 2 + k, none⟩ rfl) hS ?_
  simp only [Act.put, List.setIfInBounds_toArray, List.set_cons_zero, List.set_cons_succ]
  refine d_take 4 26 rfl rfl (by kernel_rfl) (by kernel_rfl) (by kernel_rfl) (fun _ _ _ h => h) rfl (fun w' hw' => er_load32 _ rfl w.heap.size 0 _ _ rfl hw'.1 hw'.2) hS ?_
  simp only [Act.put, List.setIfInBounds_toArray, List.set_cons_zero, List.set_cons_succ]
  refine d_pair 3 25 5 27 (by kernel_rfl) rfl rfl rfl rfl rfl rfl (er_load64 _ rfl b (2 + k) (.slice va m vc) rfl (by rw [← HV.out]; exact W3d.out.slot k hk448)) (er_bs64 _ rfl t i rfl) hS ⟨cell_of_row HQ4 rfl, cell_of_row HQ4 rfl⟩ ?_ ?_
  · simp only [Act.put, List.setIfInBounds_toArray, List.set_cons_zero, List.set_cons_succ]
    refine d_make 5 27 (by kernel_rfl) rfl rfl rfl (er_bs64 _ rfl t i rfl) ⟨cell_of_row HQ4 rfl, cell_of_row HQ4 rfl⟩ ?_
    simp only [Act.put, List.setIfInBounds_toArray, List.set_cons_zero, List.set_cons_succ]
    refine d_make 6 28 (by kernel_rfl) rfl rfl rfl (er_app64 _ _ rfl (.slice va m vc) (.slice (some ⟨w3.drew.heap.size, 0, none⟩) 1 1) v5 rfl rfl hr5) ⟨cell_of_row HQ5 rfl, cell_of_row HQ5 rfl⟩ ?_
    simp only [Act.put, List.setIfInBounds_toArray, List.set_cons_zero, List.set_cons_succ]
    refine d_read 7 29 (by kernel_rfl) rfl rfl rfl (er_nil _ rfl ⟨b, 2 + k, none⟩ rfl) ⟨cell_of_row HQ5 rfl, cell_of_row HQ5 rfl⟩ ?_
    simp only [Act.put, List.setIfInBounds_toArray, List.set_cons_zero, List.set_cons_succ]
    refine d_turn 8 (by kernel_rfl) rfl rfl rfl (er_store64 _ _ rfl b (2 + k) _ v5 hsh5 rfl rfl hcb5 hfz5) ⟨cell_of_row HQ6 rfl, cell_of_row HQ6 rfl⟩ ?_
    refine wpAnyH_done (by kernel_rfl) ?_ _
    go_wp2
    refine bodyPost_end (results_none rfl _ _ _) rfl ?_
    exact ⟨rfl, v5, W6.out, K6.out, HB6.out⟩
  · simp only [Act.put, List.setIfInBounds_toArray, List.set_cons_zero, List.set_cons_succ]
    refine d_read 3 25 (by kernel_rfl) rfl rfl rfl (er_load64 _ rfl b (2 + k) (.slice va m vc) rfl (by rw [← HV.out]; exact (((Kept.refl No w3.drew).alloc _).cell (W3d.out.slot k hk448) (fun h => h)))) ⟨cell_of_row HQ4 rfl, cell_of_row HQ4 rfl⟩ ?_
    simp only [Act.put, List.setIfInBounds_toArray, List.set_cons_zero, List.set_cons_succ]
    refine d_make 6 28 (by kernel_rfl) rfl rfl rfl (er_app64 _ _ rfl (.slice va m vc) (.slice (some ⟨w3.drew.heap.size, 0, none⟩) 1 1) v5 rfl rfl hr5) ⟨cell_of_row HQ5 rfl, cell_of_row HQ5 rfl⟩ ?_
    simp only [Act.put, List.setIfInBounds_toArray, List.set_cons_zero, List.set_cons_succ]
    refine d_read 7 29 (by kernel_rfl) rfl rfl rfl (er_nil _ rfl ⟨b, 2 + k, none⟩ rfl) ⟨cell_of_row HQ5 rfl, cell_of_row HQ5 rfl⟩ ?_
    simp only [Act.put, List.setIfInBounds_toArray, List.set_cons_zero, List.set_cons_succ]
    refine d_turn 8 (by kernel_rfl) rfl rfl rfl (er_store64 _ _ rfl b (2 + k) _ v5 hsh5 rfl rfl hcb5 hfz5) ⟨cell_of_row HQ6 rfl, cell_of_row HQ6 rfl⟩ ?_
    refine wpAnyH_done (by kernel_rfl) ?_ _
    go_wp2
    refine bodyPost_end (results_none rfl _ _ _) rfl ?_
    exact ⟨rfl, v5, W6.out, K6.out, HB6.out⟩

end Go.Proofs.YtffgcijicmfmlaaGreatDoor
