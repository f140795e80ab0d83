/-
  'lift'.
-/
import Derived.Test.YtffgcijicmfmlaaGreatDoorWLay
namespace Go.Proofs.YtffgcijicmfmlaaGreatDoor
open Go.RowKit
set_option linter.unusedVariables false

theorem updN_updN {α : Type} (f : Nat → α) (k : Nat) (u v : α) : updN (updN f k u) k v = updN f k v := by
  funext j
  unfold updN
  split <;> rfl
theorem row_at {w : World} {B g n cap : Nat} {xs : List Fi} (h : w.ownsRow B 98 2 (.slice (some ⟨g, 0, none⟩) n cap) n (fcL xs)) {j : Nat} {x : Fi} (hj : xs[j]? = some x) : w.cell? ⟨g, j * 2, none⟩ = some (.int .i64 x.t) ∧ w.cell? ⟨g, j * 2 + 1, none⟩ = some (.int .i64 x.i) ∧ ∀ j, w.frozen? ⟨g, j, none⟩ = false := by
  rcases owns_cells2 h with ⟨h1, _⟩ | ⟨g', cap', h1', _, _, _, _, h5, h6⟩
  · cases h1
  · injection h1' with e1 _ _
    injection e1 with e1
    injection e1 with e1 _ _
    subst e1
    exact ⟨(h5 j x hj).1, (h5 j x hj).2, h6⟩

set_option maxHeartbeats 2000000 in
set_option maxRecDepth 100000 in
theorem lift_any {w : World} {b mb n c : Nat} {M : Int → Option (Int × Int)} {S : Nat → List Fi} {V : Nat → Value} (h : Wl w b mb n c M S V) (hn : n < 4398046511104) (t : Nat) (ht : t < 4398046511104) (p m : Nat) (y : Fi) (hm : (S (sl n t)).length = m + 1) (hp : p ≤ m) (hy : (S (sl n t))[m]? = some y) (hyi : I6w y.i) (hc : c < 140737488351232) :
    Calls Tryz.prog 123 #[.pointer (some ⟨b, 0, none⟩), tmV t p] w fun ex w' => ex = .returned (.tuple #[]) ∧ ∃ v, Wl w' b mb n (if M y.i = none then c + 1 else c) (updM M y.i (some (y.t, (p : Int)))) (updN S (sl n t) (((S (sl n t)).set p y).take m)) (updN V (sl n t) v) ∧ Kept (Fp b mb V) w w' ∧ (∀ g, v.ownBlock = some g → (V (sl n t)).ownBlock = some g) := by
  have HWL : Hid (Wl w b mb n c M S V) := h
  have hk448 : sl n t < 448 := sl_lt n t
  generalize hkk : sl n t = k at hk448 hm hy ⊢
  have HKK : Hid (sl n t = k) := hkk
  have HML : Hid ((S k).length = m + 1) := hm
  generalize hcc : (if M y.i = none then c + 1 else c) = c'
  have HCC : Hid ((if M y.i = none then c + 1 else c) = c') := hcc
  generalize hss : ((S k).set p y).take m = sk
  have HSS : Hid (((S k).set p y).take m = sk) := hss
  have HY : Hid ((S k)[m]? = some y) := hy
  obtain ⟨yt, yi⟩ := y
  dsimp only at *
  have hbq := h.lt
  have hmq := h.tm.lt
  have hmx : m + 1 ≤ 9223372036854775807 := by
    have hr := h.row k hk448
    rw [hm] at hr
    rcases owns_cells2 hr with ⟨_, h2, _⟩ | ⟨g, cap, _, _, _, h3, h4, _⟩
    · omega
    · omega
  have HQ := heap_last w (.cells #[.int .i64 t, .int .i64 p] 185)
  have B1 : Hid (Below w.heap.size w (w.alloc (.cells #[.int .i64 t, .int .i64 p] 185))) := (Below.refl _ w).alloc (Nat.le_refl _) _
  have HIx : Hid (I6w yi) := hyi
  clear h hyi hkk hm hcc hss hy
  unfold tmV
  go_enter Tryz.func123, Tryz.ntmps123
  go_upto_region 1 with fail
  generalize hw1 : w.alloc (.cells #[.int .i64 (t : Int), .int .i64 (p : Int)] 185) = w1 at HQ B1 ⊢
  have hb1 := B1.out.size
  have q0 : w1.cell? ⟨w.heap.size, 0, none⟩ = some (.int .i64 t) := cell_of_row HQ rfl
  have q1 : w1.cell? ⟨w.heap.size, 1, none⟩ = some (.int .i64 p) := cell_of_row HQ rfl
  have cS := slotFor_any b n t hn ht w1 (HWL.out.below B1.out).now
  rw [HKK.out] at cS
  go_upto_region 2 with (go_at_call 122; refine cS.mono ?_; rintro ex w2 ⟨rfl, kq, hwq0⟩; have hwq : Hid (w2 = w1.drewN kq) := hwq0; clear hwq0)
  have W2 : Hid (Wl w2 b mb n c M S V) := (by rw [hwq.out]; exact (HWL.out.below B1.out).kept ((Kept.refl No w1).drewN kq) (fun _ _ h => h))
  have HQ2 : Hid (w2.heap[w.heap.size]? = some (.cells #[.int .i64 t, .int .i64 p] 185)) := (by rw [hwq.out]; exact HQ)
  have K2 : Hid (Kept (Fp b mb V) w w2) := (by rw [hwq.out]; exact (Kept.of_below (F := Fp b mb V) B1.out).drewN kq)
  clear cS hwq q0 q1 HQ B1 hb1 hw1
  have hrow := W2.out.row k hk448
  rw [HML.out] at hrow
  obtain ⟨g, cap, hv, hcm, hcx⟩ : ∃ g cap, V k = .slice (some ⟨g, 0, none⟩) (m + 1) cap ∧ m + 1 ≤ cap ∧ cap ≤ 9223372036854775807 := by
    rcases owns_cells2 hrow with ⟨_, h2, _⟩ | ⟨g, cap, h1, _, _, h3, h4, _⟩
    · omega
    · exact ⟨g, cap, h1, h3, h4⟩
  have HV : Hid (V k = .slice (some ⟨g, 0, none⟩) (m + 1) cap) := hv
  rw [hv] at hrow
  obtain ⟨r0, r1, rf⟩ := row_at hrow HY.out
  have s2 := W2.out.slot k hk448
  rw [hv] at s2
  have HGB : Hid (g ≠ b ∧ g ≠ mb ∧ g < w.heap.size) := (by
    have h1 := HWL.out.rb k hk448
    have h2 := (HWL.out.row k hk448).lt g
    rw [hv] at h1 h2
    exact ⟨fun e => h1.1 (by rw [e]; rfl), fun e => h1.2 (by rw [e]; rfl), (h2 rfl).2⟩)
  clear hv hrow
  dsimp only at r0 r1
  go_upto_region 4 with fail
  have hq2 := heap_lt HQ2.out
  have HY3 := heap_last w2 (.cells #[.int .i64 yt, .int .i64 yi] 98)
  have W3 : Hid (Wl (w2.alloc (.cells #[.int .i64 yt, .int .i64 yi] 98)) b mb n c M S V) := W2.out.below ((Below.refl _ w2).alloc (Nat.le_refl _) _)
  have HQ3 : Hid ((w2.alloc (.cells #[.int .i64 yt, .int .i64 yi] 98)).heap[w.heap.size]? = some (.cells #[.int .i64 t, .int .i64 p] 185)) := (Below.heap_alloc _ _ _ hq2).trans HQ2.out
  have K3 : Hid (Kept (Fp b mb V) w (w2.alloc (.cells #[.int .i64 yt, .int .i64 yi] 98))) := K2.out.alloc _
  generalize w2.alloc (.cells #[.int .i64 yt, .int .i64 yi] 98) = w3 at HY3 W3 HQ3 K3 ⊢
  generalize w2.heap.size = q6 at hq2 HY3 ⊢
  have HY3 : Hid (w3.heap[q6]? = some (.cells #[.int .i64 yt, .int .i64 yi] 98)) := HY3
  clear W2 HQ2 K2 r0 r1 rf s2
  have W3d : Hid (Wl w3.drew b mb n c M S V) := W3.out.kept ((Kept.refl No w3).drew) (fun _ _ h => h)
  have hrow := W3d.out.row k hk448
  rw [HML.out, HV.out] at hrow
  obtain ⟨x0, hx0⟩ : ∃ x, (S k)[p]? = some x := ⟨(S k)[p]'(by rw [HML.out]; omega), List.getElem?_eq_getElem _⟩
  obtain ⟨r0, r1, rf⟩ := row_at hrow hx0
  obtain ⟨hgb, hgm, hgw⟩ := HGB.out
  have W4 : Hid (Wl ((w3.drew.setCell ⟨g, p * 2, none⟩ (.int .i64 yt)).setCell ⟨g, p * 2 + 1, none⟩ (.int .i64 yi)) b mb n c M (updN S k ((S k).set p ⟨yt, yi⟩)) V) := (by
    refine W3d.out.setRow hk448 (g := g) (by rw [HV.out]; rfl) ?_ ?_
    · exact Kept.setCell (F := fun j => j = g) (p := ⟨g, p * 2 + 1, none⟩) (Kept.setCell (F := fun j => j = g) (p := ⟨g, p * 2, none⟩) (Kept.refl _ _) (.inl rfl) _) (.inl rfl) _
    · have := owns_lay2 hrow (k := p) (by rw [HML.out]; omega) ⟨yt, yi⟩
      rw [HV.out, List.length_set, HML.out]
      exact this)
  have K34 : Kept (fun j => j = g) w3 ((w3.drew.setCell ⟨g, p * 2, none⟩ (.int .i64 yt)).setCell ⟨g, p * 2 + 1, none⟩ (.int .i64 yi)) := Kept.setCell (F := fun j => j = g) (p := ⟨g, p * 2 + 1, none⟩) (Kept.setCell (F := fun j => j = g) (p := ⟨g, p * 2, none⟩) ((Kept.refl _ w3).drew) (.inl rfl) _) (.inl rfl) _
  have HQ4 : Hid (((w3.drew.setCell ⟨g, p * 2, none⟩ (.int .i64 yt)).setCell ⟨g, p * 2 + 1, none⟩ (.int .i64 yi)).heap[w.heap.size]? = some (.cells #[.int .i64 t, .int .i64 p] 185)) := K34.at' HQ3.out (by omega)
  have HY4 : Hid (((w3.drew.setCell ⟨g, p * 2, none⟩ (.int .i64 yt)).setCell ⟨g, p * 2 + 1, none⟩ (.int .i64 yi)).heap[q6]? = some (.cells #[.int .i64 yt, .int .i64 yi] 98)) := K34.at' HY3.out (by omega)
  have K4 : Hid (Kept (Fp b mb V) w ((w3.drew.setCell ⟨g, p * 2, none⟩ (.int .i64 yt)).setCell ⟨g, p * 2 + 1, none⟩ (.int .i64 yi))) := K3.out.trans K34 (fun j e => .inl (.inr (.inr ⟨k, hk448, by rw [HV.out, e]; rfl⟩)))
  try simp only [Act.put, List.setIfInBounds_toArray, List.set_cons_zero, List.set_cons_succ]
  refine wp_region_held_drew (S := fun w' => w'.cell? ⟨b, 2 + k, none⟩ = some (.slice (some ⟨g, 0, none⟩) (m + 1) cap) ∧ w'.cell? ⟨w.heap.size, 1, none⟩ = some (.int .i64 p) ∧ w'.cell? ⟨q6, 0, none⟩ = some (.int .i64 yt) ∧ w'.cell? ⟨q6, 1, none⟩ = some (.int .i64 yi)) (by kernel_rfl) ⟨by rw [← HV.out]; exact W3d.out.slot k hk448, cell_of_row (show w3.drew.heap[w.heap.size]? = _ from HQ3.out) rfl, cell_of_row (show w3.drew.heap[q6]? = _ from HY3.out) rfl, cell_of_row (show w3.drew.heap[q6]? = _ from HY3.out) rfl⟩ (fun hS => ?_)
  refine d_take 0 22 rfl rfl (by kernel_rfl) (by kernel_rfl) (by kernel_rfl) (fun _ _ _ h => h) rfl (fun w' hw' => er_mvw _ rfl (.pointer (some ⟨b, 2 + k, none⟩)) rfl) hS ?_
  simp only [Act.put, List.setIfInBounds_toArray, List.set_cons_zero, List.set_cons_succ]
  refine d_take 1 23 rfl rfl (by kernel_rfl) (by kernel_rfl) (by kernel_rfl) (fun _ _ _ h => h) rfl (fun w' hw' => er_nil _ rfl ⟨b, 2 + k, none⟩ rfl) hS ?_
  simp only [Act.put, List.setIfInBounds_toArray, List.set_cons_zero, List.set_cons_succ]
  refine d_take 2 24 rfl rfl (by kernel_rfl) (by kernel_rfl) (by kernel_rfl) (fun _ _ _ h => h) rfl (fun w' hw' => er_load64 _ rfl b (2 + k) _ rfl hw'.1) hS ?_
  simp only [Act.put, List.setIfInBounds_toArray, List.set_cons_zero, List.set_cons_succ]
  refine d_take 3 25 rfl rfl (by kernel_rfl) (by kernel_rfl) (by kernel_rfl) (fun _ _ _ h => h) rfl (fun w' hw' => er_f61_1 _ rfl w.heap.size rfl) hS ?_
  simp only [Act.put, List.setIfInBounds_toArray, List.set_cons_zero, List.set_cons_succ]
  refine d_take 4 26 rfl rfl (by kernel_rfl) (by kernel_rfl) (by kernel_rfl) (fun _ _ _ h => h) rfl (fun w' hw' => er_load3 _ rfl w.heap.size 1 _ rfl hw'.2.1) hS ?_
  simp only [Act.put, List.setIfInBounds_toArray, List.set_cons_zero, List.set_cons_succ]
  refine d_take 5 27 rfl rfl (by kernel_rfl) (by kernel_rfl) (by kernel_rfl) (fun _ _ _ h => h) rfl (fun w' hw' => er_load32 _ rfl q6 0 _ _ rfl hw'.2.2.1 hw'.2.2.2) hS ?_
  simp only [Act.put, List.setIfInBounds_toArray, List.set_cons_zero, List.set_cons_succ]
  refine d_take 6 28 rfl rfl (by kernel_rfl) (by kernel_rfl) (by kernel_rfl) (fun _ _ _ h => h) rfl (fun w' hw' => er_idx64 _ _ rfl g (m + 1) cap p (by omega) (by omega) rfl rfl) hS ?_
  simp only [Act.put, List.setIfInBounds_toArray, List.set_cons_zero, List.set_cons_succ]
  refine d_turn 7 (by kernel_rfl) rfl rfl rfl (er_store32 _ _ rfl g (p * 2) _ _ yt yi rfl rfl r0 r1 (rf _) (rf _)) ⟨by rw [← HV.out]; exact W4.out.slot k hk448, cell_of_row HQ4.out rfl, cell_of_row HY4.out rfl, cell_of_row HY4.out rfl⟩ ?_
  refine wpAnyH_done (by kernel_rfl) ?_ _
  generalize (w3.drew.setCell ⟨g, p * 2, none⟩ (.int .i64 yt)).setCell ⟨g, p * 2 + 1, none⟩ (.int .i64 yi) = w4 at W4 HQ4 HY4 K4 ⊢
  clear hS W3 W3d K34 HQ3 HY3 K3 hrow r0 r1 rf hx0
  have W4d : Hid (Wl w4.drew b mb n c M (updN S k ((S k).set p ⟨yt, yi⟩)) V) := W4.out.kept ((Kept.refl No w4).drew) (fun _ _ h => h)
  obtain ⟨w5, hrun5, tm5, kp5⟩ := W4d.out.tm.put (by omega) HIx.out yt p
  rw [HCC.out] at tm5
  have W5 : Hid (Wl w5 b mb n c' (updM M yi (some (yt, (p : Int)))) (updN S k ((S k).set p ⟨yt, yi⟩)) V) := W4d.out.turn kp5 tm5
  have HQ5 : Hid (w5.heap[w.heap.size]? = some (.cells #[.int .i64 t, .int .i64 p] 185)) := kp5.at' (show w4.drew.heap[w.heap.size]? = _ from HQ4.out) (by omega)
  have HY5 : Hid (w5.heap[q6]? = some (.cells #[.int .i64 yt, .int .i64 yi] 98)) := kp5.at' (show w4.drew.heap[q6]? = _ from HY4.out) (by omega)
  have K5 : Hid (Kept (Fp b mb V) w w5) := (K4.out.drew).trans kp5 (fun j e => .inl (.inr (.inl e)))
  have HR5 : Hid ((Instr.mapUpdate 90 (.map (some mb)) (.int .i64 yi) (tmV yt p)).run Tryz.prog w4.drew = .ok () w5) := hrun5
  clear hrun5 tm5 kp5
  go_upto_region 5 with fail
  try simp only [Act.put, List.setIfInBounds_toArray, List.set_cons_zero, List.set_cons_succ]
  refine wp_region_held_drew (S := fun w' => w'.cell? ⟨b, 1, none⟩ = some (.map (some mb)) ∧ w'.cell? ⟨w.heap.size, 1, none⟩ = some (.int .i64 p) ∧ w'.cell? ⟨q6, 0, none⟩ = some (.int .i64 yt) ∧ w'.cell? ⟨q6, 1, none⟩ = some (.int .i64 yi)) (by kernel_rfl) ⟨W4d.out.map, cell_of_row (show w4.drew.heap[w.heap.size]? = _ from HQ4.out) rfl, cell_of_row (show w4.drew.heap[q6]? = _ from HY4.out) rfl, cell_of_row (show w4.drew.heap[q6]? = _ from HY4.out) rfl⟩ (fun hS => ?_)
  refine d_take 0 29 rfl rfl (by kernel_rfl) (by kernel_rfl) (by kernel_rfl) (fun _ _ _ h => h) rfl (fun w' hw' => er_mvw _ rfl (.pointer (some ⟨b, 0, none⟩)) rfl) hS ?_
  simp only [Act.put, List.setIfInBounds_toArray, List.set_cons_zero, List.set_cons_succ]
  refine d_take 1 30 rfl rfl (by kernel_rfl) (by kernel_rfl) (by kernel_rfl) (fun _ _ _ h => h) rfl (fun w' hw' => er_nil _ rfl ⟨b, 0, none⟩ rfl) hS ?_
  simp only [Act.put, List.setIfInBounds_toArray, List.set_cons_zero, List.set_cons_succ]
  refine d_take 2 31 rfl rfl (by kernel_rfl) (by kernel_rfl) (by kernel_rfl) (fun _ _ _ h => h) rfl (fun w' hw' => er_f69_1 _ rfl b rfl) hS ?_
  simp only [Act.put, List.setIfInBounds_toArray, List.set_cons_zero, List.set_cons_succ]
  refine d_take 3 32 rfl rfl (by kernel_rfl) (by kernel_rfl) (by kernel_rfl) (fun _ _ _ h => h) rfl (fun w' hw' => er_load63 _ rfl b 1 _ rfl hw'.1) hS ?_
  simp only [Act.put, List.setIfInBounds_toArray, List.set_cons_zero, List.set_cons_succ]
  refine d_take 4 33 rfl rfl (by kernel_rfl) (by kernel_rfl) (by kernel_rfl) (fun _ _ _ h => h) rfl (fun w' hw' => er_f32_1 _ rfl q6 rfl) hS ?_
  simp only [Act.put, List.setIfInBounds_toArray, List.set_cons_zero, List.set_cons_succ]
  refine d_take 5 34 rfl rfl (by kernel_rfl) (by kernel_rfl) (by kernel_rfl) (fun _ _ _ h => h) rfl (fun w' hw' => er_load3 _ rfl q6 1 _ rfl hw'.2.2.2) hS ?_
  simp only [Act.put, List.setIfInBounds_toArray, List.set_cons_zero, List.set_cons_succ]
  refine d_take 6 35 rfl rfl (by kernel_rfl) (by kernel_rfl) (by kernel_rfl) (fun _ _ _ h => h) rfl (fun w' hw' => er_f32_0 _ rfl q6 rfl) hS ?_
  simp only [Act.put, List.setIfInBounds_toArray, List.set_cons_zero, List.set_cons_succ]
  refine d_take 7 36 rfl rfl (by kernel_rfl) (by kernel_rfl) (by kernel_rfl) (fun _ _ _ h => h) rfl (fun w' hw' => er_load3 _ rfl q6 0 _ rfl hw'.2.2.1) hS ?_
  simp only [Act.put, List.setIfInBounds_toArray, List.set_cons_zero, List.set_cons_succ]
  refine d_take 8 37 rfl rfl (by kernel_rfl) (by kernel_rfl) (by kernel_rfl) (fun _ _ _ h => h) rfl (fun w' hw' => er_f61_1 _ rfl w.heap.size rfl) hS ?_
  simp only [Act.put, List.setIfInBounds_toArray, List.set_cons_zero, List.set_cons_succ]
  refine d_take 9 38 rfl rfl (by kernel_rfl) (by kernel_rfl) (by kernel_rfl) (fun _ _ _ h => h) rfl (fun w' hw' => er_load3 _ rfl w.heap.size 1 _ rfl hw'.2.1) hS ?_
  simp only [Act.put, List.setIfInBounds_toArray, List.set_cons_zero, List.set_cons_succ]
  refine d_take 10 39 rfl rfl (by kernel_rfl) (by kernel_rfl) (by kernel_rfl) (fun _ _ _ h => h) rfl (fun w' hw' => er_build61 _ _ rfl yt p rfl rfl) hS ?_
  simp only [Act.put, List.setIfInBounds_toArray, List.set_cons_zero, List.set_cons_succ]
  refine d_turn 11 (by kernel_rfl) rfl rfl rfl (er_mapUp _ _ _ rfl mb (.int .i64 yi) (tmV yt p) rfl rfl rfl HR5.out) ⟨W5.out.map, cell_of_row HQ5.out rfl, cell_of_row HY5.out rfl, cell_of_row HY5.out rfl⟩ ?_
  refine wpAnyH_done (by kernel_rfl) ?_ _
  clear hS HR5 W4 W4d HQ4 HY4 K4 HQ5 HY5
  have hrow := W5.out.row k hk448
  rw [updN_same, HV.out, List.length_set, HML.out] at hrow
  have hcut := owns_cut hrow (m := m) (by omega)
  rw [HSS.out] at hcut
  have hskl : sk.length = m := owns_len2 hcut
  have W6 : Hid (Wl (w5.setCell ⟨b, 2 + k, none⟩ (.slice (some ⟨g, 0, none⟩) m cap)) b mb n c' (updM M yi (some (yt, (p : Int)))) (updN S k sk) (updN V k (.slice (some ⟨g, 0, none⟩) m cap))) := (by
    have := W5.out.grow (w' := w5) hk448 (Kept.refl _ w5) (v := .slice (some ⟨g, 0, none⟩) m cap) (xs := sk) (by rw [hskl]; exact hcut) (.inl (by rw [HV.out]; rfl))
    rw [updN_updN] at this
    exact this)
  have K6 : Hid (Kept (Fp b mb V) w (w5.setCell ⟨b, 2 + k, none⟩ (.slice (some ⟨g, 0, none⟩) m cap))) := K5.out.setCell (p := ⟨b, 2 + k, none⟩) (.inl (.inl rfl)) _
  have s5 := W5.out.slot k hk448
  rw [HV.out] at s5
  have f5 := W5.out.fz (2 + k)
  have HSL : Hid (sk.length = m) := hskl
  clear hrow hcut hskl
  go_upto_region 7 with fail
  generalize w5.setCell ⟨b, 2 + k, none⟩ (.slice (some ⟨g, 0, none⟩) m cap) = w6 at W6 K6 ⊢
  clear s5 f5 W5 K5
  have s6 := W6.out.slot k hk448
  rw [updN_same] at s6
  have f6 := W6.out.fz (2 + k)
  by_cases hm0 : m = 0
  · have hskn : sk = [] := List.eq_nil_of_length_eq_zero (by rw [HSL.out]; exact hm0)
    have W7 : Hid (Wl (w6.setCell ⟨b, 2 + k, none⟩ (.slice none 0 0)) b mb n c' (updM M yi (some (yt, (p : Int)))) (updN S k sk) (updN V k (.slice none 0 0))) := (by
      have := W6.out.setSlot hk448 (v := .slice none 0 0) (xs := []) (World.ownsRow_nil _ _ _ _) ⟨(fun e => by cases e), (fun e => by cases e)⟩ (fun j _ _ g e => by cases e)
      rw [updN_updN, updN_updN, ← hskn] at this
      exact this)
    have K7 : Hid (Kept (Fp b mb V) w (w6.setCell ⟨b, 2 + k, none⟩ (.slice none 0 0))) := K6.out.setCell (p := ⟨b, 2 + k, none⟩) (.inl (.inl rfl)) _
    have HS0 : Hid (sk = []) := hskn
    subst hm0
    clear hskn
    go_wp2
    refine bodyPost_end (results_none rfl _ _ _) rfl ?_
    exact ⟨rfl, _, W7.out, K7.out, (fun g e => by cases e)⟩
  · have hm1 : ((m : Int) == 0) = false := by simpa using hm0
    clear hm0
    go_wp2
    refine bodyPost_end (results_none rfl _ _ _) rfl ?_
    exact ⟨rfl, _, W6.out, K6.out, (fun g' e => by rw [HV.out]; exact e)⟩

end Go.Proofs.YtffgcijicmfmlaaGreatDoor
