/-
  add.
-/
import Derived.Test.YteiakmjdjaodlaaRHeld
namespace Go.Proofs.Yteiakmjdjaodlaa
open Go.RowKit Go.Shelf Go.Sort
set_option linter.unusedVariables false

theorem Okl.ins {mo nx : Nat} {S : List En} (h : Okl mo nx S) (i p : Int) (h1 : 1 ≤ i) (h2 : i ≤ mo) (hp : I6 p) (h0 : ∀ x, x ∈ S → x.id ≠ i) : Okl mo (nx + 1) (insE ⟨i, p, nx⟩ S) := by
  have hpl : ∀ x, x ∈ S → x.pl ≠ (nx : Int) := fun x hx => by have := h.ok x hx; omega
  refine ⟨insE_srt _ h.srt hpl, fun x hx => ?_, fun x y hx hy he => ?_⟩
  · rcases (insE_mem _ _ _).1 hx with rfl | hx
    · exact ⟨h1, h2, hp, by show (0 : Int) ≤ (nx : Int); omega, by show (nx : Int) < ((nx + 1 : Nat) : Int); omega⟩
    · have := h.ok x hx; exact ⟨this.1, this.2.1, this.2.2.1, this.2.2.2.1, by omega⟩
  · rcases (insE_mem _ _ _).1 hx with rfl | hx <;> rcases (insE_mem _ _ _).1 hy with rfl | hy
    · rfl
    · rcases he with e | e
      · exact absurd e.symm (hpl y hy)
      · exact absurd e.symm (h0 y hy)
    · rcases he with e | e
      · exact absurd e (hpl x hx)
      · exact absurd e (h0 x hx)
    · exact h.cu x y hx hy he

/-- the row has grown: in its place or elsewhere -/
theorem Ol.grow {w w' : World} {b mb c nx mo : Nat} {v u : Value} {H xs : List En} {M : Int → Option Int} (h : Ol w b mb v H M c nx mo) (kp : Kept (fun j => v.ownBlock = some j) w w') (hv : w'.ownsRow 0 57 3 u xs.length (fcL xs)) (hb : u.ownBlock = v.ownBlock ∨ ∃ g, u.ownBlock = some g ∧ w.heap.size ≤ g) : Ol (w'.setCell ⟨b, 0, none⟩ u) b mb u xs M c nx mo := by
  have hub : u.ownBlock ≠ some b := fun e => by
    rcases hb with e2 | ⟨g, e2, h2⟩
    · exact h.vb (e2 ▸ e)
    · rw [e2] at e; injection e with e; have := h.lt; omega
  have hum : u.ownBlock ≠ some mb := fun e => by
    rcases hb with e2 | ⟨g, e2, h2⟩
    · exact h.vm (e2 ▸ e)
    · rw [e2] at e; injection e with e; have := h.tm.lt; omega
  obtain ⟨cs, hbk⟩ := h.blk
  have kb : Kept (fun j => j = b) w' (w'.setCell ⟨b, 0, none⟩ u) := Kept.setCell (F := fun j => j = b) (p := ⟨b, 0, none⟩) (Kept.refl _ w') (.inl rfl) _
  exact ⟨⟨_, heap_setCell_eq (kp.at' hbk h.vb) u⟩, World.cell?_setCell_same _ _ _ (kp.cell h.heap h.vb), (cell_other w' b 0 1 _ (by omega)).trans (kp.cell h.map h.vb), (cell_other w' b 0 2 _ (by omega)).trans (kp.cell h.next h.vb), (cell_other w' b 0 3 _ (by omega)).trans (kp.cell h.most h.vb), kb.owns hv (fun g hg e => hub (e ▸ hg)), (h.tm.kept kp h.vm).kept kb h.ne, h.ne, hub, hum⟩

set_option maxHeartbeats 2000000 in
set_option maxRecDepth 100000 in
theorem add_any {w : World} {F : Nat → Prop} {b mo nx : Nat} {S : List En} (h : Ln w F b mo nx S) (i p : Int) (hi1 : 1 ≤ i) (hi2 : i ≤ mo) (hp : I6 p) (h0 : ∀ x, x ∈ S → x.id ≠ i) (hnx : nx < 9223372036854775807) :
    Calls Try.prog 23 #[.pointer (some ⟨b, 0, none⟩), .int .i64 i, .int .i64 p] w fun ex w' => ex = .returned (.tuple #[]) ∧ ∃ F', Ln w' F' b mo (nx + 1) (insE ⟨i, p, nx⟩ S) ∧ Kept F w w' ∧ ∀ k, F' k → F k ∨ w.heap.size ≤ k := by
  obtain ⟨h1, h2, mb, v, ⟨H, M, h3, h4, h5⟩, h6⟩ := h
  have hM : M i = none := by
    cases e : M i with
    | none => rfl
    | some j =>
      obtain ⟨k, q1, q2, q3⟩ := h4.map2 i j e
      exact absurd q3 (h0 _ ((h4.mem _).2 ⟨k, q1, rfl⟩))
  obtain ⟨e, he⟩ : ∃ e : En, e = ⟨i, p, nx⟩ := ⟨_, rfl⟩
  have HOK : Hid (Okl mo (nx + 1) (insE e S) ∧ mo ≤ 65535) := ⟨by rw [he]; exact h2.ins i p hi1 hi2 hp h0, h1⟩
  have hfew := h2.few
  generalize hn : S.length = n at *
  have HGAP := h4.add e (by rw [he]; exact hM)
  have HG : Hid (Gap (hd (H ++ [e])) (n + 1) n M e (fun x => x ∈ insE e S) ∧ Low (hd (H ++ [e])) (n + 1) n e) := (by
    have hh : ∀ j, j < n + 1 → up' (hd H) n e j = hd (H ++ [e]) j := fun j hj => by rw [← h5]; exact hd_app e (by rw [h5]; exact hj)
    refine ⟨HGAP.1.congr hh (fun x => ?_), fun j j0 hj hpj => by omega⟩
    rw [insE_mem]
    constructor
    · rintro (a | a)
      · exact .inr a
      · exact .inl a
    · rintro (a | a)
      · exact .inr a
      · exact .inl a)
  have HME : Hid (M e.id = none) := (show _ = _ by rw [he]; exact hM)
  have HE : Hid (e = ⟨i, p, nx⟩) := he
  have HH : Hid (H.length = n) := h5
  have HSL : Hid (S.length = n) := hn
  have HF6 : Hid (∀ k, Fp b mb v k → F k) := h6
  have HO : Hid (Ol w b mb v H M n nx mo) := h3
  have W1 : Hid (Ol (w.alloc (.cells #[.int .i64 i, .int .i64 p, .int .i64 nx] 57)) b mb v H M n nx mo) := h3.below ((Below.refl _ w).alloc (Nat.le_refl _) _)
  have Q1 : Hid ((w.alloc (.cells #[.int .i64 i, .int .i64 p, .int .i64 nx] 57)).heap[w.heap.size]? = some (.cells #[.int .i64 i, .int .i64 p, .int .i64 nx] 57)) := heap_last _ _
  have HB : Hid (∀ j, Fp b mb v j → j < w.heap.size) := (fun j hj => h3.fp_lt hj)
  have n0 := h3.next
  clear h2 h3 h4 h5 h6 h0 hM hn HGAP he hp
  go_enter Try.func23, Try.ntmps23
  go_upto_region 1 with fail
  have n1 := W1.out.next
  have f1 := W1.out.fz 2
  have W2 : Hid (Ol ((w.alloc (.cells #[.int .i64 i, .int .i64 p, .int .i64 nx] 57)).setCell ⟨b, 2, none⟩ (.int .i64 ((nx : Int) + 1))) b mb v H M n (nx + 1) mo) := W1.out.setNext (nx + 1)
  have Q2 : Hid (((w.alloc (.cells #[.int .i64 i, .int .i64 p, .int .i64 nx] 57)).setCell ⟨b, 2, none⟩ (.int .i64 ((nx : Int) + 1))).heap[w.heap.size]? = some (.cells #[.int .i64 i, .int .i64 p, .int .i64 nx] 57)) := (by
    have kp : Kept (fun j => j = b) (w.alloc (.cells #[.int .i64 i, .int .i64 p, .int .i64 nx] 57)) _ := Kept.setCell (F := fun j => j = b) (p := ⟨b, 2, none⟩) (Kept.refl _ _) (.inl rfl) (.int .i64 ((nx : Int) + 1))
    exact kp.at' Q1.out (fun e => by have := HB.out b (.inl rfl); omega))
  have K2 : Hid (Kept F w ((w.alloc (.cells #[.int .i64 i, .int .i64 p, .int .i64 nx] 57)).setCell ⟨b, 2, none⟩ (.int .i64 ((nx : Int) + 1)))) := Kept.setCell (p := ⟨b, 2, none⟩) ((Kept.refl F w).alloc _) (.inl (HF6.out b (.inl rfl))) _
  generalize w.alloc (.cells #[.int .i64 i, .int .i64 p, .int .i64 nx] 57) = w1 at *
  clear n0
  go_upto_region 2 with fail
  generalize w1.setCell ⟨b, 2, none⟩ (.int .i64 ((nx : Int) + 1)) = w2 at *
  clear n1 f1 W1 Q1
  have W2d : Hid (Ol w2.drew b mb v H M n (nx + 1) mo) := W2.out.drewN 1
  have HQ2 : w2.drew.heap[w.heap.size]? = some (.cells #[.int .i64 i, .int .i64 p, .int .i64 nx] 57) := Q2.out
  obtain ⟨i0, hi0, hz0, hz1, hz2⟩ := info_parts info57
  have hrow := W2d.out.row
  rw [HH.out] at hrow
  have hrow3 := hrow.alloc (.cells #[.int .i64 i, .int .i64 p, .int .i64 nx] 57)
  obtain ⟨v4, w4, hr4, own4, gr4, _, hb4⟩ := run_append_own_at (P := Try.prog) (w := w2.drew.alloc (.cells #[.int .i64 i, .int .i64 p, .int .i64 nx] 57)) 0 48 48 57 i0 (.agg #[.int .i64 0, .int .i64 0, .int .i64 0]) 3 24 Try.underlying48 hi0 hz0 hz1 hz2 rfl (by decide) v n (fcL H) hrow3 ⟨w2.drew.heap.size, 0, none⟩ 1 1 (fc ⟨i, p, nx⟩) rfl (cell3_new w2.drew ⟨i, p, nx⟩) (by intro u hu; simp [fc] at hu; rcases hu with rfl | rfl | rfl <;> rfl) (by unfold maxLen; omega) (by omega) (Nat.zero_le _)
  have kp4 : Kept (fun j => v.ownBlock = some j) w2.drew w4 := ((Kept.refl _ w2.drew).alloc _).grown gr4 (fun j e => .inl e)
  have hb4' : v4.ownBlock = v.ownBlock ∨ ∃ g, v4.ownBlock = some g ∧ w2.drew.heap.size ≤ g := by
    rcases hb4 with e | e
    · exact .inl e
    · exact .inr ⟨_, e, by rw [World.size_alloc]; omega⟩
  have own4' : w4.ownsRow 0 57 3 v4 (H ++ [e]).length (fcL (H ++ [e])) := by
    rw [List.length_append, HH.out, fcL_append, HE.out]
    exact own4
  have W5 : Hid (Ol (w4.setCell ⟨b, 0, none⟩ v4) b mb v4 (H ++ [e]) M n (nx + 1) mo) := W2d.out.grow kp4 own4' hb4'
  have hcb4 := kp4.cell W2d.out.heap W2d.out.vb
  have hfz4 : w4.frozen? ⟨b, 0, none⟩ = false := by
    obtain ⟨cs, hcs⟩ := W2d.out.blk
    have := kp4.at' hcs W2d.out.vb
    simp [World.frozen?, this]
  have hsz2 : w.heap.size ≤ w2.drew.heap.size := K2.out.size
  have HB4 : Hid (∀ k, Fp b mb v4 k → F k ∨ w.heap.size ≤ k) := (fun k hk => by
    rcases hk with e | e | e
    · exact .inl (HF6.out k (.inl e))
    · exact .inl (HF6.out k (.inr (.inl e)))
    · rcases hb4' with e2 | ⟨g, e2, h2⟩
      · exact .inl (HF6.out k (.inr (.inr (e2 ▸ e))))
      · rw [e2] at e; injection e with e; subst e; exact .inr (Nat.le_trans hsz2 h2))
  have K5 : Hid (Kept F w (w4.setCell ⟨b, 0, none⟩ v4)) := Kept.setCell (p := ⟨b, 0, none⟩) (K2.out.drew.trans kp4 (fun j e => .inl (HF6.out j (.inr (.inr e))))) (.inl (HF6.out b (.inl rfl))) _
  have hsh4 : ∃ p n c, v4 = .slice p n c := by
    rcases own4.2 with ⟨e, _⟩ | ⟨g, cap, cur, e, _⟩
    · exact ⟨_, _, _, e⟩
    · exact ⟨_, _, _, e⟩
  have HQ3 : (w2.drew.alloc (.cells #[.int .i64 i, .int .i64 p, .int .i64 nx] 57)).heap[w.heap.size]? = some (.cells #[.int .i64 i, .int .i64 p, .int .i64 nx] 57) := (Below.heap_alloc _ _ _ (heap_lt HQ2)).trans HQ2
  have hqv : v.ownBlock ≠ some w.heap.size := fun e => by have := HB.out _ (.inr (.inr e)); omega
  have HQ4 : w4.heap[w.heap.size]? = some (.cells #[.int .i64 i, .int .i64 p, .int .i64 nx] 57) := kp4.at' HQ2 hqv
  have hwb : w.heap.size ≠ b := by have := HB.out b (.inl rfl); omega
  have HQ5 : (w4.setCell ⟨b, 0, none⟩ v4).heap[w.heap.size]? = some (.cells #[.int .i64 i, .int .i64 p, .int .i64 nx] 57) := (Below.heap_setCell _ _ _ _ hwb).trans HQ4
  have HNF : Hid (¬ Fp b mb v4 w.heap.size) := (fun hk => by
    rcases hk with e | e | e
    · exact hwb e
    · have := HB.out mb (.inr (.inl rfl)); omega
    · rcases hb4' with e2 | ⟨g, e2, h2⟩
      · exact hqv (e2 ▸ e)
      · rw [e2] at e; injection e with e; have := heap_lt HQ2; omega)
  try simp only [Act.put, List.setIfInBounds_toArray, List.set_cons_zero, List.set_cons_succ]
  refine wp_region_held_drew (S := fun w' => w'.cell? ⟨w.heap.size, 0, none⟩ = some (.int .i64 i) ∧ w'.cell? ⟨w.heap.size, 1, none⟩ = some (.int .i64 p) ∧ w'.cell? ⟨w.heap.size, 2, none⟩ = some (.int .i64 nx)) (by kernel_rfl) ⟨cell_of_row HQ2 rfl, cell_of_row HQ2 rfl, cell_of_row HQ2 rfl⟩ (fun hS => ?_)
  refine d_take 0 21 rfl rfl (by kernel_rfl) (by kernel_rfl) (by kernel_rfl) (fun _ _ _ h => h) rfl (fun w' hw' => er_mv _ rfl (.pointer (some ⟨b, 0, none⟩)) rfl) hS ?_
  simp only [Act.put, List.setIfInBounds_toArray, List.set_cons_zero, List.set_cons_succ]
  refine d_take 1 22 rfl rfl (by kernel_rfl) (by kernel_rfl) (by kernel_rfl) (fun _ _ _ h => h) rfl (fun w' hw' => er_mv _ rfl (.pointer (some ⟨b, 0, none⟩)) rfl) hS ?_
  simp only [Act.put, List.setIfInBounds_toArray, List.set_cons_zero, List.set_cons_succ]
  refine d_take 2 23 rfl rfl (by kernel_rfl) (by kernel_rfl) (by kernel_rfl) (fun _ _ _ h => h) rfl (fun w' hw' => er_nil _ rfl ⟨b, 0, none⟩ rfl) hS ?_
  simp only [Act.put, List.setIfInBounds_toArray, List.set_cons_zero, List.set_cons_succ]
  refine d_take 3 24 rfl rfl (by kernel_rfl) (by kernel_rfl) (by kernel_rfl) (fun _ _ _ h => h) rfl (fun w' hw' => er_f50_0 _ rfl b rfl) hS ?_
  simp only [Act.put, List.setIfInBounds_toArray, List.set_cons_zero, List.set_cons_succ]
  refine d_take 5 26 rfl rfl (by kernel_rfl) (by kernel_rfl) (by kernel_rfl) (fun _ _ _ h => h) rfl (fun w' hw' => er_load57 _ rfl w.heap.size 0 _ _ _ rfl hw'.1 hw'.2.1 hw'.2.2) hS ?_
  simp only [Act.put, List.setIfInBounds_toArray, List.set_cons_zero, List.set_cons_succ]
  refine d_pair 4 25 6 27 (by kernel_rfl) rfl rfl rfl rfl rfl rfl (er_load48 _ rfl b 0 v rfl W2d.out.heap) (er_bs48 _ rfl i p nx rfl) hS ⟨cell_of_row HQ3 rfl, cell_of_row HQ3 rfl, cell_of_row HQ3 rfl⟩ ?_ ?_
  · simp only [Act.put, List.setIfInBounds_toArray, List.set_cons_zero, List.set_cons_succ]
    refine d_make 6 27 (by kernel_rfl) rfl rfl rfl (er_bs48 _ rfl i p nx rfl) ⟨cell_of_row HQ3 rfl, cell_of_row HQ3 rfl, cell_of_row HQ3 rfl⟩ ?_
    simp only [Act.put, List.setIfInBounds_toArray, List.set_cons_zero, List.set_cons_succ]
    refine d_make 7 28 (by kernel_rfl) rfl rfl rfl (er_app48 _ _ rfl v (.slice (some ⟨w2.drew.heap.size, 0, none⟩) 1 1) v4 rfl rfl hr4) ⟨cell_of_row HQ4 rfl, cell_of_row HQ4 rfl, cell_of_row HQ4 rfl⟩ ?_
    simp only [Act.put, List.setIfInBounds_toArray, List.set_cons_zero, List.set_cons_succ]
    refine d_read 8 29 (by kernel_rfl) rfl rfl rfl (er_nil _ rfl ⟨b, 0, none⟩ rfl) ⟨cell_of_row HQ4 rfl, cell_of_row HQ4 rfl, cell_of_row HQ4 rfl⟩ ?_
    simp only [Act.put, List.setIfInBounds_toArray, List.set_cons_zero, List.set_cons_succ]
    refine d_read 9 30 (by kernel_rfl) rfl rfl rfl (er_f50_0 _ rfl b rfl) ⟨cell_of_row HQ4 rfl, cell_of_row HQ4 rfl, cell_of_row HQ4 rfl⟩ ?_
    simp only [Act.put, List.setIfInBounds_toArray, List.set_cons_zero, List.set_cons_succ]
    refine d_turn 10 (by kernel_rfl) rfl rfl rfl (er_store48 _ _ rfl b 0 _ v4 hsh4 rfl rfl hcb4 hfz4) ⟨cell_of_row HQ5 rfl, cell_of_row HQ5 rfl, cell_of_row HQ5 rfl⟩ ?_
    refine wpAnyH_done (by kernel_rfl) ?_ _
    clear hS HQ2 HQ3 HQ4 hr4 own4 gr4 hb4 kp4 hb4' own4' hcb4 hfz4 hsh4 hrow hrow3 hi0 hz0 hz1 hz2 hqv W2 W2d Q2 K2 HB HO
    go_upto_region 3 with fail
    generalize w4.setCell ⟨b, 0, none⟩ v4 = w5 at *
    obtain ⟨m, hm⟩ : ∃ m, m = n + 1 := ⟨_, rfl⟩
    have hmm : m ≤ 100000 := by omega
    have hm1 : 1 ≤ m := by omega
    have HM : Hid (m = n + 1) := hm
    clear hm
    have cC : Calls Try.prog 20 #[.pointer (some ⟨b, 0, none⟩)] w5.drew fun ex w' => ex = .returned (.int .i64 m) ∧ w' = w5.drew := (by
      have := count_any (W5.out.drewN 1)
      rw [List.length_append, HH.out, show n + [e].length = m from HM.out.symm] at this
      exact this)
    have cR : Calls Try.prog 36 #[.pointer (some ⟨b, 0, none⟩), .int .i64 (IntKind.i64.wrap ((m : Int) - 1)), .agg #[.int .i64 i, .int .i64 p, .int .i64 nx]] w5.drew fun ex w' => ex = .returned (.tuple #[]) ∧ Gf w' b mb v4 (nx + 1) mo (n + 1) (fun x => x ∈ insE e S) ∧ Kept (Fp b mb v4) w5.drew w' := (by
      have := rise_any n (H ++ [e]) M n (W5.out.drewN 1) HG.out.1 (by rw [List.length_append, HH.out]; rfl) (by rw [HME.out, if_pos rfl]) HG.out.2 (by omega) HOK.out.1.cu (HOK.out.1.ci HOK.out.2)
      rw [show e.v = .agg #[.int .i64 i, .int .i64 p, .int .i64 nx] by rw [HE.out]; rfl, show (n : Int) = IntKind.i64.wrap ((m : Int) - 1) by have := HM.out; rw [IntKind.wrap_i64]; omega] at this
      exact this)
    have q0 : w5.drew.cell? ⟨w.heap.size, 0, none⟩ = some (.int .i64 i) := cell_of_row (w := w5) HQ5 rfl
    have q1 : w5.drew.cell? ⟨w.heap.size, 1, none⟩ = some (.int .i64 p) := cell_of_row (w := w5) HQ5 rfl
    have q2 : w5.drew.cell? ⟨w.heap.size, 2, none⟩ = some (.int .i64 nx) := cell_of_row (w := w5) HQ5 rfl
    have HRES : Hid (∀ w6, Gf w6 b mb v4 (nx + 1) mo (n + 1) (fun x => x ∈ insE e S) → Kept (Fp b mb v4) w5.drew w6 → ∃ F', Ln w6 F' b mo (nx + 1) (insE ⟨i, p, nx⟩ S) ∧ Kept F w w6 ∧ ∀ k, F' k → F k ∨ w.heap.size ≤ k) := (fun w6 g1 g2 => by
      refine ⟨Fp b mb v4, ?_, K5.out.drew.trans g2 (fun j hj => HB4.out j hj), HB4.out⟩
      rw [← HE.out]
      exact ⟨HOK.out.2, HOK.out.1, mb, v4, by rw [insE_len, HSL.out]; exact g1, fun k hk => hk⟩)
    clear W5 K5 HQ5
    go_region_with (first
      | (go_at_call 20; refine cC.mono ?_; rintro ex w6 ⟨rfl, hw6⟩; obtain rfl := hw6.symm)
      | (go_at_call 36; refine cR.mono ?_; rintro ex w6 ⟨rfl, hG6, hK6⟩))
    all_goals
      go_wp2
      go_end0
      exact ⟨rfl, HRES.out _ hG6 hK6⟩
  · simp only [Act.put, List.setIfInBounds_toArray, List.set_cons_zero, List.set_cons_succ]
    refine d_read 4 25 (by kernel_rfl) rfl rfl rfl (er_load48 _ rfl b 0 v rfl (((Kept.refl No w2.drew).alloc _).cell W2d.out.heap (fun h => h))) ⟨cell_of_row HQ3 rfl, cell_of_row HQ3 rfl, cell_of_row HQ3 rfl⟩ ?_
    simp only [Act.put, List.setIfInBounds_toArray, List.set_cons_zero, List.set_cons_succ]
    refine d_make 7 28 (by kernel_rfl) rfl rfl rfl (er_app48 _ _ rfl v (.slice (some ⟨w2.drew.heap.size, 0, none⟩) 1 1) v4 rfl rfl hr4) ⟨cell_of_row HQ4 rfl, cell_of_row HQ4 rfl, cell_of_row HQ4 rfl⟩ ?_
    simp only [Act.put, List.setIfInBounds_toArray, List.set_cons_zero, List.set_cons_succ]
    refine d_read 8 29 (by kernel_rfl) rfl rfl rfl (er_nil _ rfl ⟨b, 0, none⟩ rfl) ⟨cell_of_row HQ4 rfl, cell_of_row HQ4 rfl, cell_of_row HQ4 rfl⟩ ?_
    simp only [Act.put, List.setIfInBounds_toArray, List.set_cons_zero, List.set_cons_succ]
    refine d_read 9 30 (by kernel_rfl) rfl rfl rfl (er_f50_0 _ rfl b rfl) ⟨cell_of_row HQ4 rfl, cell_of_row HQ4 rfl, cell_of_row HQ4 rfl⟩ ?_
    simp only [Act.put, List.setIfInBounds_toArray, List.set_cons_zero, List.set_cons_succ]
    refine d_turn 10 (by kernel_rfl) rfl rfl rfl (er_store48 _ _ rfl b 0 _ v4 hsh4 rfl rfl hcb4 hfz4) ⟨cell_of_row HQ5 rfl, cell_of_row HQ5 rfl, cell_of_row HQ5 rfl⟩ ?_
    refine wpAnyH_done (by kernel_rfl) ?_ _
    clear hS HQ2 HQ3 HQ4 hr4 own4 gr4 hb4 kp4 hb4' own4' hcb4 hfz4 hsh4 hrow hrow3 hi0 hz0 hz1 hz2 hqv W2 W2d Q2 K2 HB HO
    go_upto_region 3 with fail
    generalize w4.setCell ⟨b, 0, none⟩ v4 = w5 at *
    obtain ⟨m, hm⟩ : ∃ m, m = n + 1 := ⟨_, rfl⟩
    have hmm : m ≤ 100000 := by omega
    have hm1 : 1 ≤ m := by omega
    have HM : Hid (m = n + 1) := hm
    clear hm
    have cC : Calls Try.prog 20 #[.pointer (some ⟨b, 0, none⟩)] w5.drew fun ex w' => ex = .returned (.int .i64 m) ∧ w' = w5.drew := (by
      have := count_any (W5.out.drewN 1)
      rw [List.length_append, HH.out, show n + [e].length = m from HM.out.symm] at this
      exact this)
    have cR : Calls Try.prog 36 #[.pointer (some ⟨b, 0, none⟩), .int .i64 (IntKind.i64.wrap ((m : Int) - 1)), .agg #[.int .i64 i, .int .i64 p, .int .i64 nx]] w5.drew fun ex w' => ex = .returned (.tuple #[]) ∧ Gf w' b mb v4 (nx + 1) mo (n + 1) (fun x => x ∈ insE e S) ∧ Kept (Fp b mb v4) w5.drew w' := (by
      have := rise_any n (H ++ [e]) M n (W5.out.drewN 1) HG.out.1 (by rw [List.length_append, HH.out]; rfl) (by rw [HME.out, if_pos rfl]) HG.out.2 (by omega) HOK.out.1.cu (HOK.out.1.ci HOK.out.2)
      rw [show e.v = .agg #[.int .i64 i, .int .i64 p, .int .i64 nx] by rw [HE.out]; rfl, show (n : Int) = IntKind.i64.wrap ((m : Int) - 1) by have := HM.out; rw [IntKind.wrap_i64]; omega] at this
      exact this)
    have q0 : w5.drew.cell? ⟨w.heap.size, 0, none⟩ = some (.int .i64 i) := cell_of_row (w := w5) HQ5 rfl
    have q1 : w5.drew.cell? ⟨w.heap.size, 1, none⟩ = some (.int .i64 p) := cell_of_row (w := w5) HQ5 rfl
    have q2 : w5.drew.cell? ⟨w.heap.size, 2, none⟩ = some (.int .i64 nx) := cell_of_row (w := w5) HQ5 rfl
    have HRES : Hid (∀ w6, Gf w6 b mb v4 (nx + 1) mo (n + 1) (fun x => x ∈ insE e S) → Kept (Fp b mb v4) w5.drew w6 → ∃ F', Ln w6 F' b mo (nx + 1) (insE ⟨i, p, nx⟩ S) ∧ Kept F w w6 ∧ ∀ k, F' k → F k ∨ w.heap.size ≤ k) := (fun w6 g1 g2 => by
      refine ⟨Fp b mb v4, ?_, K5.out.drew.trans g2 (fun j hj => HB4.out j hj), HB4.out⟩
      rw [← HE.out]
      exact ⟨HOK.out.2, HOK.out.1, mb, v4, by rw [insE_len, HSL.out]; exact g1, fun k hk => hk⟩)
    clear W5 K5 HQ5
    go_region_with (first
      | (go_at_call 20; refine cC.mono ?_; rintro ex w6 ⟨rfl, hw6⟩; obtain rfl := hw6.symm)
      | (go_at_call 36; refine cR.mono ?_; rintro ex w6 ⟨rfl, hG6, hK6⟩))
    all_goals
      go_wp2
      go_end0
      exact ⟨rfl, HRES.out _ hG6 hK6⟩
end Go.Proofs.Yteiakmjdjaodlaa
