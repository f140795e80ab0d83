/-
  The line as a list: cut.
-/
import Derived.Test.YteiakmjdjaodlaaRRise
import Derived.RegionTactic
import Derived.Deep.RegionHeld
namespace Go.Proofs.Yteiakmjdjaodlaa
open Go.RowKit Go.Shelf Go.Sort
set_option linter.unusedVariables false

theorem pig : ∀ (N : Nat) (l : List Nat), l.Nodup → (∀ x, x ∈ l → x < N) → l.length ≤ N
  | 0, l, _, h => by
    cases l with
    | nil => exact Nat.le_refl _
    | cons a l => exact absurd (h a List.mem_cons_self) (Nat.not_lt_zero _)
  | N + 1, l, hn, h => by
    by_cases hm : N ∈ l
    · have h1 := pig N (l.erase N) (hn.erase N) (fun x hx => by
        have := hn.mem_erase_iff.1 hx
        have := h x this.2
        omega)
      rw [List.length_erase_of_mem hm] at h1
      omega
    · have h1 := pig N l hn (fun x hx => by
        have := h x hx
        have : x ≠ N := fun e => hm (e ▸ hx)
        omega)
      omega

/-- what stands in a line for 1 .. mo, behind nx Puts -/
structure Okl (mo nx : Nat) (S : List En) : Prop where
  srt : Srt S
  ok : ∀ x, x ∈ S → 1 ≤ x.id ∧ x.id ≤ mo ∧ I6 x.pr ∧ 0 ≤ x.pl ∧ x.pl < nx
  cu : Cu (fun x => x ∈ S)
theorem Okl.few {mo nx : Nat} {S : List En} (h : Okl mo nx S) : S.length ≤ mo + 1 := by
  have := pig (mo + 1) (S.map (fun x => x.id.toNat)) (by
    unfold List.Nodup
    rw [List.pairwise_map]
    refine List.pairwise_iff_getElem.2 (fun i j hi hj hij e => ?_)
    have o1 := h.ok _ (List.getElem_mem hi)
    have o2 := h.ok _ (List.getElem_mem hj)
    have e2 := h.cu _ _ (List.getElem_mem hi) (List.getElem_mem hj) (.inr (by omega))
    have := List.pairwise_iff_getElem.1 h.srt i j hi hj hij
    rw [e2] at this
    exact lt'.irr _ this) (fun x hx => by
    obtain ⟨y, hy, rfl⟩ := List.mem_map.1 hx
    have := h.ok y hy
    omega)
  simpa using this
theorem Okl.out {mo nx : Nat} {S : List En} (h : Okl mo nx S) (i : Int) : Okl mo nx (outE i S) :=
  ⟨outE_srt h.srt, fun x hx => h.ok x (outE_mem.1 hx).1, fun x y hx hy => h.cu x y (outE_mem.1 hx).1 (outE_mem.1 hy).1⟩
theorem Okl.ci {mo nx : Nat} {S : List En} (h : Okl mo nx S) (hm : mo ≤ 65535) : Ci (fun x => x ∈ S) := fun x hx => by
  have := h.ok x hx; unfold I6; omega
/-- block b is a line -/
def Ln (w : World) (F : Nat → Prop) (b mo nx : Nat) (S : List En) : Prop :=
  mo ≤ 65535 ∧ Okl mo nx S ∧ ∃ mb v, Gf w b mb v nx mo S.length (fun x => x ∈ S) ∧ ∀ k, Fp b mb v k → F k
namespace Ln
variable {w w' : World} {F G : Nat → Prop} {b mo nx : Nat} {S : List En}
theorem kept (h : Ln w F b mo nx S) (k : Kept G w w') (hG : ∀ j, F j → ¬ G j) : Ln w' F b mo nx S := by
  obtain ⟨h1, h2, mb, v, ⟨H, M, h3, h4, h5⟩, h6⟩ := h
  exact ⟨h1, h2, mb, v, ⟨H, M, h3.kept k (fun j hj => hG j (h6 j hj)), h4, h5⟩, h6⟩
theorem below (h : Ln w F b mo nx S) (k : Below w.heap.size w w') : Ln w' F b mo nx S := h.kept (Kept.of_below (F := No) k) (fun _ _ h => h)
theorem mono (h : Ln w F b mo nx S) (hG : ∀ k, F k → G k) : Ln w G b mo nx S := by
  obtain ⟨h1, h2, mb, v, h3, h6⟩ := h
  exact ⟨h1, h2, mb, v, h3, fun k hk => hG k (h6 k hk)⟩
theorem bound (h : Ln w F b mo nx S) : Ln w (fun k => F k ∧ k < w.heap.size) b mo nx S := by
  obtain ⟨h1, h2, mb, v, ⟨H, M, h3, h4, h5⟩, h6⟩ := h
  exact ⟨h1, h2, mb, v, ⟨H, M, h3, h4, h5⟩, fun k hk => ⟨h6 k hk, h3.fp_lt hk⟩⟩
end Ln

theorem wl_del {ops : Array Oper} {rest : List Oper} {op : Oper} {a : Act} {w : World} {Q : Exit → Act → World → Prop} (hgd : op.guard = none) (m x : Operand) (ho : op.op = .call { callee := .builtin .delete, args := #[m, x], argTypes := #[47, 3] }) (mb c : Nat) (i : Int) (M : Int → Option Int) (hm : a.eval m = .map (some mb)) (hx : a.eval x = .int .i64 i) (tm : Tm w mb M c) (hi : I6 i)
    (h : ∀ w', Hid (Tm w' mb (updM M i none) (if M i = none then c else c - 1)) → Hid (Kept (fun k => k = mb) w w') → wpList Try.prog ops Q rest (a.put op.dst (.tuple #[])) w') : wpList Try.prog ops Q (op :: rest) a w := by
  obtain ⟨w', hr, t', k'⟩ := tm.del hi op.type
  refine wpList_plain hgd fun K hK => ?_
  unfold Oper.wp
  simp [execOp, ho, resolve, invoke, builtin, hm, hx, hr, Result.andThen]
  exact hK _ _ (h w' t' k')

section
variable {w : World} {F : Nat → Prop} {b mo nx : Nat} {S : List En}
theorem cut_no (h : Ln w F b mo nx S) (i : Int) (hi : I6 i) (h0 : ∀ x, x ∈ S → x.id ≠ i) : Calls Try.prog 22 #[.pointer (some ⟨b, 0, none⟩), .int .i64 i] w fun ex w' => ex = .returned (.bool false) ∧ Below w.heap.size w w' := by
  obtain ⟨h1, h2, mb, v, ⟨H, M, h3, h4, h5⟩, h6⟩ := h
  have hm := h3.map
  have hl := h3.tm.look hi
  have hM : M i = none := by
    cases e : M i with
    | none => rfl
    | some j =>
      obtain ⟨k, q1, q2, q3⟩ := h4.map2 i j e
      exact absurd q3 (h0 _ ((h4.mem _).2 ⟨k, q1, rfl⟩))
  rw [hM] at hl
  unfold tmV at hl
  dsimp only [Option.getD_none, Option.isSome_none] at hl
  clear h2 h3 h4 h5 h6 h0 hM hi
  go_enter Try.func22, Try.ntmps22
  go_wp2
  go_ret
  exact ⟨rfl, Below.refl _ _⟩
set_option maxHeartbeats 2000000 in
set_option maxRecDepth 100000 in
theorem cut_yes (h : Ln w F b mo nx S) (x : En) (hx : x ∈ S) : Calls Try.prog 22 #[.pointer (some ⟨b, 0, none⟩), .int .i64 x.id] w fun ex w' => ex = .returned (.bool true) ∧ Ln w' F b mo nx (outE x.id S) ∧ Kept F w w' := by
  obtain ⟨h1, h2, mb, v, ⟨H, M, h3, h4, h5⟩, h6⟩ := h
  have hi : I6 x.id := h2.ci h1 x hx
  have hm := h3.map
  have hl := h3.tm.look hi
  obtain ⟨k, hk, hkx⟩ := (h4.mem x).1 hx
  have hM := h4.map1 k hk
  rw [hkx] at hM
  rw [hM] at hl
  unfold tmV at hl
  dsimp only [Option.getD_some, Option.isSome_some] at hl
  have hlen := outE_len (i := x.id) h2.srt (fun p q hp hq e => h2.cu p q hp hq (.inr e)) ⟨x, hx, rfl⟩
  have hfew := h2.few
  generalize hn : S.length = n at *
  have TM := h3.tm
  have HTM : Hid (Tm w mb M n) := h3.tm
  have HO : Hid (Ol w b mb v H M n nx mo) := h3
  have HFU : Hid (Full (hd H) n M (fun x => x ∈ S)) := h4
  have HH : Hid (H.length = n) := h5
  have HL : Hid ((outE x.id S).length + 1 = n) := hlen
  have HF6 : Hid (∀ k, Fp b mb v k → F k) := h6
  have HKX : Hid (hd H k = x ∧ M x.id = some (k : Int)) := ⟨hkx, hM⟩
  have HOK : Hid (Okl mo nx S ∧ mo ≤ 65535) := ⟨h2, h1⟩
  have HI : Hid (I6 x.id) := hi
  clear h2 h3 h4 h5 h6 hx hkx hM hlen hn TM hi
  go_enter Try.func22, Try.ntmps22
  go_upto_region 5 with (refine wl_del rfl _ _ rfl mb n x.id M rfl rfl HTM.out HI.out ?_; intro w2 t2 k2)
  have HO2 : Hid (Ol w2 b mb v H (updM M x.id none) (n - 1) nx mo ∧ Kept F w w2) := (by
    have t2' := t2.out
    rw [HKX.out.2, if_neg (by simp)] at t2'
    exact ⟨HO.out.turn k2.out t2', k2.out.mono (fun k e => HF6.out k (.inr (.inl e)))⟩)
  clear hm hl HTM t2 k2
  have cC := count_any HO2.out.1
  rw [HH.out] at cC
  have g0 := HO2.out.1.heap
  obtain ⟨g, cap, hv, u1, u2, r0, r1, r2, r3⟩ := HO2.out.1.get (k := n - 1) (by rw [HH.out]; omega)
  rw [HH.out] at hv u2
  subst hv
  have gf := HO2.out.1.fz 0
  have EN : Hid ((n : Int) - 1 = ((n - 1 : Nat) : Int)) := (by show _ = _; omega)
  go_upto_region 6 with (go_at_call 20; refine cC.mono ?_; rintro ex w3 ⟨rfl, hw3⟩; obtain rfl := hw3.symm)
  rw [EN.out]
  obtain ⟨l, hl⟩ : ∃ l, l = n - 1 := ⟨_, rfl⟩
  rw [← hl] at r0 r1 r2 HO2 ⊢
  have hln : l < n := by omega
  have hkl : k ≤ l := by omega
  have HLN : Hid (n = l + 1) := (by show _ = _; omega)
  obtain ⟨y, hy⟩ : ∃ y, y = hd H l := ⟨_, rfl⟩
  rw [← hy] at r0 r1 r2
  have HY : Hid (y = hd H l) := hy
  have W3 : Hid (Ol (w2.alloc (.cells #[.int .i64 y.id, .int .i64 y.pr, .int .i64 y.pl] 57)) b mb (.slice (some ⟨g, 0, none⟩) n cap) H (updM M x.id none) l nx mo) := HO2.out.1.below ((Below.refl _ w2).alloc (Nat.le_refl _) _)
  have K3 : Hid (Kept F w (w2.alloc (.cells #[.int .i64 y.id, .int .i64 y.pr, .int .i64 y.pl] 57))) := HO2.out.2.alloc _
  have Q3 : Hid ((w2.alloc (.cells #[.int .i64 y.id, .int .i64 y.pr, .int .i64 y.pl] 57)).heap[w2.heap.size]? = some (.cells #[.int .i64 y.id, .int .i64 y.pr, .int .i64 y.pl] 57)) := heap_last _ _
  have HB3 : Hid (∀ j, Fp b mb (.slice (some ⟨g, 0, none⟩) n cap) j → j < w2.heap.size) := (fun j hj => HO2.out.1.fp_lt hj)
  clear hl EN hy cC
  go_upto_region 7 with fail
  have m0 := W3.out.heap
  have mf := W3.out.fz 0
  have W4 : Hid (Ol ((w2.alloc (.cells #[.int .i64 y.id, .int .i64 y.pr, .int .i64 y.pl] 57)).setCell ⟨b, 0, none⟩ (.slice (some ⟨g, 0, none⟩) l cap)) b mb (.slice (some ⟨g, 0, none⟩) l cap) (H.take l) (updM M x.id none) l nx mo) := (by
    have hr := W3.out.row
    rw [HH.out] at hr
    have hr2 := owns_cut hr (m := l) (by omega)
    have hll : (H.take l).length = l := by rw [List.length_take, HH.out]; omega
    exact W3.out.setHeap (u := .slice (some ⟨g, 0, none⟩) l cap) (by rw [hll]; exact hr2) W3.out.vb W3.out.vm)
  have K4 : Hid (Kept F w ((w2.alloc (.cells #[.int .i64 y.id, .int .i64 y.pr, .int .i64 y.pl] 57)).setCell ⟨b, 0, none⟩ (.slice (some ⟨g, 0, none⟩) l cap))) := Kept.setCell (p := ⟨b, 0, none⟩) K3.out (.inl (HF6.out b (.inl rfl))) _
  have Q4 : Hid (((w2.alloc (.cells #[.int .i64 y.id, .int .i64 y.pr, .int .i64 y.pl] 57)).setCell ⟨b, 0, none⟩ (.slice (some ⟨g, 0, none⟩) l cap)).heap[w2.heap.size]? = some (.cells #[.int .i64 y.id, .int .i64 y.pr, .int .i64 y.pl] 57)) := (by
    have kp : Kept (fun j => j = b) (w2.alloc (.cells #[.int .i64 y.id, .int .i64 y.pr, .int .i64 y.pl] 57)) _ := Kept.setCell (F := fun j => j = b) (p := ⟨b, 0, none⟩) (Kept.refl _ _) (.inl rfl) (.slice (some ⟨g, 0, none⟩) l cap)
    exact kp.at' Q3.out (fun e => by have := HB3.out b (.inl rfl); omega))
  generalize w2.alloc (.cells #[.int .i64 y.id, .int .i64 y.pr, .int .i64 y.pl] 57) = w3 at *
  have HCu : Hid (Cu (fun z => z ∈ outE x.id S) ∧ Ci (fun z => z ∈ outE x.id S)) := ⟨(HOK.out.1.out x.id).cu, (HOK.out.1.out x.id).ci HOK.out.2⟩
  have hll : (H.take l).length = l := by rw [List.length_take, HH.out]; omega
  have HLL : Hid ((H.take l).length = l) := hll
  clear hll r0 r1 r2 r3 g0 gf HO2 W3 K3 Q3
  by_cases hkl2 : k < l
  · have hkl3 : (k : Int) < (l : Int) := by omega
    have HG : Hid (Gap (hd (H.take l)) l k (updM M x.id none) y (fun z => z ∈ outE x.id S)) := (by
      have hc := HFU.out.cut (c := k) (by have := HLN.out; omega)
      rw [HKX.out.1, show n - 1 = l by have := HLN.out; omega, ← HY.out] at hc
      exact hc.congr (fun i hi => (hd_take hi).symm) (fun z => outE_mem.symm))
    have HCG : Hid (l + (if updM M x.id none y.id = none then 1 else 0) = l) := (by
      have hc := HFU.out.cut (c := k) (by have := HLN.out; omega)
      have hyx : y.id ≠ x.id := by
        intro e
        rw [HY.out, ← HKX.out.1] at e
        have := HFU.out.inj hln hk e
        omega
      have := HFU.out.map1 l hln
      rw [← HY.out] at this
      show l + _ = l
      rw [updM_ne hyx, this, if_neg (by simp)]; rfl)
    go_upto_region 9 with fail
    generalize w3.setCell ⟨b, 0, none⟩ (.slice (some ⟨g, 0, none⟩) l cap) = w4 at *
    have cS : Calls Try.prog 37 #[.pointer (some ⟨b, 0, none⟩), .int .i64 k, y.v] w4.drew _ := sink_any k (H.take l) (updM M x.id none) l (W4.out.drewN 1) HG.out HLL.out HCG.out (by omega) HCu.out.1 HCu.out.2
    have cR := fun (w5 : World) a' H' M' c' (a1 : Ol w5 b mb (.slice (some ⟨g, 0, none⟩) l cap) H' M' c' nx mo) a2 a3 a4 a5 => rise_any (w := w5) (b := b) (mb := mb) (nx := nx) (mo := mo) (n := l) (v := .slice (some ⟨g, 0, none⟩) l cap) (e := y) (C := fun z => z ∈ outE x.id S) a' H' M' c' a1 a2 a3 a4 a5 (by omega) HCu.out.1 HCu.out.2
    unfold En.v at cS cR
    have q0 : w4.drew.cell? ⟨w2.heap.size, 0, none⟩ = some (.int .i64 y.id) := cell_of_row (w := w4) Q4.out rfl
    have q1 : w4.drew.cell? ⟨w2.heap.size, 1, none⟩ = some (.int .i64 y.pr) := cell_of_row (w := w4) Q4.out rfl
    have q2 : w4.drew.cell? ⟨w2.heap.size, 2, none⟩ = some (.int .i64 y.pl) := cell_of_row (w := w4) Q4.out rfl
    have HRES : Hid (∀ w6, Gf w6 b mb (.slice (some ⟨g, 0, none⟩) l cap) nx mo l (fun z => z ∈ outE x.id S) → Kept (Fp b mb (.slice (some ⟨g, 0, none⟩) l cap)) w4 w6 → Ln w6 F b mo nx (outE x.id S) ∧ Kept F w w6) := (fun w6 f1 f2 => by
      have e1 : (outE x.id S).length = l := by have := HL.out; have := HLN.out; omega
      have hfp : ∀ j, Fp b mb (.slice (some ⟨g, 0, none⟩) l cap) j → F j := fun j hj => HF6.out j (by
        rcases hj with h | h | h
        · exact .inl h
        · exact .inr (.inl h)
        · exact .inr (.inr h))
      exact ⟨⟨HOK.out.2, HOK.out.1.out x.id, mb, _, by rw [e1]; exact f1, hfp⟩, K4.out.trans f2 (fun j hj => .inl (hfp j hj))⟩)
    have HNB : Hid (¬ Fp b mb (.slice (some ⟨g, 0, none⟩) l cap) w2.heap.size) := (fun hj => by
      have := HB3.out w2.heap.size (by
        rcases hj with h | h | h
        · exact .inl h
        · exact .inr (.inl h)
        · exact .inr (.inr h))
      exact Nat.lt_irrefl _ this)
    clear W4 K4 Q4 HG HCG HB3 m0 mf
    go_region_with (first
      | (go_at_call 37; refine cS.mono ?_; rintro ex w5 ⟨a', rfl, ⟨H', M', c', z1, z2, z3, z4, z5⟩, hK5⟩; have q5 := hK5.cell q0 HNB.out; have q6 := hK5.cell q1 HNB.out; have q7 := hK5.cell q2 HNB.out)
      | (go_at_call 36; refine (cR _ _ _ _ _ z1 z2 z3 z4 z5).mono ?_; rintro ex w6 ⟨rfl, hF6, hK6⟩))
    all_goals
      go_wp2
      go_ret
      exact ⟨rfl, HRES.out _ hF6 (((Kept.refl _ w4).drew.trans hK5 (fun j hj => .inl hj)).trans hK6 (fun j hj => .inl hj))⟩
  · have hkl3 : ¬ ((k : Int) < (l : Int)) := by omega
    have hke : k = l := by omega
    subst hke
    have HR : Hid (Ln (w3.setCell ⟨b, 0, none⟩ (.slice (some ⟨g, 0, none⟩) k cap)) F b mo nx (outE x.id S)) := (by
      have e1 : (outE x.id S).length = k := by have := HL.out; have := HLN.out; omega
      show Ln _ _ _ _ _ _
      refine ⟨HOK.out.2, HOK.out.1.out x.id, mb, .slice (some ⟨g, 0, none⟩) k cap, ⟨H.take k, updM M x.id none, ?_, ?_, ?_⟩, fun j hj => HF6.out j ?_⟩
      · rw [e1]; exact W4.out
      · rw [e1]
        have hc := HFU.out.cutLast (by omega)
        rw [show n - 1 = k by have := HLN.out; omega, HKX.out.1] at hc
        exact hc.congr (fun i hi => (hd_take hi).symm) (fun z => outE_mem.symm)
      · rw [e1]; exact HLL.out
      · rcases hj with h | h | h
        · exact .inl h
        · exact .inr (.inl h)
        · exact .inr (.inr h))
    go_wp2
    go_ret
    exact ⟨rfl, HR.out, K4.out⟩
end
end Go.Proofs.Yteiakmjdjaodlaa
