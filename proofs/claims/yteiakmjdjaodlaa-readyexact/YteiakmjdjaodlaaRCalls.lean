/-
  The line's calls: New, Put, Remove, First, Take, Priority, Len.
-/
import Derived.Test.YteiakmjdjaodlaaRAdd
namespace Go.Proofs.Yteiakmjdjaodlaa
open Go.RowKit Go.Shelf Go.Sort
set_option linter.unusedVariables false

section
variable {ops : Array Oper} {rest : List Oper} {op : Oper} {a : Act} {w : World} {Q : Exit → Act → World → Prop}
theorem wpList_val {P : Program} {w' : World} {v : Value} (hgd : op.guard = none) (hr : (execOp a.eval op).run P w = .ok (.value v) w') (h : wpList P ops Q rest (a.put op.dst v) w') : wpList P ops Q (op :: rest) a w :=
  wpList_plain hgd fun K hK => by unfold Oper.wp; rw [hr]; exact hK _ _ h
end
theorem mk47 (w : World) : (Instr.makeMap 47 none).run Try.prog w = .ok (.map (some w.heap.size)) (w.alloc (.map #[] 0)) := by kernel_rfl

theorem new_no (x : Int) (hx : x < 0 ∨ x > 65535) (w : World) : Calls Try.prog 5 #[.int .i64 x] w fun ex w' => ex = .returned (.tuple #[.pointer none, .bool false]) ∧ w' = w := by
  by_cases h0 : x < 0
  · clear hx
    go_enter Try.func5, Try.ntmps5
    go_wp2
    go_ret2
    exact ⟨rfl, rfl⟩
  · have h1 : x > 65535 := by omega
    clear hx
    go_enter Try.func5, Try.ntmps5
    go_wp2
    go_ret2
    exact ⟨rfl, rfl⟩
theorem full_empty : Full (hd []) 0 (fun _ => none) (fun x => x ∈ ([] : List En)) :=
  ⟨(fun i _ h => by omega), (fun i h => by omega), (fun x j h => by cases h), fun x => ⟨(fun h => by cases h), (fun ⟨i, h, _⟩ => by omega)⟩⟩
theorem okl_empty (mo nx : Nat) : Okl mo nx [] := ⟨List.Pairwise.nil, (fun x h => by cases h), (fun x y h => by cases h)⟩
theorem ln_new (w : World) (n : Nat) (hn : n ≤ 65535) : Ln ((w.alloc (.map #[] 0)).alloc (.cells #[.slice none 0 0, .map (some w.heap.size), .int .i64 0, .int .i64 n] 52)) (fun k => w.heap.size ≤ k) (w.heap.size + 1) n 0 [] := by
  have hb := heap_last (w.alloc (.map #[] 0)) (.cells #[.slice none 0 0, .map (some w.heap.size), .int .i64 0, .int .i64 n] 52)
  rw [World.size_alloc] at hb
  refine ⟨hn, okl_empty n 0, w.heap.size, .slice none 0 0, ⟨[], fun _ => none, ⟨⟨_, hb⟩, cell_of_row hb rfl, cell_of_row hb rfl, cell_of_row hb rfl, cell_of_row hb rfl, World.ownsRow_nil _ _ _ _, (Tm.made w).kept ((Kept.refl No _).alloc _) (fun h => h), by omega, (fun e => by cases e), (fun e => by cases e)⟩, full_empty, rfl⟩, fun k hk => ?_⟩
  rcases hk with rfl | rfl | e
  · omega
  · omega
  · cases e
theorem new_yes (n : Nat) (hn : n ≤ 65535) (w : World) : Calls Try.prog 5 #[.int .i64 n] w fun ex w' => ∃ b, ex = .returned (.tuple #[.pointer (some ⟨b, 0, none⟩), .bool true]) ∧ Ln w' (fun k => w.heap.size ≤ k) b n 0 [] ∧ Below w.heap.size w w' := by
  have h0 : ¬ ((n : Int) < 0) := by omega
  have h1 : ¬ ((n : Int) > 65535) := by omega
  have HW : Hid (Ln ((w.alloc (.map #[] 0)).alloc (.cells #[.slice none 0 0, .map (some w.heap.size), .int .i64 0, .int .i64 n] 52)) (fun k => w.heap.size ≤ k) (w.heap.size + 1) n 0 []) := ln_new w n hn
  have hmk : (Instr.makeMap 47 none).run Try.prog w = .ok (.map (some w.heap.size)) (w.alloc (.map #[] 0)) := mk47 w
  go_enter Try.func5, Try.ntmps5
  go_wp2
  go_ret2
  exact ⟨w.heap.size + 1, by simp, HW.out, ((Below.refl _ w).alloc (Nat.le_refl _) _).alloc (by simp) _⟩

section
variable {w : World} {F : Nat → Prop} {b mo nx : Nat} {S : List En}
def hasE (i : Int) (S : List En) : Bool := S.any (fun x => x.id == i)
theorem hasE_yes {i : Int} {S : List En} (h : hasE i S = true) : ∃ x, x ∈ S ∧ x.id = i := by
  unfold hasE at h
  obtain ⟨x, h1, h2⟩ := List.any_eq_true.1 h
  exact ⟨x, h1, by simpa using h2⟩
theorem hasE_no {i : Int} {S : List En} (h : hasE i S = false) : ∀ x, x ∈ S → x.id ≠ i := by
  unfold hasE at h
  intro x hx e
  rw [List.any_eq_false] at h
  exact h x hx (by simp [e])
theorem cut_any (h : Ln w F b mo nx S) (i : Int) (hi : I6 i) : Calls Try.prog 22 #[.pointer (some ⟨b, 0, none⟩), .int .i64 i] w fun ex w' => ex = .returned (.bool (hasE i S)) ∧ Ln w' F b mo nx (outE i S) ∧ Kept F w w' := by
  cases hh : hasE i S with
  | false =>
    refine (cut_no h i hi (hasE_no hh)).mono ?_
    rintro ex w' ⟨rfl, hb⟩
    rw [outE_same (hasE_no hh)]
    exact ⟨rfl, h.below hb, Kept.of_below hb⟩
  | true =>
    obtain ⟨x, hx, rfl⟩ := hasE_yes hh
    exact cut_yes h x hx
theorem remove_any (h : Ln w F b mo nx S) (i : Int) (hi : I6 i) : Calls Try.prog 9 #[.pointer (some ⟨b, 0, none⟩), .int .i64 i] w fun ex w' => ex = .returned (.bool (hasE i S)) ∧ Ln w' F b mo nx (outE i S) ∧ Kept F w w' := by
  have cC := cut_any h i hi
  clear h hi
  generalize hasE i S = r at *
  go_enter Try.func9, Try.ntmps9
  go_wp2_with (go_at_call 22; refine cC.mono ?_; rintro ex w2 ⟨rfl, hF, hK⟩)
  go_ret
  exact ⟨rfl, hF, hK⟩
theorem len_any (h : Ln w F b mo nx S) : Calls Try.prog 25 #[.pointer (some ⟨b, 0, none⟩)] w fun ex w' => ex = .returned (.int .i64 S.length) ∧ w' = w := by
  obtain ⟨h1, h2, mb, v, ⟨H, M, h3, h4, h5⟩, h6⟩ := h
  have cC := count_any h3
  rw [h5] at cC
  clear h2 h3 h4 h5 h6
  generalize S.length = n at *
  go_enter Try.func25, Try.ntmps25
  go_wp2_with (go_at_call 20; refine cC.mono ?_; rintro ex w2 ⟨rfl, rfl⟩)
  go_ret
  exact ⟨rfl, rfl⟩
theorem put_no (h : Ln w F b mo nx S) (i p : Int) (hi : i < 1 ∨ (mo : Int) < i) : Calls Try.prog 8 #[.pointer (some ⟨b, 0, none⟩), .int .i64 i, .int .i64 p] w fun ex w' => ex = .returned (.bool false) ∧ w' = w := by
  obtain ⟨h1, h2, mb, v, ⟨H, M, h3, h4, h5⟩, h6⟩ := h
  have hm := h3.most
  clear h2 h3 h4 h5 h6
  by_cases h0 : i < 1
  · clear hi
    go_enter Try.func8, Try.ntmps8
    go_wp2
    go_ret
    exact ⟨rfl, rfl⟩
  · have hi2 : i > (mo : Int) := by omega
    clear hi
    go_enter Try.func8, Try.ntmps8
    go_wp2
    go_ret
    exact ⟨rfl, rfl⟩
theorem put_yes (h : Ln w F b mo nx S) (i p : Int) (h1 : 1 ≤ i) (h2 : i ≤ mo) (hp : I6 p) (hnx : nx < 9223372036854775807) : Calls Try.prog 8 #[.pointer (some ⟨b, 0, none⟩), .int .i64 i, .int .i64 p] w fun ex w' => ex = .returned (.bool true) ∧ ∃ F', Ln w' F' b mo (nx + 1) (insE ⟨i, p, nx⟩ (outE i S)) ∧ Kept F w w' ∧ ∀ k, F' k → F k ∨ w.heap.size ≤ k := by
  have cC := cut_any h i (by have := h.1; unfold I6; omega)
  have HP : Hid (I6 p) := hp
  obtain ⟨hmo, _, mb, v, ⟨H, M, h3, h4, h5⟩, h6⟩ := h
  have hm := h3.most
  clear h3 h4 h5 h6 hp
  have g1 : ¬ (i < 1) := by omega
  have g2 : ¬ (i > (mo : Int)) := by omega
  generalize hasE i S = r at *
  go_enter Try.func8, Try.ntmps8
  go_upto_region 4 with (go_at_call 22; refine cC.mono ?_; rintro ex w2 ⟨rfl, hF, hK⟩)
  have cA := add_any hF i p h1 h2 HP.out (fun x hx => (outE_mem.1 hx).2) hnx
  have HK : Hid (Kept F w w2) := hK
  clear hF hK cC
  go_wp2_with (go_at_call 23; refine cA.mono ?_; rintro ex w3 ⟨rfl, F', hF3, hK3, hF'⟩)
  go_ret
  exact ⟨rfl, F', hF3, HK.out.trans hK3 (fun k hk => .inl hk), fun k hk => by
    rcases hF' k hk with e | e
    · exact .inl e
    · exact .inr (Nat.le_trans HK.out.size e)⟩
/-- the top of the heap is the head of the list -/
theorem top_head {h : Nat → En} {n : Nat} {M : Int → Option Int} {x : En} {r : List En} (k : Full h n M (fun y => y ∈ x :: r)) (hs : Srt (x :: r)) (hn : 0 < n) : h 0 = x := by
  have h0 : h 0 ∈ x :: r := (k.mem _).2 ⟨0, hn, rfl⟩
  rcases List.mem_cons.1 h0 with e | e
  · exact e
  · obtain ⟨i, hi, hx⟩ := (k.mem x).1 List.mem_cons_self
    have h1 := (List.pairwise_cons.1 hs).1 _ e
    rcases k.first i hi with e2 | e2
    · subst e2; exact hx
    · rw [hx] at e2; exact absurd h1 e2.asymm
def headI (S : List En) : Int := (S.head?.map En.id).getD 0
theorem field57 (x y z : Int) (w : World) : (Instr.field 57 (.agg #[.int .i64 x, .int .i64 y, .int .i64 z]) 0).run Try.prog w = .ok (.int .i64 x) w := by kernel_rfl
set_option maxRecDepth 100000 in
theorem first_any (h : Ln w F b mo nx S) : Calls Try.prog 10 #[.pointer (some ⟨b, 0, none⟩)] w fun ex w' => ex = .returned (.tuple #[.int .i64 (headI S), .bool S.head?.isSome]) ∧ Below w.heap.size w w' := by
  obtain ⟨h1, h2, mb, v, ⟨H, M, h3, h4, h5⟩, h6⟩ := h
  have cC := count_any h3
  rw [h5] at cC
  cases S with
  | nil =>
    clear h2 h3 h4 h5 h6
    rw [show headI [] = 0 from rfl, show ([] : List En).head?.isSome = false from rfl]
    rw [show ([] : List En).length = 0 from rfl] at cC
    go_enter Try.func10, Try.ntmps10
    go_wp2_with (go_at_call 20; refine cC.mono ?_; rintro ex w2 ⟨rfl, rfl⟩)
    go_ret2
    exact ⟨rfl, Below.refl _ _⟩
  | cons x r =>
    have cT := top_any h3 (by rw [h5]; simp)
    rw [top_head h4 h2.srt (by simp)] at cT
    clear h2 h3 h4 h5 h6
    rw [show headI (x :: r) = x.id from rfl, show (x :: r).head?.isSome = true from rfl]
    obtain ⟨m, hm⟩ : ∃ m, m = (x :: r).length := ⟨_, rfl⟩
    rw [← hm] at cC
    have hz : ¬ ((m : Int) = 0) := by rw [hm, List.length_cons]; omega
    clear hm
    unfold En.v at cT
    have hfd := fun w => field57 x.id x.pr x.pl w
    go_enter Try.func10, Try.ntmps10
    go_upto_region 3 with (go_at_call 20; refine cC.mono ?_; rintro ex w2 ⟨rfl, hw2⟩; obtain rfl := hw2.symm)
    clear cC
    go_wp2_with (go_at_call 24; refine cT.mono ?_; rintro ex w2 ⟨rfl, hb⟩)
    go_ret2
    exact ⟨rfl, hb⟩
theorem out_head {x : En} {r : List En} (h : Okl mo nx (x :: r)) : outE x.id (x :: r) = r := by
  unfold outE
  rw [List.filter_cons, if_neg (by simp)]
  refine outE_same (S := r) (fun z hz e => ?_)
  have := h.cu x z List.mem_cons_self (List.mem_cons_of_mem _ hz) (.inr e.symm)
  subst this
  exact lt'.irr _ ((List.pairwise_cons.1 h.srt).1 _ hz)
theorem take_any (h : Ln w F b mo nx S) : Calls Try.prog 11 #[.pointer (some ⟨b, 0, none⟩)] w fun ex w' => ex = .returned (.tuple #[.int .i64 (headI S), .bool S.head?.isSome]) ∧ Ln w' F b mo nx S.tail ∧ Kept F w w' := by
  have HL : Hid (Ln w F b mo nx S) := h
  have cF := first_any h
  cases S with
  | nil =>
    rw [show headI [] = 0 from rfl, show ([] : List En).head?.isSome = false from rfl] at cF ⊢
    clear h
    go_enter Try.func11, Try.ntmps11
    go_wp2_with (go_at_call 10; refine cF.mono ?_; rintro ex w2 ⟨rfl, hb⟩)
    go_ret2
    exact ⟨rfl, HL.out.below hb, Kept.of_below hb⟩
  | cons x r =>
    have HOUT : Hid (outE x.id (x :: r) = r) := out_head h.2.1
    have HHAS : Hid (hasE x.id (x :: r) = true) := (show _ = _ by unfold hasE; simp)
    have HI : Hid (I6 x.id) := h.2.1.ci h.1 x List.mem_cons_self
    rw [show headI (x :: r) = x.id from rfl, show (x :: r).head?.isSome = true from rfl] at cF ⊢
    rw [show (x :: r).tail = r from rfl]
    clear h
    go_enter Try.func11, Try.ntmps11
    go_upto_region 2 with (go_at_call 10; refine cF.mono ?_; rintro ex w2 ⟨rfl, hb⟩)
    have cC := cut_any (HL.out.below hb) x.id HI.out
    rw [HHAS.out, HOUT.out] at cC
    have HB : Hid (Below w.heap.size w w2) := hb
    clear hb cF
    go_wp2_with (go_at_call 22; refine cC.mono ?_; rintro ex w3 ⟨rfl, hF, hK⟩)
    go_ret2
    exact ⟨rfl, hF, (Kept.of_below HB.out).trans hK (fun k hk => .inl hk)⟩
/-- the entry of a number -/
def findE (i : Int) (S : List En) : Option En := S.find? (fun x => x.id == i)
def prioE (i : Int) (S : List En) : Int := ((findE i S).map En.pr).getD 0
theorem findE_hit {i : Int} {S : List En} {x : En} (h : findE i S = some x) : x ∈ S ∧ x.id = i := by
  unfold findE at h
  exact ⟨List.mem_of_find?_eq_some h, by simpa using List.find?_some h⟩
theorem findE_none {i : Int} {S : List En} (h : findE i S = none) : ∀ x, x ∈ S → x.id ≠ i := by
  unfold findE at h
  rw [List.find?_eq_none] at h
  intro x hx e
  exact h x hx (by simp [e])
theorem find_any (h : Ln w F b mo nx S) (i : Int) (hi : I6 i) : Calls Try.prog 26 #[.pointer (some ⟨b, 0, none⟩), .int .i64 i] w fun ex w' => ex = .returned (.tuple #[((findE i S).getD En0).v, .bool (findE i S).isSome]) ∧ Below w.heap.size w w' := by
  obtain ⟨h1, h2, mb, v, ⟨H, M, h3, h4, h5⟩, h6⟩ := h
  have W1 : Hid (Ol (w.alloc (.cells #[.int .i64 0, .int .i64 0, .int .i64 0] 57)) b mb v H M S.length nx mo) := h3.below ((Below.refl _ w).alloc (Nat.le_refl _) _)
  have Q1 : Hid ((w.alloc (.cells #[.int .i64 0, .int .i64 0, .int .i64 0] 57)).heap[w.heap.size]? = some (.cells #[.int .i64 0, .int .i64 0, .int .i64 0] 57)) := heap_last _ _
  have K1 : Hid (Kept No w (w.alloc (.cells #[.int .i64 0, .int .i64 0, .int .i64 0] 57))) := (Kept.refl No w).alloc _
  have hm := W1.out.map
  have hl := W1.out.tm.look hi
  have f0 := fz_row Q1.out
  have q0 := cell_of_row (k := 0) (v := .int .i64 0) Q1.out rfl
  have q1 := cell_of_row (k := 1) (v := .int .i64 0) Q1.out rfl
  have q2 := cell_of_row (k := 2) (v := .int .i64 0) Q1.out rfl
  unfold tmV at hl
  cases hf : findE i S with
  | none =>
    have hM : M i = none := by
      cases e : M i with
      | none => rfl
      | some j =>
        obtain ⟨k, p1, p2, p3⟩ := h4.map2 i j e
        exact absurd p3 (findE_none hf _ ((h4.mem _).2 ⟨k, p1, rfl⟩))
    rw [hM] at hl
    dsimp only [Option.getD_none, Option.isSome_none] at hl ⊢
    unfold En.v En0
    clear h2 h3 h4 h5 h6 hi hf hM W1
    go_enter Try.func26, Try.ntmps26
    go_upto_region 1 with fail
    generalize w.alloc (.cells #[.int .i64 0, .int .i64 0, .int .i64 0] 57) = w1 at *
    go_wp2
    have hld := run_loadVar_row (P := Try.prog) _ w.heap.size 57 57 _ (0, 0) _ (set3 Q1.out (.int .i64 0) (.int .i64 0) (.int .i64 0)) Try.underlying57 rfl (by kernel_rfl)
    refine bodyPost_ret (v := .tuple #[.agg #[.int .i64 0, .int .i64 0, .int .i64 0], .bool false]) ?_ rfl ⟨rfl, (set3_kept K1.out (Nat.le_refl _) _ _ _).below0⟩
    rw [results_cell_tmp rfl]
    simp [asAddr, Result.andThen, hld]
  | some x =>
    obtain ⟨hx, hxi⟩ := findE_hit hf
    obtain ⟨k, hk, hkx⟩ := (h4.mem x).1 hx
    have hM : M i = some (k : Int) := by have := h4.map1 k hk; rw [hkx, hxi] at this; exact this
    rw [hM] at hl
    dsimp only [Option.getD_some, Option.isSome_some] at hl ⊢
    obtain ⟨g, cap, rfl, u1, u2, r0, r1, r2, r3⟩ := W1.out.get (k := k) (by rw [h5]; exact hk)
    rw [hkx] at r0 r1 r2
    have g0 := W1.out.heap
    rw [h5] at g0 u2
    generalize S.length = n at *
    unfold En.v
    clear h2 h3 h4 h5 h6 hi hf hM W1 hkx hx hxi
    go_enter Try.func26, Try.ntmps26
    go_upto_region 1 with fail
    generalize w.alloc (.cells #[.int .i64 0, .int .i64 0, .int .i64 0] 57) = w1 at *
    go_wp2
    have hld := run_loadVar_row (P := Try.prog) _ w.heap.size 57 57 _ (0, 0) _ (set3 Q1.out (.int .i64 x.id) (.int .i64 x.pr) (.int .i64 x.pl)) Try.underlying57 rfl (by kernel_rfl)
    refine bodyPost_ret (v := .tuple #[.agg #[.int .i64 x.id, .int .i64 x.pr, .int .i64 x.pl], .bool true]) ?_ rfl ⟨rfl, (set3_kept K1.out (Nat.le_refl _) _ _ _).below0⟩
    rw [results_cell_tmp rfl]
    simp [asAddr, Result.andThen, hld]
theorem priority_any (h : Ln w F b mo nx S) (i : Int) (hi : I6 i) : Calls Try.prog 14 #[.pointer (some ⟨b, 0, none⟩), .int .i64 i] w fun ex w' => ex = .returned (.tuple #[.int .i64 (prioE i S), .bool (findE i S).isSome]) ∧ Below w.heap.size w w' := by
  have cF := find_any h i hi
  have HP : Hid (prioE i S = ((findE i S).getD En0).pr) := (show _ = _ by unfold prioE; cases findE i S <;> rfl)
  rw [HP.out]
  clear h hi HP
  generalize (findE i S).isSome = bb at *
  generalize (findE i S).getD En0 = x at *
  unfold En.v at cF
  go_enter Try.func14, Try.ntmps14
  go_wp2_with (go_at_call 26; refine cF.mono ?_; rintro ex w2 ⟨rfl, hb⟩)
  go_ret2
  exact ⟨rfl, hb.trans (((Below.refl _ w2).alloc (Nat.le_refl _) _).mono hb.size)⟩
end
end Go.Proofs.Yteiakmjdjaodlaa
