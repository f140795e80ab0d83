/-
  ChannelTicks: the walk.
-/
import Derived.Test.YtnoiehlbohmnlaaCRef
import Derived.Test.YtnoiehlbohmnlaaCVs
import Derived.Test.YtnoiehlbohmnlaaCSame
import Derived.Shelf.Abstract
namespace Go.Proofs.Ytnoiehlbohmnlaa
open Go.RowKit Plain Go.Shelf
set_option linter.unusedVariables false
set_option maxRecDepth 100000

theorem owns_lit0 (w : World) (t : TypeId) : (w.alloc (.cells #[] t)).ownsRow w.heap.size t 1 (.slice (some ⟨w.heap.size, 0, none⟩) 0 0) 0 [] := by
  refine ⟨rfl, .inr ⟨w.heap.size, 0, #[], rfl, Nat.le_refl _, alloc_new w _, by omega, by omega, rfl, rfl⟩⟩
theorem Hd.set {w : World} {g : Nat} {zs : List Int} (h : Hd w g zs) {j : Nat} (hj : j < zs.length) (v : Int) : Hd (w.setCell ⟨g, j, none⟩ (.int .i64 v)) g (zs.set j v) := fun i hi => by
  have hi' : i < zs.length := by simpa using hi
  obtain ⟨h1, h2⟩ := h i (by simpa using hi')
  rw [Nat.zero_add] at h1 h2 ⊢
  refine ⟨?_, by rw [World.frozen?_setCell]; exact h2⟩
  rw [cell_set h1]
  by_cases e : i = j
  · subst e; simp [hi']
  · rw [if_neg e]
    simp [hi', Ne.symm e]

section
variable {w : World} {a : Act} {o : Oper}
theorem ec_2 {f : FuncId} (ef : ∀ args w, (callFunc f args).run Try.prog w = .ok (.enter f args) w) (x y : Operand) (t t' : TypeId) (ho : o.op = .call { callee := .value (.func f), args := #[x, y], argTypes := #[t, t'] }) (v u : Value) (hx : a.eval x = v) (hy : a.eval y = u) : (execOp a.eval o).run Try.prog w = .ok (.enter f #[v, u]) w := by
  subst hx hy
  simp [execOp, ho, go_sem, Act.eval, ef]
end
theorem sameEq {F G : Nat → Prop} {a a' : Option Addr} {n c m c' : Nat} {xs : List Int} (w : World) (h : Zs w F a n c xs) (h' : Zs w G a' m c' xs) :
    Calls Try.prog 10 #[.slice a n c, .slice a' m c'] w fun e w' => e = .returned (.bool true) ∧ Kept No w w' := by
  have h9 := sameI_any w h h'
  rw [decide_eq_true rfl] at h9
  exact h9
set_option maxHeartbeats 8000000 in
theorem ticks_law {F : Nat → Prop} {k f ph pe t : Int} {a : Option Addr} {n c : Nat} {xs : List Int} (w : World) (h1 : I64 ph) (h2 : I64 pe) (h3 : I64 t) (hz : Zs w F a n c xs) (hn : n ≤ 2000000) :
    Calls Try.prog 3 #[.agg #[.int .i64 k, .int .i64 f, .slice a n c, .int .i64 ph, .int .i64 pe], .int .i64 t] w fun e w' => e = .returned (.bool true) ∧ Kept No w w' := by
  have hl := hz.len
  have hcap := hz.cap
  have hmax := hz.max
  have hb0 := bxc w k f a n c ph pe
  have k0 : Kept No w (w.alloc (.cells #[.int .i64 k, .int .i64 f, .slice a n c, .int .i64 ph, .int .i64 pe] 24)) := (Kept.refl No w).alloc _
  have sz0 : (w.alloc (.cells #[.int .i64 k, .int .i64 f, .slice a n c, .int .i64 ph, .int .i64 pe] 24)).heap.size = w.heap.size + 1 := by simp
  have H3 : Hid (I64 ph ∧ I64 pe ∧ I64 t) := ⟨h1, h2, h3⟩
  have HZ : Hid (Zs w F a n c xs) := hz
  clear h1 h2 h3 hz
  go_enter Try.func3, Try.ntmps3
  go_upto_region 2 with fail
  generalize w.alloc (.cells #[.int .i64 k, .int .i64 f, .slice a n c, .int .i64 ph, .int .i64 pe] 24) = w1 at *
  obtain ⟨B, hB⟩ : ∃ B, w.heap.size = B := ⟨_, rfl⟩
  rw [hB] at hb0 sz0 ⊢
  have HB := hid hB
  clear hB
  obtain ⟨d0, d1, d2, d3, d4⟩ := five hb0
  have hv := (HZ.out.kept k0 (fun _ _ h => h)).vs
  have H1 : Hid (Kept No w w1 ∧ w1.heap[B]? = some (.cells #[.int .i64 k, .int .i64 f, .slice a n c, .int .i64 ph, .int .i64 pe] 24) ∧ w1.heap.size = B + 1) := ⟨k0, hb0, sz0⟩
  clear k0 hb0
  go_wp2_with (at_builtin; refine wpList_cpv rfl _ _ 22 3 rfl _ 8 Try.underlying22 Try.infoI rfl (B + 1) _ rfl (World.ownsRow_nil _ _ _ _) (by omega) _ n c rfl _ _ hv (iv_one xs) (by omega) ?_; intro ya yc w2 o2 k2)
  clear hv d0 d1 d2 d3 d4
  go_loopw [5, 6] (fun v i wr => ∃ (j : Nat) (va : Option Addr) (vc : Nat), j ≤ 8 ∧ i = .int .i64 j ∧ v = .slice va (n + j) vc ∧ wr.ownsRow (B + 1) 3 1 (.slice va (n + j) vc) (n + j) ((xs ++ List.replicate j 83).map iv) ∧ wr.heap[B]? = some (.cells #[.int .i64 k, .int .i64 f, .slice a n c, .int .i64 ph, .int .i64 pe] 24) ∧ Kept No w wr ∧ B + 1 ≤ wr.heap.size) (fun _ i _ => 8 - (intOf i).toNat)
  case atStart =>
    have k2' : Kept No w1 w2 := k2.out.mono (fun q e => by cases e)
    refine ⟨0, ya, yc, by omega, rfl, rfl, by simpa using o2.out, k2'.at' H1.out.2.1 (fun h => h), H1.out.1.trans k2' (fun _ h => .inl h), ?_⟩
    have := k2'.size; have := H1.out.2.2; omega
  case round =>
    clear o2 k2 w2
    obtain ⟨j, va, vc, hj, rfl, rfl, own, hb, K, hsz⟩ := hrel
    by_cases hlt : j < 8
    · have hst : ((xs ++ List.replicate (j + 1) 83).map iv) = ((xs ++ List.replicate j 83).map iv) ++ [iv 83] := by
        rw [List.replicate_succ', ← List.append_assoc, List.map_append]; rfl
      have AP : Hid ((wr.alloc (.cells #[.int .i64 83] 3)).ownsRow (B + 1) 3 1 (.slice va (n + j) vc) (n + j) ((xs ++ List.replicate j 83).map iv) ∧ B + 1 ≤ (wr.alloc (.cells #[.int .i64 83] 3)).heap.size ∧ (wr.alloc (.cells #[.int .i64 83] 3)).cell? ⟨wr.heap.size, 0, none⟩ = some (.int .i64 83) ∧ Kept No wr (wr.alloc (.cells #[.int .i64 83] 3))) := ⟨own.alloc _, by rw [World.size_alloc]; omega, by
        rw [cell_blk (alloc_new wr _)]; rfl, (Kept.refl No wr).alloc _⟩
      have HO : Hid (wr.heap[B]? = some (.cells #[.int .i64 k, .int .i64 f, .slice a n c, .int .i64 ph, .int .i64 pe] 24) ∧ Kept No w wr ∧ B + 1 ≤ wr.heap.size ∧ ((xs ++ List.replicate (j + 1) 83).map iv) = ((xs ++ List.replicate j 83).map iv) ++ [iv 83]) := ⟨hb, K, hsz, hst⟩
      have hltz : (j : Int) < 8 := by omega
      clear own hb K hst
      generalize ((xs ++ List.replicate j 83).map iv) = us at *
      go_wp2_with (at_builtin; refine wpList_app1 rfl _ _ 22 3 rfl _ 8 Try.underlying22 Try.infoI rfl (B + 1) (.slice va (n + j) vc) (n + j) us rfl AP.out.1 AP.out.2.1 ⟨wr.heap.size, 0, none⟩ 1 (.int .i64 83) rfl AP.out.2.2.1 rfl (by omega) (by unfold maxLen; omega) ?_; intro ya yc wa own1 gr1 lo1)
      go_roundw
      case rel =>
        have KA : Kept No w wa := (HO.out.2.1.trans AP.out.2.2.2 (fun _ h => .inl h)).grown gr1.out (fun q hq => .inr (by have := (owns_at AP.out.1 hq).1; have := HB.out; omega))
        have KW : Kept (fun q => (Value.slice va (n + j) vc).ownBlock = some q) wr wa := (AP.out.2.2.2.mono (fun _ h => h.elim)).grown gr1.out (fun q hq => .inl hq)
        have far : ¬ (Value.slice va (n + j) vc).ownBlock = some B := fun e => by have := (owns_at AP.out.1 e).1; omega
        exact ⟨j + 1, ya, yc, by omega, by go_num, rfl, by rw [HO.out.2.2.2]; exact own1.out, KW.at' HO.out.1 far, KA, by have := KW.size; have := HO.out.2.2.1; omega⟩
      case measure => simp [intOf]; omega
    · have hj8 : j = 8 := by omega
      subst hj8
      have hne : xs ++ List.replicate 8 83 ≠ [] := by simp
      have hlen8 : (xs ++ List.replicate 8 (83 : Int)).length = n + 8 := by simp [hl]
      obtain ⟨g, cap, hvv, hgB, hgl, hgc, hgm, hdz⟩ := Hd.of_owns own hne
      injection hvv with e1 e2 e3
      subst e1 e3
      clear e2
      rw [hlen8] at hgc
      obtain ⟨ys, hys⟩ : ∃ ys, xs ++ List.replicate 8 (83 : Int) = ys := ⟨_, rfl⟩
      rw [hys] at hdz hlen8 own
      have HD : Hid (Hd wr g ys ∧ g < wr.heap.size ∧ B + 1 ≤ g ∧ ys.length = n + 8 ∧ wr.heap[B]? = some (.cells #[.int .i64 k, .int .i64 f, .slice a n c, .int .i64 ph, .int .i64 pe] 24) ∧ Kept No w wr ∧ n + 8 ≤ vc ∧ vc ≤ 9223372036854775807 ∧ B + 1 ≤ wr.heap.size) := ⟨hdz, hgl, hgB, hlen8, hb, K, hgc, hgm, hsz⟩
      have hltz : ¬ (8 : Int) < 8 := by omega
      clear own hb K hys hne hdz hlen8 hgl hgB
      go_upto_region 7 with fail
      have zsA : Zs (wr.alloc (.cells #[] 3)) (fun q => q = g) (some ⟨g, 0, none⟩) (n + 8) vc ys := by
        have h := (HD.out.1.kept ((Kept.refl No wr).alloc (.cells #[] 3)) (fun h => h) HD.out.2.1).zs (by rw [HD.out.2.2.2.1]; exact hgc) hgm
        rw [HD.out.2.2.2.1] at h
        exact h
      have hv := zsA.vs
      have hwz : wr.heap.size ≤ (wr.alloc (.cells #[] 3)).heap.size := by simp
      go_upto_region 8 with (at_builtin; refine wpList_cpv rfl _ _ 22 3 rfl _ 8 Try.underlying22 Try.infoI rfl wr.heap.size _ rfl (owns_lit0 wr _) hwz _ (n + 8) vc rfl _ _ hv (iv_one ys) (by omega) ?_; intro ya yc w3 o3 k3)
      have k3' : Kept No wr w3 := ((Kept.refl No wr).alloc _).trans k3.out (fun q e => .inr (by injection e with e; exact Nat.le_of_eq e))
      have zw : ∃ (ya' : Option Addr) (yc' : Nat), Value.slice ya (n + 8) yc = .slice ya' ys.length yc' ∧ Zs w3 (fun q => (Value.slice ya (n + 8) yc).ownBlock = some q) ya' ys.length yc' ys := by
        refine Zs.of_owns (base := wr.heap.size) (e := 3) ?_
        rw [HD.out.2.2.2.1]; exact o3.out
      obtain ⟨ya', yc', ey, zw⟩ := zw
      injection ey with ey1 ey2 ey3
      subst ey1 ey3
      rw [HD.out.2.2.2.1] at zw
      clear ey2
      obtain ⟨x0, x1, x2, x3, x4⟩ := five (k3'.at' HD.out.2.2.2.2.1 (fun h => h))
      have H4 : Hid (Kept No wr w3 ∧ Zs w3 (fun q => (Value.slice ya (n + 8) yc).ownBlock = some q) ya (n + 8) yc ys ∧ ∀ q, (Value.slice ya (n + 8) yc).ownBlock = some q → wr.heap.size ≤ q ∧ q < w3.heap.size) := ⟨k3', zw, fun q hq => owns_at o3.out hq⟩
      clear k3' zw o3 k3 hv zsA hwz
      go_upto_region 9 with fail
      have hbd := alloc_new w3 (.cells #[.int .i64 k, .int .i64 f, .slice a n c, .int .i64 ph, .int .i64 pe] 24)
      have k4 : Kept No w3 (w3.alloc (.cells #[.int .i64 k, .int .i64 f, .slice a n c, .int .i64 ph, .int .i64 pe] 24)) := (Kept.refl No w3).alloc _
      have sz4 : (w3.alloc (.cells #[.int .i64 k, .int .i64 f, .slice a n c, .int .i64 ph, .int .i64 pe] 24)).heap.size = w3.heap.size + 1 := by simp
      have H5 : Hid (Kept No wr (w3.alloc (.cells #[.int .i64 k, .int .i64 f, .slice a n c, .int .i64 ph, .int .i64 pe] 24)) ∧ Zs (w3.alloc (.cells #[.int .i64 k, .int .i64 f, .slice a n c, .int .i64 ph, .int .i64 pe] 24)) (fun q => (Value.slice ya (n + 8) yc).ownBlock = some q) ya (n + 8) yc ys ∧ wr.heap.size ≤ w3.heap.size ∧ ∀ q, (Value.slice ya (n + 8) yc).ownBlock = some q → wr.heap.size ≤ q ∧ q < w3.heap.size) := ⟨H4.out.1.trans k4 (fun _ h => .inl h), H4.out.2.1.kept k4 (fun _ _ h => h), H4.out.1.size, H4.out.2.2⟩
      clear k4 H4 x0 x1 x2 x3 x4
      generalize w3.alloc (.cells #[.int .i64 k, .int .i64 f, .slice a n c, .int .i64 ph, .int .i64 pe] 24) = w4 at *
      obtain ⟨D, hDe⟩ : ∃ D, w3.heap.size = D := ⟨_, rfl⟩
      rw [hDe] at hbd sz4 H5 ⊢
      clear hDe
      obtain ⟨x0, x1, x2, x3, x4⟩ := five (H5.out.1.at' HD.out.2.2.2.2.1 (fun h => h))
      obtain ⟨v0, v1, v2, v3, v4⟩ := five hbd
      have fzd : ∀ i, w4.frozen? ⟨D, i, none⟩ = false := fun i => fz_blk hbd i
      have fz2 := fzd 2
      clear fzd
      go_upto_region 10 with fail
      have gD : g ≠ D := by have := HD.out.2.1; have := H5.out.2.2.1; omega
      have GB : g ≠ B := by have := HD.out.2.2.1; omega
      have BD : B ≠ D := by have := HD.out.2.2.2.2.2.2.2.2; have := H5.out.2.2.1; omega
      have H6 : Hid ((w4.setCell ⟨D, 2, none⟩ (.slice (some ⟨g, 0, none⟩) n vc)).heap[D]? = some (.cells #[.int .i64 k, .int .i64 f, .slice (some ⟨g, 0, none⟩) n vc, .int .i64 ph, .int .i64 pe] 24) ∧ (w4.setCell ⟨D, 2, none⟩ (.slice (some ⟨g, 0, none⟩) n vc)).heap[B]? = some (.cells #[.int .i64 k, .int .i64 f, .slice a n c, .int .i64 ph, .int .i64 pe] 24) ∧ Zs (w4.setCell ⟨D, 2, none⟩ (.slice (some ⟨g, 0, none⟩) n vc)) (fun q => q = g) (some ⟨g, 0, none⟩) (n + 8) vc ys ∧ Zs (w4.setCell ⟨D, 2, none⟩ (.slice (some ⟨g, 0, none⟩) n vc)) (fun q => (Value.slice ya (n + 8) yc).ownBlock = some q) ya (n + 8) yc ys ∧ Hd (w4.setCell ⟨D, 2, none⟩ (.slice (some ⟨g, 0, none⟩) n vc)) g ys ∧ g < (w4.setCell ⟨D, 2, none⟩ (.slice (some ⟨g, 0, none⟩) n vc)).heap.size ∧ Kept No w (w4.setCell ⟨D, 2, none⟩ (.slice (some ⟨g, 0, none⟩) n vc)) ∧ w.heap.size ≤ g ∧ w.heap.size ≤ D) := by
        have kd : Kept (fun q => q = D) w4 (w4.setCell ⟨D, 2, none⟩ (.slice (some ⟨g, 0, none⟩) n vc)) := (Kept.refl (fun q => q = D) w4).setCell (p := ⟨D, 2, none⟩) (.inl rfl) _
        have hd4 : Hd w4 g ys := HD.out.1.kept H5.out.1 (fun h => h) HD.out.2.1
        have lt4 : g < w4.heap.size := by have := H5.out.1.size; have := HD.out.2.1; omega
        have hd5 := hd4.kept kd gD lt4
        have zs5 := hd5.zs (cap := vc) (by rw [HD.out.2.2.2.1]; exact hgc) hgm
        rw [HD.out.2.2.2.1] at zs5
        have hb5 := set_blk hbd 2 (.slice (some ⟨g, 0, none⟩) n vc)
        refine ⟨hb5, kd.at' (H5.out.1.at' HD.out.2.2.2.2.1 (fun h => h)) BD, zs5, H5.out.2.1.kept kd (fun q hq e => ?_), hd5, by have := kd.size; omega, (HD.out.2.2.2.2.2.1.trans H5.out.1 (fun _ h => .inl h)).trans kd (fun q e => .inr ?_), ?_, ?_⟩
        · have := (H5.out.2.2.2 q hq).2; omega
        · have := HB.out; have := HD.out.2.2.2.2.2.2.2.2; have := H5.out.2.2.1; omega
        · have := HB.out; have := HD.out.2.2.1; omega
        · have := HB.out; have := HD.out.2.2.2.2.2.2.2.2; have := H5.out.2.2.1; omega
      clear HD H5 hbd sz4 x0 x1 x2 x3 x4 v0 v1 v2 v3 v4 fz2 hltz
      generalize (w4.setCell ⟨D, 2, none⟩ (.slice (some ⟨g, 0, none⟩) n vc)) = w5 at *
      refine wp_region_held_drew (S := fun W => Kept No w5 W) (by kernel_rfl) (Kept.refl No w5).drew (fun hS => ?_)
      refine d_take 0 32 rfl rfl (by kernel_rfl) (by kernel_rfl) (by kernel_rfl) (fun _ _ _ h => h) rfl (fun w' hw' => er_ldC _ rfl D #[.int .i64 k, .int .i64 f, .slice (some ⟨g, 0, none⟩) n vc, .int .i64 ph, .int .i64 pe] rfl (hw'.at' H6.out.1 (fun h => h)) rfl) hS ?_
      simp only [Act.put, List.setIfInBounds_toArray, List.set_cons_zero, List.set_cons_succ]
      refine d_take 1 33 rfl rfl (by kernel_rfl) (by kernel_rfl) (by kernel_rfl) (fun _ _ _ h => h) rfl (fun w' hw' => er_mv _ rfl (.int .i64 t) rfl) hS ?_
      simp only [Act.put, List.setIfInBounds_toArray, List.set_cons_zero, List.set_cons_succ]
      refine d_take 3 35 rfl rfl (by kernel_rfl) (by kernel_rfl) (by kernel_rfl) (fun _ _ _ h => h) rfl (fun w' hw' => er_ldC _ rfl B #[.int .i64 k, .int .i64 f, .slice a n c, .int .i64 ph, .int .i64 pe] rfl (hw'.at' H6.out.2.1 (fun h => h)) rfl) hS ?_
      simp only [Act.put, List.setIfInBounds_toArray, List.set_cons_zero, List.set_cons_succ]
      refine d_take 4 36 rfl rfl (by kernel_rfl) (by kernel_rfl) (by kernel_rfl) (fun _ _ _ h => h) rfl (fun w' hw' => er_mv _ rfl (.int .i64 t) rfl) hS ?_
      simp only [Act.put, List.setIfInBounds_toArray, List.set_cons_zero, List.set_cons_succ]
      refine d_call (v := .bool (dueB k f ph pe t)) 2 34 (by kernel_rfl) rfl rfl rfl (ec_2 (enters_of Try.func6 (by kernel_rfl) rfl) _ _ _ _ rfl (.agg #[.int .i64 k, .int .i64 f, .slice (some ⟨g, 0, none⟩) n vc, .int .i64 ph, .int .i64 pe]) (.int .i64 t) rfl rfl) ((due_any k f ph pe t (some ⟨g, 0, none⟩) n vc _ H3.out.1 H3.out.2.1 H3.out.2.2).mono ?_) (fun w'1 hS1 => ?_)
      · rintro e w' ⟨rfl, hk⟩
        exact ⟨rfl, hS.trans hk (fun _ h => .inl h)⟩
      simp only [Act.put, List.setIfInBounds_toArray, List.set_cons_zero, List.set_cons_succ]
      refine d_call (v := .bool (dueB k f ph pe t)) 5 37 (by kernel_rfl) rfl rfl rfl (ec_2 (enters_of Try.func7 (by kernel_rfl) rfl) _ _ _ _ rfl (.agg #[.int .i64 k, .int .i64 f, .slice a n c, .int .i64 ph, .int .i64 pe]) (.int .i64 t) rfl rfl) ((rdue_any k f ph pe t a n c _ H3.out.1 H3.out.2.1 H3.out.2.2).mono ?_) (fun w'2 hS2 => ?_)
      · rintro e w' ⟨rfl, hk⟩
        exact ⟨rfl, hS1.trans hk (fun _ h => .inl h)⟩
      simp only [Act.put, List.setIfInBounds_toArray, List.set_cons_zero, List.set_cons_succ]
      refine d_take 6 38 rfl rfl (by kernel_rfl) (by kernel_rfl) (by kernel_rfl) (fun _ _ _ h => h) rfl (fun w' hw' => er_neB _ _ rfl (dueB k f ph pe t) (dueB k f ph pe t) false rfl rfl (by simp)) hS2 ?_
      simp only [Act.put, List.setIfInBounds_toArray, List.set_cons_zero, List.set_cons_succ]
      refine d_take 7 39 rfl rfl (by kernel_rfl) (by kernel_rfl) (by kernel_rfl) (fun _ _ _ h => h) rfl (fun w' hw' => er_mv _ rfl (.bool false) rfl) hS2 ?_
      simp only [Act.put, List.setIfInBounds_toArray, List.set_cons_zero, List.set_cons_succ]
      refine d_take 8 40 rfl rfl (by kernel_rfl) (by kernel_rfl) (by kernel_rfl) (fun _ _ _ h => h) rfl (fun w' hw' => er_ldC _ rfl D #[.int .i64 k, .int .i64 f, .slice (some ⟨g, 0, none⟩) n vc, .int .i64 ph, .int .i64 pe] rfl (hw'.at' H6.out.1 (fun h => h)) rfl) hS2 ?_
      simp only [Act.put, List.setIfInBounds_toArray, List.set_cons_zero, List.set_cons_succ]
      refine d_take 9 41 rfl rfl (by kernel_rfl) (by kernel_rfl) (by kernel_rfl) (fun _ _ _ h => h) rfl (fun w' hw' => er_mv _ rfl (.int .i64 t) rfl) hS2 ?_
      simp only [Act.put, List.setIfInBounds_toArray, List.set_cons_zero, List.set_cons_succ]
      refine d_take 11 43 rfl rfl (by kernel_rfl) (by kernel_rfl) (by kernel_rfl) (fun _ _ _ h => h) rfl (fun w' hw' => er_ldC _ rfl B #[.int .i64 k, .int .i64 f, .slice a n c, .int .i64 ph, .int .i64 pe] rfl (hw'.at' H6.out.2.1 (fun h => h)) rfl) hS2 ?_
      simp only [Act.put, List.setIfInBounds_toArray, List.set_cons_zero, List.set_cons_succ]
      refine d_take 12 44 rfl rfl (by kernel_rfl) (by kernel_rfl) (by kernel_rfl) (fun _ _ _ h => h) rfl (fun w' hw' => er_mv _ rfl (.int .i64 t) rfl) hS2 ?_
      simp only [Act.put, List.setIfInBounds_toArray, List.set_cons_zero, List.set_cons_succ]
      refine d_call (v := .int .i64 (nxtV k f ph pe t)) 10 42 (by kernel_rfl) rfl rfl rfl (ec_2 (enters_of Try.func8 (by kernel_rfl) rfl) _ _ _ _ rfl (.agg #[.int .i64 k, .int .i64 f, .slice (some ⟨g, 0, none⟩) n vc, .int .i64 ph, .int .i64 pe]) (.int .i64 t) rfl rfl) ((nxt_any k f ph pe t (some ⟨g, 0, none⟩) n vc _ H3.out.1 H3.out.2.1 H3.out.2.2).mono ?_) (fun w'3 hS3 => ?_)
      · rintro e w' ⟨rfl, hk⟩
        exact ⟨rfl, hS2.trans hk (fun _ h => .inl h)⟩
      simp only [Act.put, List.setIfInBounds_toArray, List.set_cons_zero, List.set_cons_succ]
      refine d_call (v := .int .i64 (nxtV k f ph pe t)) 13 45 (by kernel_rfl) rfl rfl rfl (ec_2 (enters_of Try.func9 (by kernel_rfl) rfl) _ _ _ _ rfl (.agg #[.int .i64 k, .int .i64 f, .slice a n c, .int .i64 ph, .int .i64 pe]) (.int .i64 t) rfl rfl) ((rnxt_any k f ph pe t a n c _ H3.out.1 H3.out.2.1 H3.out.2.2).mono ?_) (fun w'4 hS4 => ?_)
      · rintro e w' ⟨rfl, hk⟩
        exact ⟨rfl, hS3.trans hk (fun _ h => .inl h)⟩
      simp only [Act.put, List.setIfInBounds_toArray, List.set_cons_zero, List.set_cons_succ]
      refine d_take 14 46 rfl rfl (by kernel_rfl) (by kernel_rfl) (by kernel_rfl) (fun _ _ _ h => h) rfl (fun w' hw' => er_neI _ _ rfl (nxtV k f ph pe t) (nxtV k f ph pe t) false rfl rfl (by simp)) hS4 ?_
      simp only [Act.put, List.setIfInBounds_toArray, List.set_cons_zero, List.set_cons_succ]
      refine d_take 15 47 rfl rfl (by kernel_rfl) (by kernel_rfl) (by kernel_rfl) (fun _ _ _ h => h) rfl (fun w' hw' => er_pk _ _ _ rfl false (.bool false) rfl rfl) hS4 ?_
      simp only [Act.put, List.setIfInBounds_toArray, List.set_cons_zero, List.set_cons_succ]
      refine d_take 16 48 rfl rfl (by kernel_rfl) (by kernel_rfl) (by kernel_rfl) (fun _ _ _ h => h) rfl (fun w' hw' => er_mv _ rfl (.bool false) rfl) hS4 ?_
      simp only [Act.put, List.setIfInBounds_toArray, List.set_cons_zero, List.set_cons_succ]
      refine d_take 17 49 rfl rfl (by kernel_rfl) (by kernel_rfl) (by kernel_rfl) (fun _ _ _ h => h) rfl (fun w' hw' => er_mv _ rfl (.slice (some ⟨g, 0, none⟩) (n + 8) vc) rfl) hS4 ?_
      simp only [Act.put, List.setIfInBounds_toArray, List.set_cons_zero, List.set_cons_succ]
      refine d_take 18 50 rfl rfl (by kernel_rfl) (by kernel_rfl) (by kernel_rfl) (fun _ _ _ h => h) rfl (fun w' hw' => er_mv _ rfl (.slice ya (n + 8) yc) rfl) hS4 ?_
      simp only [Act.put, List.setIfInBounds_toArray, List.set_cons_zero, List.set_cons_succ]
      refine d_call (v := .bool true) 19 51 (by kernel_rfl) rfl rfl rfl (ec_2 (enters_of Try.func10 (by kernel_rfl) rfl) _ _ _ _ rfl (.slice (some ⟨g, 0, none⟩) (n + 8) vc) (.slice ya (n + 8) yc) rfl rfl) ((sameEq _ (H6.out.2.2.1.kept hS4 (fun _ _ h => h)) (H6.out.2.2.2.1.kept hS4 (fun _ _ h => h))).mono ?_) (fun w'5 hS5 => ?_)
      · rintro e w' ⟨rfl, hk⟩
        exact ⟨rfl, hS4.trans hk (fun _ h => .inl h)⟩
      simp only [Act.put, List.setIfInBounds_toArray, List.set_cons_zero, List.set_cons_succ]
      refine d_take 20 52 rfl rfl (by kernel_rfl) (by kernel_rfl) (by kernel_rfl) (fun _ _ _ h => h) rfl (fun w' hw' => er_not _ rfl true rfl) hS5 ?_
      simp only [Act.put, List.setIfInBounds_toArray, List.set_cons_zero, List.set_cons_succ]
      refine d_take 21 53 rfl rfl (by kernel_rfl) (by kernel_rfl) (by kernel_rfl) (fun _ _ _ h => h) rfl (fun w' hw' => er_pk _ _ _ rfl false (.bool false) rfl rfl) hS5 ?_
      simp only [Act.put, List.setIfInBounds_toArray, List.set_cons_zero, List.set_cons_succ]
      refine wpAnyH_done (by kernel_rfl) ?_ _
      have H7 : Hid (Hd w'5 g ys ∧ ys.length = n + 8 ∧ w'5.heap[D]? = some (.cells #[.int .i64 k, .int .i64 f, .slice (some ⟨g, 0, none⟩) n vc, .int .i64 ph, .int .i64 pe] 24) ∧ w'5.heap[B]? = some (.cells #[.int .i64 k, .int .i64 f, .slice a n c, .int .i64 ph, .int .i64 pe] 24) ∧ Kept No w w'5 ∧ g < w'5.heap.size ∧ w.heap.size ≤ g ∧ w.heap.size ≤ D ∧ g ≠ D ∧ B ≠ D ∧ g ≠ B) := ⟨H6.out.2.2.2.2.1.kept hS5 (fun h => h) H6.out.2.2.2.2.2.1, H6.out.2.2.1.len, hS5.at' H6.out.1 (fun h => h), hS5.at' H6.out.2.1 (fun h => h), H6.out.2.2.2.2.2.2.1.trans hS5 (fun _ h => .inl h), (by have := hS5.size; have := H6.out.2.2.2.2.2.1; omega), H6.out.2.2.2.2.2.2.2.1, H6.out.2.2.2.2.2.2.2.2, gD, BD, GB⟩
      clear H6 hS hS1 hS2 hS3 hS4 hS5
      go_wp2
      go_loopw [9] (fun i wr => ∃ (j : Nat) (zs : List Int), j ≤ n ∧ i = .int .i64 j ∧ Hd wr g zs ∧ zs.length = n + 8 ∧ wr.heap[D]? = some (.cells #[.int .i64 k, .int .i64 f, .slice (some ⟨g, 0, none⟩) n vc, .int .i64 ph, .int .i64 pe] 24) ∧ wr.heap[B]? = some (.cells #[.int .i64 k, .int .i64 f, .slice a n c, .int .i64 ph, .int .i64 pe] 24) ∧ Kept No w wr ∧ g < wr.heap.size) (fun i _ => n - (intOf i).toNat)
      case atStart => exact ⟨0, ys, by omega, rfl, H7.out.1, H7.out.2.1, H7.out.2.2.1, H7.out.2.2.2.1, H7.out.2.2.2.2.1, H7.out.2.2.2.2.2.1⟩
      case round =>
        obtain ⟨j, zs, hj, rfl, hd, hzl, hbD, hbB, K, hgl⟩ := hrel
        obtain ⟨y0, y1, y2, y3, y4⟩ := five hbB
        by_cases hlt : j < n
        · have hjz : j < zs.length := by omega
          have dc := hd.cell hjz
          have fz : wr.frozen? ⟨g, j, none⟩ = false := by have := (hd j (by simpa using hjz)).2; rwa [Nat.zero_add] at this
          have hltz : (j : Int) < (n : Int) := by omega
          have HR : Hid (∀ v : Int, ∃ (j' : Nat) (zs' : List Int), j' ≤ n ∧ Value.int .i64 ((j : Int) + 1) = .int .i64 j' ∧ Hd (wr.setCell ⟨g, j, none⟩ (.int .i64 v)) g zs' ∧ zs'.length = n + 8 ∧ (wr.setCell ⟨g, j, none⟩ (.int .i64 v)).heap[D]? = some (.cells #[.int .i64 k, .int .i64 f, .slice (some ⟨g, 0, none⟩) n vc, .int .i64 ph, .int .i64 pe] 24) ∧ (wr.setCell ⟨g, j, none⟩ (.int .i64 v)).heap[B]? = some (.cells #[.int .i64 k, .int .i64 f, .slice a n c, .int .i64 ph, .int .i64 pe] 24) ∧ Kept No w (wr.setCell ⟨g, j, none⟩ (.int .i64 v)) ∧ g < (wr.setCell ⟨g, j, none⟩ (.int .i64 v)).heap.size) := fun v => by
            have kg := (Kept.refl (fun q => q = g) wr).setCell (p := ⟨g, j, none⟩) (.inl rfl) (Value.int .i64 v)
            exact ⟨j + 1, zs.set j v, by omega, by simp, hd.set hjz v, by simpa using hzl, kg.at' hbD (fun e => H7.out.2.2.2.2.2.2.2.2.1 e.symm), kg.at' hbB (fun e => H7.out.2.2.2.2.2.2.2.2.2.2 e.symm), K.trans kg (fun q e => .inr (by have := H7.out.2.2.2.2.2.2.1; omega)), by have := kg.size; omega⟩
          generalize zs.getD j 0 = Z at *
          clear hd hbD hbB K hgl hjz
          go_wp2
          go_roundw
          case rel => exact HR.out _
          case measure => simp [intOf]; omega
        · have hjn : j = n := by omega
          subst hjn
          have hltz : ¬ (j : Int) < (j : Int) := by omega
          obtain ⟨u0, u1, u2, u3, u4⟩ := five hbD
          have fz3 := fz_blk hbD 3
          obtain ⟨X, hX⟩ : ∃ X, X = bits .xor .i64 ph 1 := ⟨_, rfl⟩
          have HX : Hid (I64 X) := by rw [hX]; exact bits_I64 _ _ _
          go_upto_region 17 with fail
          rw [← hX]
          clear hX
          have H8 : Hid ((wr.setCell ⟨D, 3, none⟩ (.int .i64 X)).heap[D]? = some (.cells #[.int .i64 k, .int .i64 f, .slice (some ⟨g, 0, none⟩) j vc, .int .i64 X, .int .i64 pe] 24) ∧ (wr.setCell ⟨D, 3, none⟩ (.int .i64 X)).heap[B]? = some (.cells #[.int .i64 k, .int .i64 f, .slice a j c, .int .i64 ph, .int .i64 pe] 24) ∧ Hd (wr.setCell ⟨D, 3, none⟩ (.int .i64 X)) g zs ∧ Kept No w (wr.setCell ⟨D, 3, none⟩ (.int .i64 X)) ∧ g < (wr.setCell ⟨D, 3, none⟩ (.int .i64 X)).heap.size) := by
            have kd : Kept (fun q => q = D) wr (wr.setCell ⟨D, 3, none⟩ (.int .i64 X)) := (Kept.refl (fun q => q = D) wr).setCell (p := ⟨D, 3, none⟩) (.inl rfl) _
            have hb5 := set_blk hbD 3 (.int .i64 X)
            exact ⟨hb5, kd.at' hbB H7.out.2.2.2.2.2.2.2.2.2.1, hd.kept kd H7.out.2.2.2.2.2.2.2.2.1 hgl, K.trans kd (fun q e => .inr (by have := H7.out.2.2.2.2.2.2.2.1; omega)), by have := kd.size; omega⟩
          have Hzl := hid hzl
          clear hd hbD hbB K hgl u0 u1 u2 u3 u4 fz3 y0 y1 y2 y3 y4 H7 hltz hzl
          generalize (wr.setCell ⟨D, 3, none⟩ (.int .i64 X)) = w6 at *
          obtain ⟨y0, y1, y2, y3, y4⟩ := five H8.out.2.1
          go_upto_region 18 with fail
          have hbE := alloc_new w6 (.cells #[.int .i64 k, .int .i64 f, .slice a j c, .int .i64 ph, .int .i64 pe] 24)
          have k7 : Kept No w6 (w6.alloc (.cells #[.int .i64 k, .int .i64 f, .slice a j c, .int .i64 ph, .int .i64 pe] 24)) := (Kept.refl No w6).alloc _
          have H9 : Hid ((w6.alloc (.cells #[.int .i64 k, .int .i64 f, .slice a j c, .int .i64 ph, .int .i64 pe] 24)).heap[D]? = some (.cells #[.int .i64 k, .int .i64 f, .slice (some ⟨g, 0, none⟩) j vc, .int .i64 X, .int .i64 pe] 24) ∧ (w6.alloc (.cells #[.int .i64 k, .int .i64 f, .slice a j c, .int .i64 ph, .int .i64 pe] 24)).heap[w6.heap.size]? = some (.cells #[.int .i64 k, .int .i64 f, .slice a j c, .int .i64 ph, .int .i64 pe] 24) ∧ Hd (w6.alloc (.cells #[.int .i64 k, .int .i64 f, .slice a j c, .int .i64 ph, .int .i64 pe] 24)) g zs ∧ Kept No w (w6.alloc (.cells #[.int .i64 k, .int .i64 f, .slice a j c, .int .i64 ph, .int .i64 pe] 24)) ∧ g < (w6.alloc (.cells #[.int .i64 k, .int .i64 f, .slice a j c, .int .i64 ph, .int .i64 pe] 24)).heap.size ∧ g < w6.heap.size ∧ D < w6.heap.size ∧ w.heap.size ≤ w6.heap.size) := ⟨k7.at' H8.out.1 (fun h => h), hbE, H8.out.2.2.1.kept k7 (fun h => h) H8.out.2.2.2.2, H8.out.2.2.2.1.trans k7 (fun _ h => .inl h), by have := k7.size; have := H8.out.2.2.2.2; omega, H8.out.2.2.2.2, heap_lt H8.out.1, H8.out.2.2.2.1.size⟩
          clear k7 hbE H8 y0 y1 y2 y3 y4
          generalize w6.alloc (.cells #[.int .i64 k, .int .i64 f, .slice a j c, .int .i64 ph, .int .i64 pe] 24) = w7 at *
          generalize w6.heap.size = E at *
          obtain ⟨u0, u1, u2, u3, u4⟩ := five H9.out.1
          obtain ⟨y0, y1, y2, y3, y4⟩ := five H9.out.2.1
          have fz3 := fz_blk H9.out.2.1 3
          go_upto_region 19 with fail
          have H10 : Hid ((w7.setCell ⟨E, 3, none⟩ (.int .i64 X)).heap[D]? = some (.cells #[.int .i64 k, .int .i64 f, .slice (some ⟨g, 0, none⟩) j vc, .int .i64 X, .int .i64 pe] 24) ∧ (w7.setCell ⟨E, 3, none⟩ (.int .i64 X)).heap[E]? = some (.cells #[.int .i64 k, .int .i64 f, .slice a j c, .int .i64 X, .int .i64 pe] 24) ∧ Hd (w7.setCell ⟨E, 3, none⟩ (.int .i64 X)) g zs ∧ Kept No w (w7.setCell ⟨E, 3, none⟩ (.int .i64 X)) ∧ g < (w7.setCell ⟨E, 3, none⟩ (.int .i64 X)).heap.size ∧ g < E ∧ D < E ∧ E < (w7.setCell ⟨E, 3, none⟩ (.int .i64 X)).heap.size) := by
            have kd : Kept (fun q => q = E) w7 (w7.setCell ⟨E, 3, none⟩ (.int .i64 X)) := (Kept.refl (fun q => q = E) w7).setCell (p := ⟨E, 3, none⟩) (.inl rfl) _
            have hb5 := set_blk H9.out.2.1 3 (.int .i64 X)
            exact ⟨kd.at' H9.out.1 (by have := H9.out.2.2.2.2.2.2.1; omega), hb5, H9.out.2.2.1.kept kd (by have := H9.out.2.2.2.2.2.1; omega) H9.out.2.2.2.2.1, H9.out.2.2.2.1.trans kd (fun q e => .inr (by have := H9.out.2.2.2.2.2.2.2; omega)), by have := kd.size; have := H9.out.2.2.2.2.1; omega, H9.out.2.2.2.2.2.1, H9.out.2.2.2.2.2.2.1, heap_lt hb5⟩
          have hEw := H9.out.2.2.2.2.2.2.2
          clear H9 u0 u1 u2 u3 u4 y0 y1 y2 y3 y4 fz3
          generalize (w7.setCell ⟨E, 3, none⟩ (.int .i64 X)) = w8 at *
          have kl : Kept No w8 (w8.alloc (.cells #[] 3)) := (Kept.refl No w8).alloc _
          have zsA : Zs (w8.alloc (.cells #[] 3)) (fun q => q = g) (some ⟨g, 0, none⟩) j vc (zs.take j) := by
            have e : zs.take j ++ zs.drop j = zs := List.take_append_drop j zs
            have h0 : Hd w8 g (zs.take j ++ zs.drop j) := by rw [e]; exact H10.out.2.2.1
            have lj : (zs.take j).length = j := by rw [List.length_take, Hzl.out]; omega
            have h := (h0.take.kept kl (fun h => h) H10.out.2.2.2.2.1).zs (cap := vc) (by rw [lj]; omega) hgm
            rw [lj] at h
            exact h
          have hv := zsA.vs
          have hwz : w8.heap.size ≤ (w8.alloc (.cells #[] 3)).heap.size := by simp
          have lD := five (kl.at' H10.out.1 (fun h => h))
          obtain ⟨u0, u1, u2, u3, u4⟩ := lD
          have E19 : Hid (∀ (za : Option Addr) (zc : Nat) (w9 : World), Kept (fun q => (Value.slice (some ⟨w8.heap.size, 0, none⟩) 0 0).ownBlock = some q) (w8.alloc (.cells #[] 3)) w9 → Kept No w8 w9) := fun za zc w9 k9 => kl.trans k9 (fun q e => .inr (by injection e with e; exact Nat.le_of_eq e))
          go_upto_region 20 with (at_builtin; refine wpList_cpv rfl _ _ 22 3 rfl _ 8 Try.underlying22 Try.infoI rfl w8.heap.size _ rfl (owns_lit0 w8 _) hwz _ j vc rfl _ _ hv (iv_one (zs.take j)) (by omega) ?_; intro za zc w9 o9 k9; have K9 := hid (E19.out za zc w9 k9.out); obtain ⟨y0, y1, y2, y3, y4⟩ := five (K9.out.at' H10.out.2.1 (fun h => h)); have fz2 := fz_blk (K9.out.at' H10.out.2.1 (fun h => h)) 2)
          have H11 : Hid ((w9.setCell ⟨E, 2, none⟩ (.slice za j zc)).heap[D]? = some (.cells #[.int .i64 k, .int .i64 f, .slice (some ⟨g, 0, none⟩) j vc, .int .i64 X, .int .i64 pe] 24) ∧ (w9.setCell ⟨E, 2, none⟩ (.slice za j zc)).heap[E]? = some (.cells #[.int .i64 k, .int .i64 f, .slice za j zc, .int .i64 X, .int .i64 pe] 24) ∧ Kept No w (w9.setCell ⟨E, 2, none⟩ (.slice za j zc))) := by
            have kd : Kept (fun q => q = E) w9 (w9.setCell ⟨E, 2, none⟩ (.slice za j zc)) := (Kept.refl (fun q => q = E) w9).setCell (p := ⟨E, 2, none⟩) (.inl rfl) _
            have hb5 := set_blk (K9.out.at' H10.out.2.1 (fun h => h)) 2 (.slice za j zc)
            exact ⟨kd.at' (K9.out.at' H10.out.1 (fun h => h)) (by have := H10.out.2.2.2.2.2.2.1; omega), hb5, (H10.out.2.2.2.1.trans K9.out (fun _ h => .inl h)).trans kd (fun q e => .inr (by omega))⟩
          clear H10 K9 o9 k9 y0 y1 y2 y3 y4 fz2 u0 u1 u2 u3 u4 hv zsA hwz E19 kl
          generalize (w9.setCell ⟨E, 2, none⟩ (.slice za j zc)) = w10 at *
          refine wp_region_held_drew (S := fun W => Kept No w10 W) (by kernel_rfl) (Kept.refl No w10).drew (fun hS => ?_)
          refine d_take 0 82 rfl rfl (by kernel_rfl) (by kernel_rfl) (by kernel_rfl) (fun _ _ _ h => h) rfl (fun w' hw' => er_ldC _ rfl D #[.int .i64 k, .int .i64 f, .slice (some ⟨g, 0, none⟩) j vc, .int .i64 X, .int .i64 pe] rfl (hw'.at' H11.out.1 (fun h => h)) rfl) hS ?_
          simp only [Act.put, List.setIfInBounds_toArray, List.set_cons_zero, List.set_cons_succ]
          refine d_take 1 83 rfl rfl (by kernel_rfl) (by kernel_rfl) (by kernel_rfl) (fun _ _ _ h => h) rfl (fun w' hw' => er_mv _ rfl (.int .i64 t) rfl) hS ?_
          simp only [Act.put, List.setIfInBounds_toArray, List.set_cons_zero, List.set_cons_succ]
          refine d_take 3 85 rfl rfl (by kernel_rfl) (by kernel_rfl) (by kernel_rfl) (fun _ _ _ h => h) rfl (fun w' hw' => er_ldC _ rfl E #[.int .i64 k, .int .i64 f, .slice za j zc, .int .i64 X, .int .i64 pe] rfl (hw'.at' H11.out.2.1 (fun h => h)) rfl) hS ?_
          simp only [Act.put, List.setIfInBounds_toArray, List.set_cons_zero, List.set_cons_succ]
          refine d_take 4 86 rfl rfl (by kernel_rfl) (by kernel_rfl) (by kernel_rfl) (fun _ _ _ h => h) rfl (fun w' hw' => er_mv _ rfl (.int .i64 t) rfl) hS ?_
          simp only [Act.put, List.setIfInBounds_toArray, List.set_cons_zero, List.set_cons_succ]
          refine d_call (v := .bool (dueB k f X pe t)) 2 84 (by kernel_rfl) rfl rfl rfl (ec_2 (enters_of Try.func6 (by kernel_rfl) rfl) _ _ _ _ rfl (.agg #[.int .i64 k, .int .i64 f, .slice (some ⟨g, 0, none⟩) j vc, .int .i64 X, .int .i64 pe]) (.int .i64 t) rfl rfl) ((due_any k f X pe t (some ⟨g, 0, none⟩) j vc _ HX.out H3.out.2.1 H3.out.2.2).mono ?_) (fun w'1 hS1 => ?_)
          · rintro e w' ⟨rfl, hk⟩
            exact ⟨rfl, hS.trans hk (fun _ h => .inl h)⟩
          simp only [Act.put, List.setIfInBounds_toArray, List.set_cons_zero, List.set_cons_succ]
          refine d_call (v := .bool (dueB k f X pe t)) 5 87 (by kernel_rfl) rfl rfl rfl (ec_2 (enters_of Try.func7 (by kernel_rfl) rfl) _ _ _ _ rfl (.agg #[.int .i64 k, .int .i64 f, .slice za j zc, .int .i64 X, .int .i64 pe]) (.int .i64 t) rfl rfl) ((rdue_any k f X pe t za j zc _ HX.out H3.out.2.1 H3.out.2.2).mono ?_) (fun w'2 hS2 => ?_)
          · rintro e w' ⟨rfl, hk⟩
            exact ⟨rfl, hS1.trans hk (fun _ h => .inl h)⟩
          simp only [Act.put, List.setIfInBounds_toArray, List.set_cons_zero, List.set_cons_succ]
          refine d_take 6 88 rfl rfl (by kernel_rfl) (by kernel_rfl) (by kernel_rfl) (fun _ _ _ h => h) rfl (fun w' hw' => er_eqB _ _ rfl (dueB k f X pe t) (dueB k f X pe t) true rfl rfl (by simp)) hS2 ?_
          simp only [Act.put, List.setIfInBounds_toArray, List.set_cons_zero, List.set_cons_succ]
          refine d_take 7 89 rfl rfl (by kernel_rfl) (by kernel_rfl) (by kernel_rfl) (fun _ _ _ h => h) rfl (fun w' hw' => er_mv _ rfl (.bool true) rfl) hS2 ?_
          simp only [Act.put, List.setIfInBounds_toArray, List.set_cons_zero, List.set_cons_succ]
          refine d_take 8 90 rfl rfl (by kernel_rfl) (by kernel_rfl) (by kernel_rfl) (fun _ _ _ h => h) rfl (fun w' hw' => er_ldC _ rfl D #[.int .i64 k, .int .i64 f, .slice (some ⟨g, 0, none⟩) j vc, .int .i64 X, .int .i64 pe] rfl (hw'.at' H11.out.1 (fun h => h)) rfl) hS2 ?_
          simp only [Act.put, List.setIfInBounds_toArray, List.set_cons_zero, List.set_cons_succ]
          refine d_take 9 91 rfl rfl (by kernel_rfl) (by kernel_rfl) (by kernel_rfl) (fun _ _ _ h => h) rfl (fun w' hw' => er_mv _ rfl (.int .i64 t) rfl) hS2 ?_
          simp only [Act.put, List.setIfInBounds_toArray, List.set_cons_zero, List.set_cons_succ]
          refine d_take 11 93 rfl rfl (by kernel_rfl) (by kernel_rfl) (by kernel_rfl) (fun _ _ _ h => h) rfl (fun w' hw' => er_ldC _ rfl E #[.int .i64 k, .int .i64 f, .slice za j zc, .int .i64 X, .int .i64 pe] rfl (hw'.at' H11.out.2.1 (fun h => h)) rfl) hS2 ?_
          simp only [Act.put, List.setIfInBounds_toArray, List.set_cons_zero, List.set_cons_succ]
          refine d_take 12 94 rfl rfl (by kernel_rfl) (by kernel_rfl) (by kernel_rfl) (fun _ _ _ h => h) rfl (fun w' hw' => er_mv _ rfl (.int .i64 t) rfl) hS2 ?_
          simp only [Act.put, List.setIfInBounds_toArray, List.set_cons_zero, List.set_cons_succ]
          refine d_call (v := .int .i64 (nxtV k f X pe t)) 10 92 (by kernel_rfl) rfl rfl rfl (ec_2 (enters_of Try.func8 (by kernel_rfl) rfl) _ _ _ _ rfl (.agg #[.int .i64 k, .int .i64 f, .slice (some ⟨g, 0, none⟩) j vc, .int .i64 X, .int .i64 pe]) (.int .i64 t) rfl rfl) ((nxt_any k f X pe t (some ⟨g, 0, none⟩) j vc _ HX.out H3.out.2.1 H3.out.2.2).mono ?_) (fun w'3 hS3 => ?_)
          · rintro e w' ⟨rfl, hk⟩
            exact ⟨rfl, hS2.trans hk (fun _ h => .inl h)⟩
          simp only [Act.put, List.setIfInBounds_toArray, List.set_cons_zero, List.set_cons_succ]
          refine d_call (v := .int .i64 (nxtV k f X pe t)) 13 95 (by kernel_rfl) rfl rfl rfl (ec_2 (enters_of Try.func9 (by kernel_rfl) rfl) _ _ _ _ rfl (.agg #[.int .i64 k, .int .i64 f, .slice za j zc, .int .i64 X, .int .i64 pe]) (.int .i64 t) rfl rfl) ((rnxt_any k f X pe t za j zc _ HX.out H3.out.2.1 H3.out.2.2).mono ?_) (fun w'4 hS4 => ?_)
          · rintro e w' ⟨rfl, hk⟩
            exact ⟨rfl, hS3.trans hk (fun _ h => .inl h)⟩
          simp only [Act.put, List.setIfInBounds_toArray, List.set_cons_zero, List.set_cons_succ]
          refine d_take 14 96 rfl rfl (by kernel_rfl) (by kernel_rfl) (by kernel_rfl) (fun _ _ _ h => h) rfl (fun w' hw' => er_eqI _ _ rfl (nxtV k f X pe t) (nxtV k f X pe t) true rfl rfl (by simp)) hS4 ?_
          simp only [Act.put, List.setIfInBounds_toArray, List.set_cons_zero, List.set_cons_succ]
          refine d_take 15 97 rfl rfl (by kernel_rfl) (by kernel_rfl) (by kernel_rfl) (fun _ _ _ h => h) rfl (fun w' hw' => er_pk _ _ _ rfl true (.bool true) rfl rfl) hS4 ?_
          simp only [Act.put, List.setIfInBounds_toArray, List.set_cons_zero, List.set_cons_succ]
          refine d_take 16 4 rfl rfl (by kernel_rfl) (by kernel_rfl) (by kernel_rfl) (fun _ _ _ h => h) rfl (fun w' hw' => er_as _ rfl (.bool true) rfl) hS4 ?_
          simp only [Act.put, List.setIfInBounds_toArray, List.set_cons_zero, List.set_cons_succ]
          refine wpAnyH_done (by kernel_rfl) ?_ _
          have HF := hid (H11.out.2.2.trans hS4 (fun _ h => .inl h))
          clear hS hS1 hS2 hS3 hS4 H11
          go_wp2
          go_ret
          exact ⟨rfl, HF.out⟩
end Go.Proofs.Ytnoiehlbohmnlaa
