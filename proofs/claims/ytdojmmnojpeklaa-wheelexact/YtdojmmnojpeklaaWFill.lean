/-
  The statements' own calls: filled, may. Slices of timers that are read.
-/
import Derived.Test.YtdojmmnojpeklaaWSort
namespace Go.Proofs.Ytdojmmnojpeklaa
open Go.RowKit
set_option linter.unusedVariables false

/-- a slice of timers that is read; it lies in F -/
structure Fs (w : World) (F : Nat → Prop) (a : Option Addr) (n c : Nat) (xs : List Fi) : Prop where
  len : xs.length = n
  cap : n ≤ c
  max : c ≤ 9223372036854775807
  i6 : ∀ x, x ∈ xs → I6 x.t ∧ I6 x.i
  at' : ∀ i x, xs[i]? = some x → ∃ g o, a = some ⟨g, o, none⟩ ∧ F g ∧ w.cell? ⟨g, o + i * 2, none⟩ = some (.int .i64 x.t) ∧ w.cell? ⟨g, o + i * 2 + 1, none⟩ = some (.int .i64 x.i)
theorem Fs.kept {w w' : World} {F G : Nat → Prop} {a : Option Addr} {n c : Nat} {xs : List Fi} (h : Fs w F a n c xs) (k : Kept G w w') (hG : ∀ j, F j → ¬ G j) : Fs w' F a n c xs :=
  ⟨h.len, h.cap, h.max, h.i6, fun i x hx => by
    obtain ⟨g, o, e, hg, h1, h2⟩ := h.at' i x hx
    exact ⟨g, o, e, hg, k.cell h1 (hG g hg), k.cell h2 (hG g hg)⟩⟩
theorem Fs.below {w w' : World} {F : Nat → Prop} {a : Option Addr} {n c : Nat} {xs : List Fi} (h : Fs w F a n c xs) (k : Below w.heap.size w w') : Fs w' F a n c xs := h.kept (Kept.of_below (F := No) k) (fun _ _ h => h)

instance (n : Nat) (x : Fi) : Decidable (Ok n x) := by unfold Ok; exact inferInstance
/-- one arming -/
def armF (n : Nat) (L : List Fi) (x : Fi) : List Fi := if Ok n x then ins x (rem x.i L) else L
def armL (n : Nat) (xs : List Fi) : List Fi := xs.foldl (armF n) []
theorem armL_snoc (n : Nat) (xs : List Fi) (x : Fi) : armL n (xs ++ [x]) = armF n (armL n xs) x := by unfold armL; rw [List.foldl_append]; rfl
theorem arm_wh {w : World} {F : Nat → Prop} {b n : Nat} {L : List Fi} (h : Wh w F b n L) (x : Fi) : Calls Try.prog 9 #[.pointer (some ⟨b, 0, none⟩), .int .i64 x.i, .int .i64 x.t] w fun ex w' => ex = .returned (.int .i64 (if Ok n x then 0 else 2)) ∧ ∃ F', Wh w' F' b n (armF n L x) ∧ Kept F w w' ∧ ∀ k, F' k → F k ∨ w.heap.size ≤ k := by
  unfold armF
  by_cases e : Ok n x
  · rw [if_pos e, if_pos e]
    exact arm_yes h x e
  · rw [if_neg e, if_neg e]
    refine (arm_no h x.i x.t (by unfold Ok at e; omega)).mono ?_
    rintro ex w' ⟨rfl, rfl⟩
    exact ⟨rfl, F, h, Kept.refl _ _, fun k hk => .inl hk⟩
section
variable {o : Oper} {a : Act} {w : World}
theorem er_idx22 (x y : Operand) (ho : o.op = .indexAddr 22 x y) (g off n c d : Nat) (hd : d < n) (hn : n ≤ 9223372036854775807) (hx : a.eval x = .slice (some ⟨g, off, none⟩) n c) (hy : a.eval y = .int .i64 d) : (execOp a.eval o).run Try.prog w = .ok (.value (.pointer (some ⟨g, off + d * 2, none⟩))) w := by
  simp only [execOp, ho, hx, hy]
  simp [go_sem, add_none]
  omega
theorem er_g32_0 (x : Operand) (ho : o.op = .fieldAddr 32 x 0) (g off : Nat) (hx : a.eval x = .pointer (some ⟨g, off, none⟩)) : (execOp a.eval o).run Try.prog w = .ok (.value (.pointer (some ⟨g, off, none⟩))) w := by simp only [execOp, ho, hx]; simp [go_sem]
theorem er_g32_1 (x : Operand) (ho : o.op = .fieldAddr 32 x 1) (g off : Nat) (hx : a.eval x = .pointer (some ⟨g, off, none⟩)) : (execOp a.eval o).run Try.prog w = .ok (.value (.pointer (some ⟨g, off + 1, none⟩))) w := by simp only [execOp, ho, hx]; simp [go_sem, add_none]
theorem er_call_arm (x0 x1 x2 : Operand) (ts : Array TypeId) (ho : o.op = .call { callee := .value (.func 9), args := #[x0, x1, x2], argTypes := ts }) : (execOp a.eval o).run Try.prog w = .ok (.enter 9 #[a.eval x0, a.eval x1, a.eval x2]) w := by
  simp [execOp, ho, go_sem, Act.eval]
end

theorem filled_no (x : Int) (hx : x < 0 ∨ x > 1099511627776) (p : Option Addr) (n c : Nat) (w : World) : Calls Try.prog 6 #[.int .i64 x, .slice p n c] w fun ex w' => ex = .returned (.pointer none) ∧ w' = w := by
  have cN := new_no x hx w
  clear hx
  go_enter Try.func6, Try.ntmps6
  go_wp2_with (go_at_call 18; refine cN.mono ?_; rintro ex w2 ⟨rfl, hw2⟩; obtain rfl := hw2.symm)
  go_ret
  exact ⟨rfl, rfl⟩
set_option maxHeartbeats 1000000 in
set_option maxRecDepth 100000 in
theorem filled_yes (now : Nat) (hn : now ≤ 1099511627776) (G : Nat → Prop) (p : Option Addr) (n c : Nat) (xs : List Fi) (w : World) (hx : Fs w G p n c xs) (hG : ∀ k, G k → k < w.heap.size) : Calls Try.prog 6 #[.int .i64 now, .slice p n c] w fun ex w' => ∃ b, ex = .returned (.pointer (some ⟨b, 0, none⟩)) ∧ Wh w' (fun k => w.heap.size ≤ k) b now (armL now xs) ∧ Below w.heap.size w w' := by
  have cN := new_wh now hn w
  have HX : Hid (Fs w G p n c xs) := hx
  have HG : Hid (∀ k, G k → k < w.heap.size) := hG
  have hcap := hx.cap
  have hmax := hx.max
  have HL : Hid (xs.length = n) := hx.len
  clear hx hG
  go_enter Try.func6, Try.ntmps6
  go_upto_region 2 with (go_at_call 18; refine cN.mono ?_; rintro ex w2 ⟨b, rfl, hW, hB⟩)
  have HW : Hid (Wh w2 (fun k => w.heap.size ≤ k) b now []) := hW
  have HB : Hid (Below w.heap.size w w2) := hB
  clear hW hB cN
  go_wp2
  go_loopw [7] (fun d wr => ∃ (j : Nat), j ≤ n ∧ d = .int .i64 j ∧ Wh wr (fun k => w.heap.size ≤ k) b now (armL now (xs.take j)) ∧ Below w.heap.size w wr) (fun d _ => n - (intOf d).toNat)
  case atStart => exact ⟨0, Nat.zero_le _, rfl, HW.out, HB.out⟩
  case round =>
    obtain ⟨j, hj, rfl, hW, hB⟩ := hrel
    clear HW HB
    have HW : Hid (Wh wr (fun k => w.heap.size ≤ k) b now (armL now (xs.take j))) := hW
    have HB : Hid (Below w.heap.size w wr) := hB
    clear hW hB
    by_cases hlt : j < n
    · obtain ⟨x, hx⟩ : ∃ x, xs[j]? = some x := ⟨_, List.getElem?_eq_getElem (by rw [HL.out]; exact hlt)⟩
      have hF := HX.out.below HB.out
      obtain ⟨g, o, rfl, hg, h1, h2⟩ := hF.at' j x hx
      have HF : Hid (∀ w', Below w.heap.size w w' → w'.cell? ⟨g, o + j * 2, none⟩ = some (.int .i64 x.t) ∧ w'.cell? ⟨g, o + j * 2 + 1, none⟩ = some (.int .i64 x.i)) := (fun w' hb => by
        obtain ⟨g', o', e, _, h1, h2⟩ := (HX.out.below hb).at' j x hx
        injection e with e
        injection e with e1 e2 _
        subst e1 e2
        exact ⟨h1, h2⟩)
      have HT : Hid (armF now (armL now (xs.take j)) x = armL now (xs.take (j + 1))) := (show _ = _ by rw [List.take_add_one, hx, ← armL_snoc]; rfl)
      clear hx hF hg h1 h2
      go_upto_region 7 with fail
      try simp only [Act.put, List.setIfInBounds_toArray, List.set_cons_zero, List.set_cons_succ]
      refine wp_region_held_drew (S := fun w' => Below w.heap.size w w' ∧ ((∃ k, w' = wr.drewN k) ∨ Wh w' (fun k => w.heap.size ≤ k) b now (armL now (xs.take (j + 1))))) (by kernel_rfl) ⟨HB.out.drew, .inl ⟨1, rfl⟩⟩ (fun hS => ?_)
      refine d_take 0 25 rfl rfl (by kernel_rfl) (by kernel_rfl) (by kernel_rfl) (fun _ _ _ h => h) rfl (fun w' hw' => er_mv _ rfl (.pointer (some ⟨b, 0, none⟩)) rfl) hS ?_
      simp only [Act.put, List.setIfInBounds_toArray, List.set_cons_zero, List.set_cons_succ]
      refine d_take 1 26 rfl rfl (by kernel_rfl) (by kernel_rfl) (by kernel_rfl) (fun _ _ _ h => h) rfl (fun w' hw' => er_mv _ rfl (.slice (some ⟨g, o, none⟩) n c) rfl) hS ?_
      simp only [Act.put, List.setIfInBounds_toArray, List.set_cons_zero, List.set_cons_succ]
      refine d_take 2 27 rfl rfl (by kernel_rfl) (by kernel_rfl) (by kernel_rfl) (fun _ _ _ h => h) rfl (fun w' hw' => er_mv _ rfl (.int .i64 j) rfl) hS ?_
      simp only [Act.put, List.setIfInBounds_toArray, List.set_cons_zero, List.set_cons_succ]
      refine d_take 3 28 rfl rfl (by kernel_rfl) (by kernel_rfl) (by kernel_rfl) (fun _ _ _ h => h) rfl (fun w' hw' => er_idx22 _ _ rfl g o n c j hlt (by omega) rfl rfl) hS ?_
      simp only [Act.put, List.setIfInBounds_toArray, List.set_cons_zero, List.set_cons_succ]
      refine d_take 4 29 rfl rfl (by kernel_rfl) (by kernel_rfl) (by kernel_rfl) (fun _ _ _ h => h) rfl (fun w' hw' => er_g32_1 _ rfl g (o + j * 2) rfl) hS ?_
      simp only [Act.put, List.setIfInBounds_toArray, List.set_cons_zero, List.set_cons_succ]
      refine d_take 5 30 rfl rfl (by kernel_rfl) (by kernel_rfl) (by kernel_rfl) (fun _ _ _ h => h) rfl (fun w' hw' => er_load3 _ rfl g (o + j * 2 + 1) _ rfl (HF.out w' hw'.1).2) hS ?_
      simp only [Act.put, List.setIfInBounds_toArray, List.set_cons_zero, List.set_cons_succ]
      refine d_take 6 31 rfl rfl (by kernel_rfl) (by kernel_rfl) (by kernel_rfl) (fun _ _ _ h => h) rfl (fun w' hw' => er_mv _ rfl (.slice (some ⟨g, o, none⟩) n c) rfl) hS ?_
      simp only [Act.put, List.setIfInBounds_toArray, List.set_cons_zero, List.set_cons_succ]
      refine d_take 7 32 rfl rfl (by kernel_rfl) (by kernel_rfl) (by kernel_rfl) (fun _ _ _ h => h) rfl (fun w' hw' => er_mv _ rfl (.int .i64 j) rfl) hS ?_
      simp only [Act.put, List.setIfInBounds_toArray, List.set_cons_zero, List.set_cons_succ]
      refine d_take 8 33 rfl rfl (by kernel_rfl) (by kernel_rfl) (by kernel_rfl) (fun _ _ _ h => h) rfl (fun w' hw' => er_idx22 _ _ rfl g o n c j hlt (by omega) rfl rfl) hS ?_
      simp only [Act.put, List.setIfInBounds_toArray, List.set_cons_zero, List.set_cons_succ]
      refine d_take 9 34 rfl rfl (by kernel_rfl) (by kernel_rfl) (by kernel_rfl) (fun _ _ _ h => h) rfl (fun w' hw' => er_g32_0 _ rfl g (o + j * 2) rfl) hS ?_
      simp only [Act.put, List.setIfInBounds_toArray, List.set_cons_zero, List.set_cons_succ]
      refine d_take 10 35 rfl rfl (by kernel_rfl) (by kernel_rfl) (by kernel_rfl) (fun _ _ _ h => h) rfl (fun w' hw' => er_load3 _ rfl g (o + j * 2) _ rfl (HF.out w' hw'.1).1) hS ?_
      simp only [Act.put, List.setIfInBounds_toArray, List.set_cons_zero, List.set_cons_succ]
      obtain ⟨hS1, hS2⟩ := hS
      have hWd : Wh wr.drew (fun k => w.heap.size ≤ k) b now (armL now (xs.take j)) := HW.out.kept ((Kept.refl No wr).drew) (fun _ _ h => h)
      refine d_callT (fun w' => Wh w' (fun k => w.heap.size ≤ k) b now (armL now (xs.take (j + 1)))) 11 36 (v := .int .i64 (if Ok now x then 0 else 2)) (by kernel_rfl) rfl rfl rfl (er_call_arm _ _ _ _ rfl) ((arm_wh hWd x).mono (by
        rintro ex w3 ⟨rfl, F3, hW3, hK3, hF3⟩
        rw [HT.out] at hW3
        have hb3 : Below w.heap.size w w3 := hS1.trans (hK3.below (fun k hk => hk) hS1.size)
        have hW4 : Wh w3 (fun k => w.heap.size ≤ k) b now (armL now (xs.take (j + 1))) := hW3.mono (fun k hk => by
          rcases hF3 k hk with h | h
          · exact h
          · exact Nat.le_trans hS1.size h)
        exact ⟨rfl, ⟨hb3, .inr hW4⟩, hW4⟩)) (fun w3 hS3 hW3 => ?_)
      simp only [Act.put, List.setIfInBounds_toArray, List.set_cons_zero, List.set_cons_succ]
      refine wpAnyH_done (by kernel_rfl) ?_ _
      have HW3 : Hid (Wh w3 (fun k => w.heap.size ≤ k) b now (armL now (xs.take (j + 1))) ∧ Below w.heap.size w w3) := ⟨hW3, hS3.1⟩
      clear hS1 hS2 hS3 hW3 hWd
      go_wp2
      go_roundw
      case rel => exact ⟨j + 1, by omega, by go_num, HW3.out.1, HW3.out.2⟩
      case measure => simp [intOf]; omega
    · have hjn : j = n := by omega
      subst hjn
      have HT : Hid (xs.take j = xs) := (show _ = _ by exact List.take_of_length_le (by rw [HL.out]; exact Nat.le_refl _))
      go_wp2
      go_ret
      refine ⟨b, rfl, ?_, HB.out⟩
      have := HW.out
      rw [HT.out] at this
      exact this

theorem may_any (x : Fi) (now : Nat) (w : World) : Calls Try.prog 10 #[x.v, .int .i64 now] w fun ex w' => ex = .returned (.bool (decide (Ok now x))) ∧ Below w.heap.size w w' := by
  obtain ⟨t, i⟩ := x
  generalize hr : decide (Ok now ⟨t, i⟩) = r
  have HR : Hid (decide (Ok now ⟨t, i⟩) = r) := hr
  clear hr
  unfold Fi.v
  dsimp only
  by_cases a1 : i ≥ 0
  · by_cases a2 : i ≤ 65535
    · by_cases a3 : t ≥ now
      · by_cases a4 : t < 1099511627776
        · go_enter Try.func10, Try.ntmps10
          go_wp2
          go_ret
          exact ⟨by rw [← HR.out, decide_eq_true (show Ok now ⟨t, i⟩ from ⟨a3, a4, a1, a2⟩)]; rfl, (Below.refl _ w).alloc (Nat.le_refl _) _⟩
        · go_enter Try.func10, Try.ntmps10
          go_wp2
          go_ret
          exact ⟨by rw [← HR.out, decide_eq_false (show ¬ Ok now ⟨t, i⟩ from fun h => by unfold Ok at h; dsimp only at h; omega)]; rfl, (Below.refl _ w).alloc (Nat.le_refl _) _⟩
      · go_enter Try.func10, Try.ntmps10
        go_wp2
        go_ret
        exact ⟨by rw [← HR.out, decide_eq_false (show ¬ Ok now ⟨t, i⟩ from fun h => by unfold Ok at h; dsimp only at h; omega)]; rfl, (Below.refl _ w).alloc (Nat.le_refl _) _⟩
    · go_enter Try.func10, Try.ntmps10
      go_wp2
      go_ret
      exact ⟨by rw [← HR.out, decide_eq_false (show ¬ Ok now ⟨t, i⟩ from fun h => by unfold Ok at h; dsimp only at h; omega)]; rfl, (Below.refl _ w).alloc (Nat.le_refl _) _⟩
  · go_enter Try.func10, Try.ntmps10
    go_wp2
    go_ret
    exact ⟨by rw [← HR.out, decide_eq_false (show ¬ Ok now ⟨t, i⟩ from fun h => by unfold Ok at h; dsimp only at h; omega)]; rfl, (Below.refl _ w).alloc (Nat.le_refl _) _⟩

end Go.Proofs.Ytdojmmnojpeklaa
