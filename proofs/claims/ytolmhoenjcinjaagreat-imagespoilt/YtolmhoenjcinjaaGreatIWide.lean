/-
  widened and narrowed: a list of numbers in the other kind.
-/
import Derived.Test.YtolmhoenjcinjaaGreatIMem
import Derived.Laws.AppendOwnNone
namespace Go.Proofs.YtolmhoenjcinjaaGreat
open Go.RowKit
set_option linter.unusedVariables false
set_option maxRecDepth 100000

theorem owns_seti {w : World} {B g i : Nat} {t : TypeId} {v : Value} {n : Nat} {ys : List Int} (h : w.ownsRow B t 1 v n (ys.map iv)) (hg : v.ownBlock = some g) (hi : i < ys.length) (x : Int) : (w.setCell ⟨g, i, none⟩ (iv x)).ownsRow B t 1 v n ((ys.set i x).map iv) := by
  obtain ⟨hl, ⟨rfl, h0⟩ | ⟨g', cap, cur, rfl, hb, hgg, hn, hm, hs, ht⟩⟩ := h
  · simp [Value.ownBlock] at hg
  · simp [Value.ownBlock] at hg
    subst hg
    refine ⟨by simpa using hl, .inr ⟨g', cap, cur.setIfInBounds i (iv x), rfl, hb, ?_, hn, hm, by rw [Array.size_setIfInBounds]; exact hs, ?_⟩⟩
    · simp [World.setCell, Array.getElem?_modify, hgg]
    · rw [Array.toList_setIfInBounds, List.take_set, ht, List.map_set]
theorem owns_ati {w : World} {B g i : Nat} {t : TypeId} {v : Value} {n : Nat} {ys : List Int} (h : w.ownsRow B t 1 v n (ys.map iv)) (hg : v.ownBlock = some g) (hi : i < ys.length) : w.cell? ⟨g, i, none⟩ = some (iv (ys.getD i 0)) ∧ w.frozen? ⟨g, i, none⟩ = false := by
  rcases owns_cells h with ⟨rfl, _⟩ | ⟨g', cap, rfl, _, _, _, _, hc, hf⟩
  · simp [Value.ownBlock] at hg
  · simp [Value.ownBlock] at hg
    subst hg
    exact ⟨hc i _ (iv_get hi), hf i⟩
theorem zeros (n : Nat) : (madeCells (Value.int .i64 0).cells (n * 1)).toList = (List.replicate n (0 : Int)).map iv := by
  rw [Nat.mul_one, show (Value.int .i64 0).cells = #[Value.int .i64 0] from rfl, toList_madeCells_one, List.map_replicate]; rfl
/-- the first k, then zeros -/
def sofar (xs : List Int) (m k : Nat) : List Int := xs.take k ++ List.replicate (m - k) 0
theorem sofar_len {xs : List Int} {m k : Nat} (h : xs.length = m) (hk : k ≤ m) : (sofar xs m k).length = m := by unfold sofar; rw [List.length_append, List.length_take, List.length_replicate]; omega
theorem sofar_set {xs : List Int} {m k : Nat} {x : Int} (h : xs.length = m) (hk : xs[k]? = some x) : (sofar xs m k).set k x = sofar xs m (k + 1) := by
  have hkl : k < xs.length := (List.getElem?_eq_some_iff.1 hk).1
  unfold sofar
  rw [List.set_append_right _ _ (by rw [List.length_take]; omega), List.length_take, Nat.min_eq_left (by omega), Nat.sub_self, show m - k = (m - (k + 1)) + 1 by omega, List.replicate_succ, List.set_cons_zero, List.take_add_one, hk]
  simp
theorem sofar_all {xs : List Int} {m : Nat} (h : xs.length = m) : sofar xs m m = xs := by unfold sofar; rw [Nat.sub_self, ← h, List.take_length]; simp
theorem Ls.of_owns {w : World} {base : Nat} {t : TypeId} {v : Value} {xs : List Int} (h : w.ownsRow base t 1 v xs.length (xs.map iv)) (hok : okL I6 xs) :
    ∃ a c, v = .slice a xs.length c ∧ Ls 1 elI w (fun g => v.ownBlock = some g) a xs.length c xs := by
  obtain ⟨a, c, hv, hz⟩ := Zs.of_owns h
  refine ⟨a, c, hv, ⟨rfl, hz.cap, hz.max, hz.nil, fun i x hx => ?_⟩⟩
  have hi : i < xs.length := (List.getElem?_eq_some_iff.1 hx).1
  obtain ⟨b, o, e, hb, hc⟩ := hz.at' i hi
  refine ⟨b, o, [.int .i64 x], e, hb, rfl, ?_, rfl, hok x (List.mem_of_getElem? hx)⟩
  intro j u hj
  match j, hj with
  | 0, hj =>
    simp at hj; subst hj
    rw [Nat.mul_one, Nat.add_zero, hc]
    have : xs.getD i 0 = x := by simp [List.getD, hx]
    rw [this]; rfl
  | j + 1, hj => simp at hj
theorem Tryz.info2 : (Tryz.prog.info? 2).map (fun i => (i.zero, i.size, i.bytes)) = some (some (.int .i64 0), 1, 8) := by kernel_rfl
theorem Tryz.info3 : (Tryz.prog.info? 3).map (fun i => (i.zero, i.size, i.bytes)) = some (some (.int .i64 0), 1, 8) := by kernel_rfl

set_option maxHeartbeats 2000000 in
theorem narrowed_any (G : Nat → Prop) (a : Option Addr) (n c : Nat) (xs : List Int) (w : World) (hZ : Ls 1 elI w G a n c xs) (hG : ∀ k, G k → k < w.heap.size) (hn : n ≤ 1000000000000) :
    Calls Tryz.prog 120 #[.slice a n c] w fun ex w' => ∃ v, ex = .returned v ∧ w'.ownsRow w.heap.size 3 1 v xs.length (xs.map iv) ∧ Kept No w w' := by
  obtain ⟨i0, hi, hz0, hz1, hz2⟩ := info_parts Tryz.info3
  have HZ : Hid (Ls 1 elI w G a n c xs) := hZ
  have HG : Hid (∀ k, G k → k < w.heap.size) := hG
  have hcap := hZ.cap
  have hmax := hZ.max
  have hnil := hZ.nil
  obtain ⟨M, hM⟩ : ∃ M : Nat, M = n := ⟨_, rfl⟩
  have hXl : xs.length = M := by rw [hZ.len, hM]
  subst hM
  have HXL : Hid (xs.length = M) := hXl
  have HX : Hid (∀ i x, xs[i]? = some x → ∃ b o, a = some ⟨b, o, none⟩ ∧ G b ∧ w.cell? ⟨b, o + i, none⟩ = some (iv x)) := by
    intro i x hx
    obtain ⟨b, o, cs, e, hb, hcl, hr, rfl, _⟩ := HZ.out.at' i x hx
    have := hr 0 _ rfl
    rw [Nat.mul_one, Nat.add_zero] at this
    exact ⟨b, o, e, hb, this⟩
  obtain ⟨ys, hys⟩ : ∃ ys, ys = xs := ⟨_, rfl⟩
  rw [← hys] at HXL HX ⊢
  clear hZ hG hXl hys
  go_enter Tryz.func120, Tryz.ntmps120
  go_wp2_with (at_make; refine wpList_make_full w rfl (.tmp 7) (.tmp 7) 39 rfl w.heap.size 3 i0 (.int .i64 0) 1 Tryz.underlying39 hi hz0 hz1 .i64 .i64 M M M rfl rfl rfl rfl (by rw [hz2]; omega) (by unfold maxLen; omega) (Nat.le_refl _) ?_; intro w1 own1 grow1)
  have HM : Hid (w1.ownsRow w.heap.size 3 1 (.slice (some ⟨w.heap.size, 0, none⟩) M M) M ((sofar ys M 0).map iv) ∧ Kept No w w1) := by
    refine ⟨?_, (Kept.refl No w).grown grow1 (fun k e => by cases e)⟩
    rw [zeros] at own1
    unfold sofar
    rw [List.take_zero, List.nil_append, Nat.sub_zero]
    exact own1
  clear own1 grow1
  go_wp2
  go_loopw [11] (fun i wr => ∃ k : Nat, k ≤ M ∧ i = .int .i64 k ∧ wr.ownsRow w.heap.size 3 1 (.slice (some ⟨w.heap.size, 0, none⟩) M M) M ((sofar ys M k).map iv) ∧ Kept No w wr) (fun i _ => M - (intOf i).toNat)
  case atStart => exact ⟨0, by omega, rfl, HM.out.1, HM.out.2⟩
  case round =>
    clear HM
    obtain ⟨k, hk, rfl, hown, hkept⟩ := hrel
    have HOW : Hid (wr.ownsRow w.heap.size 3 1 (.slice (some ⟨w.heap.size, 0, none⟩) M M) M ((sofar ys M k).map iv)) := hown
    have HK : Hid (Kept No w wr) := hkept
    by_cases hlt : k < M
    · obtain ⟨x, hx⟩ : ∃ x, ys[k]? = some x := ⟨_, List.getElem?_eq_getElem (by rw [HXL.out]; exact hlt)⟩
      obtain ⟨b, o, rfl, hGb, hc0⟩ := HX.out k x hx
      have r0 : wr.cell? ⟨b, o + k, none⟩ = some (.int .i64 x) := hkept.cell hc0 (fun h => h)
      obtain ⟨q1, q2⟩ := owns_ati hown (g := w.heap.size) (i := k) rfl (by rw [sofar_len HXL.out hk]; exact hlt)
      have q1' : wr.cell? ⟨w.heap.size, k, none⟩ = some (.int .i64 ((sofar ys M k).getD k 0)) := q1
      have hset := owns_seti hown (g := w.heap.size) (i := k) rfl (by rw [sofar_len HXL.out hk]; exact hlt) x
      rw [sofar_set HXL.out hx] at hset
      have HSET : Hid ((wr.setCell ⟨w.heap.size, k, none⟩ (.int .i64 x)).ownsRow w.heap.size 3 1 (.slice (some ⟨w.heap.size, 0, none⟩) M M) M ((sofar ys M (k + 1)).map iv)) := hset
      generalize (sofar ys M k).getD k 0 = old at q1'
      clear hc0 hown hkept q1 hset hx
      go_wp2
      go_roundw
      case rel => exact ⟨k + 1, by omega, by go_num, HSET.out, HK.out.setCell (.inr (Nat.le_refl _)) _⟩
      case measure => simp [intOf]; omega
    · have hkn : k = M := by omega
      subst hkn
      clear hown hkept
      go_wp2
      go_ret
      refine ⟨_, rfl, ?_, HK.out⟩
      rw [HXL.out]
      have := HOW.out
      rw [sofar_all HXL.out] at this
      exact this

set_option maxHeartbeats 2000000 in
theorem widened_any (G : Nat → Prop) (a : Option Addr) (n c : Nat) (xs : List Int) (w : World) (hZ : Ls 1 elI w G a n c xs) (hG : ∀ k, G k → k < w.heap.size) :
    Calls Tryz.prog 55 #[.slice a n c] w fun ex w' => ∃ v, ex = .returned v ∧ w'.ownsRow w.heap.size 2 1 v (xs.take 1048577).length ((xs.take 1048577).map iv) ∧ Kept No w w' := by
  obtain ⟨i0, hi, hz0, hz1, hz2⟩ := info_parts Tryz.info2
  have HZ : Hid (Ls 1 elI w G a n c xs) := hZ
  have HG : Hid (∀ k, G k → k < w.heap.size) := hG
  have hcap := hZ.cap
  have hmax := hZ.max
  have hnil := hZ.nil
  obtain ⟨M, hM⟩ : ∃ M : Nat, M = min n 1048577 := ⟨_, rfl⟩
  have hXl : (xs.take 1048577).length = M := by rw [List.length_take, hZ.len, hM, Nat.min_comm]
  have HM0 : Hid (M = min n 1048577) := hM
  have hMn : M ≤ n := by omega
  have hMb : M ≤ 1048577 := by omega
  have HXL : Hid ((xs.take 1048577).length = M) := hXl
  have HX : Hid (∀ i x, (xs.take 1048577)[i]? = some x → ∃ b o, a = some ⟨b, o, none⟩ ∧ G b ∧ w.cell? ⟨b, o + i, none⟩ = some (iv x)) := by
    intro i x hx
    obtain ⟨b, o, cs, e, hb, hcl, hr, rfl, _⟩ := HZ.out.at' i x ((by rw [List.getElem?_take] at hx; split at hx; exact hx; cases hx))
    have := hr 0 _ rfl
    rw [Nat.mul_one, Nat.add_zero] at this
    exact ⟨b, o, e, hb, this⟩
  obtain ⟨ys, hys⟩ : ∃ ys, ys = xs.take 1048577 := ⟨_, rfl⟩
  rw [← hys] at HXL HX ⊢
  clear hZ hG hXl hys
  have hmi : (if (1048577 : Int) < (n : Int) then 1048577 else (n : Int)) = (M : Int) := by rw [hM]; split <;> omega
  clear hM HM0
  cases a with
  | none =>
    have hc0 : c = 0 := hnil rfl
    subst hc0
    obtain rfl : n = 0 := by omega
    obtain rfl : M = 0 := by omega
    clear hnil hmi
    go_enter Tryz.func55, Tryz.ntmps55
    go_wp2_with (at_make; refine wpList_make_full w rfl (.tmp 12) (.tmp 12) 58 rfl w.heap.size 2 i0 (.int .i64 0) 1 Tryz.underlying58 hi hz0 hz1 .i64 .i64 0 0 0 rfl rfl rfl rfl (by rw [hz2]; omega) (by unfold maxLen; omega) (Nat.le_refl _) ?_; intro w1 own1 grow1)
    have HM : Hid (w1.ownsRow w.heap.size 2 1 (.slice (some ⟨w.heap.size, 0, none⟩) 0 0) 0 ((sofar ys 0 0).map iv) ∧ Kept No w w1) := by
      refine ⟨?_, (Kept.refl No w).grown grow1 (fun k e => by cases e)⟩
      rw [zeros] at own1
      unfold sofar
      rw [List.take_zero, List.nil_append, Nat.sub_zero]
      exact own1
    clear own1 grow1
    go_wp2
    go_loopw [16] (fun i wr => ∃ k : Nat, k ≤ 0 ∧ i = .int .i64 k ∧ wr.ownsRow w.heap.size 2 1 (.slice (some ⟨w.heap.size, 0, none⟩) 0 0) 0 ((sofar ys 0 k).map iv) ∧ Kept No w wr) (fun i _ => 0 - (intOf i).toNat)
    case atStart => exact ⟨0, by omega, rfl, HM.out.1, HM.out.2⟩
    case round =>
      clear HM
      obtain ⟨k, hk, rfl, hown, hkept⟩ := hrel
      have HOW : Hid (wr.ownsRow w.heap.size 2 1 (.slice (some ⟨w.heap.size, 0, none⟩) 0 0) 0 ((sofar ys 0 k).map iv)) := hown
      have HK : Hid (Kept No w wr) := hkept
      by_cases hlt : k < 0
      · exact absurd hlt (Nat.not_lt_zero _)
      · have hkn : k = 0 := by omega
        subst hkn
        clear hown hkept
        go_wp2
        go_ret
        refine ⟨_, rfl, ?_, HK.out⟩
        rw [HXL.out]
        have := HOW.out
        rw [sofar_all HXL.out] at this
        exact this

  | some ad =>
    obtain ⟨ab, ao, ap⟩ := ad
    clear hnil
    go_enter Tryz.func55, Tryz.ntmps55
    go_upto_region 2 with fail
    try simp only [hmi, Int.toNat_natCast]
    go_wp2_with (at_make; refine wpList_make_full w rfl (.tmp 12) (.tmp 12) 58 rfl w.heap.size 2 i0 (.int .i64 0) 1 Tryz.underlying58 hi hz0 hz1 .i64 .i64 M M M rfl rfl rfl rfl (by rw [hz2]; omega) (by unfold maxLen; omega) (Nat.le_refl _) ?_; intro w1 own1 grow1)
    have HM : Hid (w1.ownsRow w.heap.size 2 1 (.slice (some ⟨w.heap.size, 0, none⟩) M M) M ((sofar ys M 0).map iv) ∧ Kept No w w1) := by
      refine ⟨?_, (Kept.refl No w).grown grow1 (fun k e => by cases e)⟩
      rw [zeros] at own1
      unfold sofar
      rw [List.take_zero, List.nil_append, Nat.sub_zero]
      exact own1
    clear own1 grow1
    go_wp2
    go_loopw [16] (fun i wr => ∃ k : Nat, k ≤ M ∧ i = .int .i64 k ∧ wr.ownsRow w.heap.size 2 1 (.slice (some ⟨w.heap.size, 0, none⟩) M M) M ((sofar ys M k).map iv) ∧ Kept No w wr) (fun i _ => M - (intOf i).toNat)
    case atStart => exact ⟨0, by omega, rfl, HM.out.1, HM.out.2⟩
    case round =>
      clear HM
      obtain ⟨k, hk, rfl, hown, hkept⟩ := hrel
      have HOW : Hid (wr.ownsRow w.heap.size 2 1 (.slice (some ⟨w.heap.size, 0, none⟩) M M) M ((sofar ys M k).map iv)) := hown
      have HK : Hid (Kept No w wr) := hkept
      by_cases hlt : k < M
      · obtain ⟨x, hx⟩ : ∃ x, ys[k]? = some x := ⟨_, List.getElem?_eq_getElem (by rw [HXL.out]; exact hlt)⟩
        obtain ⟨b, o, he, hGb, hc0⟩ := HX.out k x hx
        injection he with he
        injection he with e1 e2 e3
        subst e1 e2 e3
        have r0 : wr.cell? ⟨ab, ao + k, none⟩ = some (.int .i64 x) := hkept.cell hc0 (fun h => h)
        obtain ⟨q1, q2⟩ := owns_ati hown (g := w.heap.size) (i := k) rfl (by rw [sofar_len HXL.out hk]; exact hlt)
        have q1' : wr.cell? ⟨w.heap.size, k, none⟩ = some (.int .i64 ((sofar ys M k).getD k 0)) := q1
        have hset := owns_seti hown (g := w.heap.size) (i := k) rfl (by rw [sofar_len HXL.out hk]; exact hlt) x
        rw [sofar_set HXL.out hx] at hset
        have HSET : Hid ((wr.setCell ⟨w.heap.size, k, none⟩ (.int .i64 x)).ownsRow w.heap.size 2 1 (.slice (some ⟨w.heap.size, 0, none⟩) M M) M ((sofar ys M (k + 1)).map iv)) := hset
        generalize (sofar ys M k).getD k 0 = old at q1'
        clear hc0 hown hkept q1 hset hx
        go_wp2
        go_roundw
        case rel => exact ⟨k + 1, by omega, by go_num, HSET.out, HK.out.setCell (.inr (Nat.le_refl _)) _⟩
        case measure => simp [intOf]; omega
      · have hkn : k = M := by omega
        subst hkn
        clear hown hkept
        go_wp2
        go_ret
        refine ⟨_, rfl, ?_, HK.out⟩
        rw [HXL.out]
        have := HOW.out
        rw [sofar_all HXL.out] at this
        exact this

end Go.Proofs.YtolmhoenjcinjaaGreat
