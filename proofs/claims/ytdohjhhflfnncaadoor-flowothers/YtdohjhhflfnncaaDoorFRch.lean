/-
  reached: the search.
-/
import Derived.Test.YtdohjhhflfnncaaDoorFRow
import Derived.Deep.DeepCutAuto
namespace Go.Proofs.YtdohjhhflfnncaaDoor
open Go.RowKit
set_option linter.unusedVariables false
set_option maxRecDepth 100000

theorem take_succ_get' {α : Type} {l : List α} {i : Nat} {x : α} (h : l[i]? = some x) : l.take (i + 1) = l.take i ++ [x] := by
  rw [List.take_add_one, h]; rfl
theorem last_get {o : List Nat} {x : Nat} {l : List Nat} (h : o = l ++ [x]) : (o.map nv)[l.length]? = some (nv x) := by subst h; simp

theorem dfs_step {W : List (List Nat)} {s : List Bool} {q : List Nat} {p n : Nat} (hW : Wok W) (hl : W.length = n) (hs : s.length = n) :
    dfs W (cntF s + (q ++ [p]).length) s (q ++ [p]) = dfs W (cntF (fld (s, q) (ways W p)).1 + (fld (s, q) (ways W p)).2.length) (fld (s, q) (ways W p)).1 (fld (s, q) (ways W p)).2 := by
  have hc := fld_cnt (ways W p) (s, q) (fun x hx => by show x < s.length; rw [hs, ← hl]; exact hW p x hx)
  rw [hc]
  rw [show cntF s + (q ++ [p]).length = (cntF s + q.length) + 1 by simp; omega]
  rw [dfs]
  rw [if_neg (by simp)]
  simp
theorem fld_lt {l : List Nat} {s : List Bool} {q : List Nat} {n : Nat} (hs : s.length = n) (hl : ∀ x ∈ l, x < n) (hq : ∀ x ∈ q, x < n) : ∀ x ∈ (fld (s, q) l).2, x < n := by
  intro x hx
  rcases (fld_open l (s, q) x (fun y hy => by show y < s.length; rw [hs]; exact hl y hy)).1 hx with h | h
  · exact hq x h
  · exact hl x h.1

/-- what the search keeps, in memory -/
structure Rx (w wr : World) (B : Nat) (n : Nat) (v : Value) (s : List Bool) (o : List Nat) : Prop where
  sh : ∃ va vc, v = .slice va o.length vc
  qr : Qr wr (B + 1) 3 v (o.map nv)
  br : Br wr B s
  k : Kept No w wr
  sl : s.length = n
  lt : ∀ x ∈ o, x < n
  cn : cntF s + o.length ≤ n
theorem Rx.look {w wr : World} {B n : Nat} {v : Value} {s : List Bool} {q : List Nat} {p : Nat} (h : Rx w wr B n v s (q ++ [p])) : ∃ g o cap, v = .slice (some ⟨g, o, none⟩) (q.length + 1) cap ∧ q.length + 1 ≤ cap ∧ cap ≤ 9223372036854775807 ∧ wr.cell? ⟨g, o + q.length, none⟩ = some (.int .i64 (p : Int)) := by
  obtain ⟨g, o, cap, h1, h2, h3, h4, h5, h6⟩ := h.qr.look (i := q.length) (u := nv p) (by simp)
  refine ⟨g, o, cap, ?_, by simpa using h2, h3, h5⟩
  rw [h1]; simp
theorem Rx.pop {w wr : World} {B n : Nat} {a : Option Addr} {m c : Nat} {s : List Bool} {q : List Nat} {p : Nat} (h : Rx w wr B n (.slice a m c) s (q ++ [p])) : Rx w wr B n (.slice a q.length c) s q :=
  ⟨⟨_, _, rfl⟩, by have := Qr.pop (xs := q.map nv) (u := nv p) (by have := h.qr; simpa using this); simpa using this, h.br, h.k, h.sl, fun x hx => h.lt x (by simp [hx]), by have := h.cn; simp at this; omega⟩

set_option maxHeartbeats 8000000 in
theorem reached_any {F : Nat → Prop} {a : Option Addr} {n c : Nat} {W : List (List Nat)} {i : Nat} (w : World) (h : Ls 1 elW w F a n c W) (hW : Wok W) (hn : n ≤ 1000000) (hi : i < n) :
    Calls Tryd.prog 12 #[.slice a n c, .int .i64 (i : Int)] w fun e w' => ∃ g, e = .returned (.slice (some ⟨g, 0, none⟩) n n) ∧ w.heap.size ≤ g ∧ Br w' g (rch W i) ∧ Kept No w w' := by
  have hl := h.len
  have hcap := h.cap
  have hmax := h.max
  have hmk := mk_bools w n hn
  have HH : Hid (Ls 1 elW w F a n c W ∧ Wok W ∧ W.length = n) := ⟨h, hW, hl⟩
  clear h hW hl
  have hb0 := Br.new w n
  have hfz := hb0.fz i
  have hce := hb0.cell (j := i) (by simpa using hi)
  obtain ⟨w1, hw1⟩ : ∃ w1, w1 = w.alloc (.cells (List.replicate n (.bool false)).toArray 4) := ⟨_, rfl⟩
  have k1 : Kept No w w1 := by rw [hw1]; exact (Kept.refl No w).alloc _
  have hsz : w1.heap.size = w.heap.size + 1 := by rw [hw1]; simp
  rw [← hw1] at hmk hb0 hfz hce
  clear hw1
  obtain ⟨B, hB⟩ : ∃ B, w.heap.size = B := ⟨_, rfl⟩
  rw [hB] at hmk hb0 hfz hce hsz ⊢
  have b1 := hb0.set i true
  have k2 : Kept (fun k => k = B) w1 (w1.setCell ⟨B, i, none⟩ (.bool true)) := (Kept.refl (fun k => k = B) w1).setCell (p := ⟨B, i, none⟩) (.inl rfl) _
  have k3 : Kept No w (w1.setCell ⟨B, i, none⟩ (.bool true)) := k1.trans k2 (fun k e => .inr (by omega))
  have H0 : Hid (Br (w1.setCell ⟨B, i, none⟩ (.bool true)) B ((List.replicate n false).set i true) ∧ Kept No w (w1.setCell ⟨B, i, none⟩ (.bool true)) ∧ w.heap.size = B) := ⟨b1, k3, hB⟩
  clear b1 k2 k3 k1 hB hb0
  have hiz : (i : Int) < (n : Int) := by omega
  go_enter Tryd.func12, Tryd.ntmps12
  go_upto_region 3 with fail
  generalize w1.setCell ⟨B, i, none⟩ (.bool true) = w2 at *
  clear hmk hfz hce hsz
  have q0 := Qr.one w2 (B + 1) (by have := H0.out.1.lt; omega) 3 (nv i)
  have ka : Kept No w2 (w2.alloc (.cells #[nv i] 3)) := (Kept.refl No w2).alloc _
  have H1 : Hid (Qr (w2.alloc (.cells #[nv i] 3)) (B + 1) 3 (.slice (some ⟨w2.heap.size, 0, none⟩) 1 1) [nv i] ∧ Br (w2.alloc (.cells #[nv i] 3)) B ((List.replicate n false).set i true) ∧ Kept No w (w2.alloc (.cells #[nv i] 3))) := ⟨q0, H0.out.1.kept ka (fun h => h), H0.out.2.1.trans ka (fun _ h => .inl h)⟩
  clear q0 ka
  go_wp2
  have hc0 : cntF ((List.replicate n false).set i true) + 1 = n := by
    have := cntF_set (List.replicate n false) i (by rw [List.getElem?_replicate, if_pos hi])
    rw [cntF_rep] at this
    exact this
  have H2 : Hid (Rx w (w2.alloc (.cells #[nv i] 3)) B n (.slice (some ⟨w2.heap.size, 0, none⟩) 1 1) ((List.replicate n false).set i true) [i] ∧ dfs W (cntF ((List.replicate n false).set i true) + 1) ((List.replicate n false).set i true) [i] = rch W i) := by
    refine ⟨⟨⟨_, _, rfl⟩, H1.out.1, H1.out.2.1, H1.out.2.2, by simp, fun x hx => by simp at hx; omega, ?_⟩, ?_⟩
    · show _ + 1 ≤ n; omega
    · rw [hc0]; unfold rch; rw [HH.out.2.2]
  clear hc0
  have HS := H0.out.2.2
  have HB := hid HS
  clear HS H0 H1
  go_loopw [6] (fun v wr => ∃ (s : List Bool) (o : List Nat), Rx w wr B n v s o ∧ dfs W (cntF s + o.length) s o = rch W i) (fun v wr => lenV v + measB wr B)
  case atStart => exact ⟨_, _, H2.out.1, H2.out.2⟩
  case round =>
    clear H2
    obtain ⟨s, o, hx, hdf⟩ := hrel
    by_cases ho : o = []
    · subst ho
      rw [dfs_nil] at hdf
      obtain ⟨va, vc, rfl⟩ := hx.sh
      have HX : Hid (Br wr B (rch W i) ∧ Kept No w wr) := ⟨by rw [← hdf]; exact hx.br, hx.k⟩
      clear hx hdf
      go_wp2
      go_ret
      exact ⟨B, rfl, Nat.le_refl _, HX.out.1, HX.out.2⟩
    · obtain ⟨q, p, rfl⟩ : ∃ q p, o = q ++ [p] := ⟨o.dropLast, o.getLast ho, (List.dropLast_concat_getLast ho).symm⟩
      obtain ⟨g, oo, cap, rfl, hc1, hc2, hcl⟩ := hx.look
      have hp : p < n := hx.lt p (by simp)
      obtain ⟨xs, hxs⟩ : ∃ xs, W[p]? = some xs := ⟨_, List.getElem?_eq_getElem (by rw [HH.out.2.2]; exact hp)⟩
      obtain ⟨wb, wo, v, rfl, hwF, hwc0, ⟨xa, xm, xc, hv, hX⟩⟩ := HH.out.1.one hxs
      have hwc := hx.k.cell hwc0 (fun h => h)
      injection hv with hv _
      subst hv
      have hway : ways W p = xs := by unfold ways; rw [hxs]; rfl
      have hxl : ∀ x ∈ xs, x < n := fun x hx => by have := HH.out.2.1 p x (by rw [hway]; exact hx); rw [HH.out.2.2] at this; exact this
      have hst := dfs_step (s := s) (q := q) (p := p) HH.out.2.1 HH.out.2.2 hx.sl
      rw [hdf, hway] at hst
      have hxm := hX.len
      have hxc := hX.cap
      have hxx := hX.max
      have HME : Hid (lenV (.slice (some ⟨g, oo, none⟩) (q.length + 1) cap) + measB wr B = cntF s + q.length + 1) := by
        show (q.length + 1) + measB wr B = _
        rw [hx.br.meas]; omega
      have HX : Hid (Rx w wr B n (.slice (some ⟨g, oo, none⟩) q.length cap) s q ∧ (∀ x ∈ xs, x < n) ∧ rch W i = dfs W (cntF (fld (s, q) xs).1 + (fld (s, q) xs).2.length) (fld (s, q) xs).1 (fld (s, q) xs).2 ∧ xs.length = xm ∧ Ls 1 elN w F xa xm xc xs) := ⟨hx.pop, hxl, hst, hxm, hX⟩
      clear hx hdf hway hxl hst hX hxs hxm ho hwc0
      have hpz : (p : Int) < (n : Int) := by omega
      go_wp2
      clear hcl hwc
      go_loopw [6, 37] (fun v y wr => ∃ j : Nat, y = .int .i64 j ∧ j ≤ xm ∧ Rx w wr B n v (fld (s, q) (xs.take j)).1 (fld (s, q) (xs.take j)).2) (fun _ y _ => xm - (intOf y).toNat)
      case atStart => exact ⟨0, rfl, Nat.zero_le _, HX.out.1⟩
      case round =>
        obtain ⟨j, rfl, hj, hx⟩ := hrel
        by_cases hjl : j < xm
        · have hjx : j < xs.length := by rw [HX.out.2.2.2.1]; exact hjl
          obtain ⟨x, hxj⟩ : ∃ x, xs[j]? = some x := ⟨_, List.getElem?_eq_getElem hjx⟩
          have hxn : x < n := HX.out.2.1 x (List.mem_of_getElem? hxj)
          obtain ⟨xb, xo, v1, rfl, _, hxc0, hv1⟩ := HX.out.2.2.2.2.one hxj
          injection hv1 with hv1 _
          subst hv1
          have hxcl := hx.k.cell hxc0 (fun h => h)
          have hsl := hx.sl
          have hsc := hx.br.cell (j := x) (by rw [hsl]; exact hxn)
          have hsf := hx.br.fz x
          have htk : fld (s, q) (xs.take (j + 1)) = stp (fld (s, q) (xs.take j)) x := by rw [take_succ_get' hxj, fld_app]
          generalize fld (s, q) (xs.take j) = P1 at *
          obtain ⟨s1, o1⟩ := P1
          simp only at hx hsl hsc hsf
          obtain ⟨va, vc, rfl⟩ := hx.sh
          have hxz : (x : Int) < (n : Int) := by omega
          have hjz : (j : Int) < (xm : Int) := by omega
          unfold nv at hxcl
          cases hb : isT s1 x with
          | true =>
            rw [hb] at hsc
            have H5 : Hid (Rx w wr B n (.slice va o1.length vc) s1 o1 ∧ fld (s, q) (xs.take (j + 1)) = (s1, o1)) := ⟨hx, by rw [htk]; unfold stp; rw [if_pos hb]⟩
            clear hx htk hb
            go_wp2
            go_roundw
            case rel => exact ⟨j + 1, by go_num, by omega, by rw [H5.out.2]; exact H5.out.1⟩
            case measure => simp [intOf]; omega
          | false =>
            rw [hb] at hsc
            have b1 := hx.br.set x true
            have k2 : Kept (fun k => k = B) wr (wr.setCell ⟨B, x, none⟩ (.bool true)) := (Kept.refl (fun k => k = B) wr).setCell (p := ⟨B, x, none⟩) (.inl rfl) _
            have q1 := hx.qr.kept k2 (fun g hg e => by have := (hx.qr.blk hg).1; omega)
            have k3 := hx.k.trans k2 (fun k e => .inr (by have := HB.out; omega))
            have hct := cntF_set s1 x (by rw [isT_get (by rw [hsl]; exact hxn), hb])
            have hcn := hx.cn
            have H5 : Hid (Br (wr.setCell ⟨B, x, none⟩ (.bool true)) B (s1.set x true) ∧ Qr (wr.setCell ⟨B, x, none⟩ (.bool true)) (B + 1) 3 (.slice va o1.length vc) (o1.map nv) ∧ Kept No w (wr.setCell ⟨B, x, none⟩ (.bool true)) ∧ fld (s, q) (xs.take (j + 1)) = (s1.set x true, o1 ++ [x]) ∧ (∀ y ∈ o1, y < n) ∧ cntF (s1.set x true) + 1 = cntF s1 ∧ cntF s1 + o1.length ≤ n ∧ s1.length = n) := ⟨b1, q1, k3, by rw [htk]; unfold stp; rw [if_neg (by rw [hb]; decide)], hx.lt, hct, hcn, hsl⟩
            clear hx htk hb b1 k2 q1 k3 hct
            go_upto_region 12 with fail
            generalize wr.setCell ⟨B, x, none⟩ (.bool true) = w5 at *
            clear hsc hsf hxcl
            have ka : Kept No w5 (w5.alloc (.cells #[nv x] 3)) := (Kept.refl No w5).alloc _
            have H6 : Hid (Qr (w5.alloc (.cells #[nv x] 3)) (B + 1) 3 (.slice va o1.length vc) (o1.map nv) ∧ (w5.alloc (.cells #[nv x] 3)).cell? ⟨w5.heap.size, 0, none⟩ = some (nv x) ∧ B + 1 ≤ (w5.alloc (.cells #[nv x] 3)).heap.size ∧ Br (w5.alloc (.cells #[nv x] 3)) B (s1.set x true) ∧ Kept No w (w5.alloc (.cells #[nv x] 3))) := ⟨H5.out.2.1.kept ka (fun _ _ h => h), one (alloc_new _ _), (by have := H5.out.1.lt; rw [World.size_alloc]; omega), H5.out.1.kept ka (fun h => h), H5.out.2.2.1.trans ka (fun _ h => .inl h)⟩
            clear ka
            unfold nv at H6
            go_wp2_with (at_builtin; refine wpList_app_q rfl _ _ 40 3 rfl _ 8 Tryd.underlying40 Tryd.infoI rfl rfl H6.out.1 ⟨w5.heap.size, 0, none⟩ 1 _ rfl H6.out.2.1 rfl (by simp; omega) (by simp; unfold maxLen; omega) H6.out.2.2.1 ?_; intro ya yn yc w7 q7 k7 l7)
            go_roundw
            case rel =>
              refine ⟨j + 1, by go_num, by omega, ?_⟩
              rw [H5.out.2.2.2.1]
              have hq7 : Qr w7 (B + 1) 3 (.slice ya yn yc) ((o1 ++ [x]).map nv) := by rw [List.map_append]; exact q7.out
              have hfar : ¬ (Value.slice va o1.length vc).ownBlock = some B := fun e => by have := (H6.out.1.blk e).1; omega
              refine ⟨?_, hq7, H6.out.2.2.2.1.kept k7.out hfar, H6.out.2.2.2.2.trans k7.out (fun k e => .inr (by have := (H6.out.1.blk e).1; have := HB.out; omega)), by simp; exact H5.out.2.2.2.2.2.2.2, ?_, ?_⟩
              · obtain ⟨a', c', e, _⟩ := hq7.shape
                exact ⟨a', c', by rw [e]; simp⟩
              · intro y hy
                rcases List.mem_append.1 hy with h | h
                · exact H5.out.2.2.2.2.1 y h
                · simp at h; omega
              · have := H5.out.2.2.2.2.2.1; have := H5.out.2.2.2.2.2.2.1; simp; omega
            case measure => simp [intOf]; omega
        · have hje : j = xm := by omega
          have htk : xs.take j = xs := List.take_of_length_le (by rw [HX.out.2.2.2.1]; omega)
          rw [htk] at hx
          have H5 : Hid (Rx w wr B n _ (fld (s, q) xs).1 (fld (s, q) xs).2) := hx
          obtain ⟨va, vc, rfl⟩ := hx.sh
          have HM : Hid (cntF (fld (s, q) xs).1 + (fld (s, q) xs).2.length = cntF s + q.length) := fld_cnt xs (s, q) (fun x hx => by show x < s.length; rw [HX.out.1.sl]; exact HX.out.2.1 x hx)
          have hjz : ¬ (j : Int) < (xm : Int) := by omega
          clear hx htk hje
          go_wp2
          go_roundw
          case rel => exact ⟨_, _, H5.out, HX.out.2.2.1.symm⟩
          case measure =>
            show (fld (s, q) xs).2.length + measB wr B < _
            rw [HME.out, H5.out.br.meas]
            have := HM.out
            omega
end Go.Proofs.YtdohjhhflfnncaaDoor
