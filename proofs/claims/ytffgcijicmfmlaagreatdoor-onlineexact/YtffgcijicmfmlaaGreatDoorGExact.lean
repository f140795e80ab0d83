/-
  One text: DBegun, DExP, OOpenI, DExactW.
-/
import Derived.Test.YtffgcijicmfmlaaGreatDoorGRoom
import Derived.Test.YtffgcijicmfmlaaGreatDoorOOpen
import Derived.Test.YtffgcijicmfmlaaGreatDoorGTri
import Derived.Deep.RegionHeld
namespace Go.Proofs.YtffgcijicmfmlaaGreatDoor
open Go.RowKit Plain
set_option linter.unusedVariables false
set_option maxRecDepth 100000

/-- what New answers -/
def Nd (w w' : World) (xs : List Srv) (P : Option Addr) (E : Int) : Prop :=
  (∃ p, timF xs xs.length = some p ∧ P = none ∧ E = p.1) ∨ (timF xs xs.length = none ∧ E = 0 ∧ ∃ d, P = some ⟨d, 0, none⟩ ∧ Dn w' d (fun k => w.heap.size ≤ k ∧ k < w'.heap.size) xs 0)
theorem newD_any {F : Nat → Prop} {a : Option Addr} {c : Nat} {xs : List Srv} (w : World) (hg : Gl w) (h : Sv w F a xs.length c xs) :
    Calls Tryz.prog 26 #[.slice a xs.length c] w fun e w' => ∃ P E, e = .returned (.tuple #[.pointer P, .int .i64 E]) ∧ Nd w w' xs P E ∧ Kept No w w' := by
  cases htm : timF xs xs.length with
  | some p => exact (newD_no w hg h htm).mono (by rintro e w' ⟨rfl, hk⟩; exact ⟨none, p.1, rfl, .inl ⟨p, htm, rfl, rfl⟩, hk⟩)
  | none =>
    refine (newD_yes w hg h htm).mono ?_
    rintro e w' ⟨d, gR, bW, a', c', FS, FW, rfl, h1, h2, h3⟩
    exact ⟨_, 0, rfl, .inr ⟨htm, rfl, d, rfl, gR, bW, a', c', FS, FW, h1, h2⟩, h3⟩
/-- what the document's New answers -/
def Rn (w w' : World) (xs : List Srv) (a : Option Addr) (n c : Nat) (H t : Int) (la : Option Addr) (m lc : Nat) (E : Int) : Prop :=
  (∃ p, timF xs xs.length = some p ∧ E = p.1) ∨ (timF xs xs.length = none ∧ E = 0 ∧ Xd w' (fun k => w.heap.size ≤ k) xs 0 (.agg #[.slice a n c, .int .i64 H, .int .i64 t, .slice la m lc]))
theorem rnew_any {F : Nat → Prop} {a : Option Addr} {c : Nat} {xs : List Srv} (w : World) (h : Sv w F a xs.length c xs) :
    Calls Tryz.prog 21 #[.slice a xs.length c] w fun e w' => ∃ a1 n1 c1 H t la m lc E, e = .returned (.tuple #[.agg #[.slice a1 n1 c1, .int .i64 H, .int .i64 t, .slice la m lc], .int .i64 E]) ∧ Rn w w' xs a1 n1 c1 H t la m lc E ∧ Kept No w w' := by
  cases htm : timF xs xs.length with
  | some p => exact (rnew_no w h htm).mono (by rintro e w' ⟨rfl, hk⟩; exact ⟨_, _, _, _, _, _, _, _, _, rfl, .inl ⟨p, htm, rfl⟩, hk⟩)
  | none =>
    refine (rnew_yes w h htm).mono ?_
    rintro e w' ⟨x, rfl, hX, hk⟩
    obtain ⟨a1, c1, la, lc, G, rfl, h1, h2, h3, h4⟩ := hX
    exact ⟨_, _, _, _, _, _, _, _, _, rfl, .inr ⟨htm, rfl, a1, c1, la, lc, G, rfl, h1, h2, h3, h4⟩, hk⟩
/-- the list, its first k and last k turned round -/
def sw (xs : List Srv) (k i : Nat) : Srv := if i < xs.length ∧ (i < k ∨ xs.length ≤ i + k) then gs xs (xs.length - 1 - i) else (rm xs 64).getD i ⟨0, 0, 0, 0⟩
theorem rm_lo {xs : List Srv} {i : Nat} (h : i < xs.length) : (rm xs 64).getD i ⟨0, 0, 0, 0⟩ = gs xs i := by
  unfold rm gs
  rw [List.getD_eq_getElem?_getD, List.getElem?_append_left h, List.getD_eq_getElem?_getD]
theorem sw_zero (xs : List Srv) (i : Nat) : sw xs 0 i = (rm xs 64).getD i ⟨0, 0, 0, 0⟩ := by
  unfold sw; rw [if_neg (by omega)]
theorem sw_k {xs : List Srv} {k : Nat} (h : 2 * k + 1 < xs.length) : sw xs k k = gs xs k ∧ sw xs k (xs.length - 1 - k) = gs xs (xs.length - 1 - k) := by
  unfold sw
  rw [if_neg (by omega), if_neg (by omega)]
  exact ⟨rm_lo (by omega), rm_lo (by omega)⟩
theorem sw_succ {xs : List Srv} {k : Nat} (h : 2 * k + 1 < xs.length) (i : Nat) : (if i = xs.length - 1 - k then gs xs k else if i = k then gs xs (xs.length - 1 - k) else sw xs k i) = sw xs (k + 1) i := by
  by_cases h1 : i = xs.length - 1 - k
  · rw [if_pos h1]
    unfold sw
    rw [if_pos (by omega), h1, show xs.length - 1 - (xs.length - 1 - k) = k by omega]
  · rw [if_neg h1]
    by_cases h2 : i = k
    · rw [if_pos h2]
      unfold sw
      rw [if_pos (by omega), h2]
    · rw [if_neg h2]
      unfold sw
      by_cases h3 : i < xs.length ∧ (i < k ∨ xs.length ≤ i + k)
      · rw [if_pos h3, if_pos (by omega)]
      · rw [if_neg h3, if_neg (by omega)]
theorem sw_ok {xs : List Srv} (h : ∀ i, i < xs.length → (gs xs i).ok) (k i : Nat) (hi : i < xs.length) : (sw xs k i).ok := by
  unfold sw
  split
  · exact h _ (by omega)
  · rw [rm_lo hi]; exact h i hi
theorem Mf.like {w : World} {g N : Nat} {f f' : Nat → Srv} (h : Mf w g N f) (he : ∀ i, i < N → f i = f' i) : Mf w g N f' := fun i hi => by rw [← he i hi]; exact h i hi
theorem Mf.lt {w : World} {g N : Nat} {f : Nat → Srv} (h : Mf w g N f) (hN : 0 < N) : g < w.heap.size := cell_lt (h 0 hN).1
/-- a row that is written: cells, none frozen -/
def Mz (w : World) (g N : Nat) (f : Nat → Srv) : Prop := Mf w g N f ∧ Fz w g
theorem Mz.kept {w w' : World} {g N : Nat} {f : Nat → Srv} {G : Nat → Prop} (h : Mz w g N f) (k : Kept G w w') (hg : ¬ G g) (hN : 0 < N) : Mz w' g N f := ⟨h.1.kept k hg, h.2.kept k hg (h.1.lt hN)⟩
theorem Mz.put {w : World} {g N : Nat} {f : Nat → Srv} (h : Mz w g N f) (k : Nat) (x : Srv) (hk : k < N) : Mz ((((w.setCell ⟨g, k * 4, none⟩ (.int .i64 x.p)).setCell ⟨g, k * 4 + 1, none⟩ (.int .i64 x.b)).setCell ⟨g, k * 4 + 2, none⟩ (.int .i64 x.o)).setCell ⟨g, k * 4 + 3, none⟩ (.int .i64 x.q)) g N (fun i => if i = k then x else f i) := ⟨h.1.put k x hk, h.2.put k x⟩

theorem room_mz {w : World} {B g cap : Nat} {xs : List Srv} (h : w.ownsRow B 36 4 (.slice (some ⟨g, 0, none⟩) (xs.length + 64) cap) (xs.length + 64) (fl (rm xs 64))) : B ≤ g ∧ g < w.heap.size ∧ xs.length + 64 ≤ cap ∧ cap ≤ 9223372036854775807 ∧ Mz w g (xs.length + 64) (fun i => (rm xs 64).getD i ⟨0, 0, 0, 0⟩) := by
  rcases own_mf h (rm_len _ _) with ⟨_, h0⟩ | ⟨g', cap', h1, h2, h3, h4, h5, h6, h7⟩
  · omega
  · injection h1 with h1 _ h8
    injection h1 with h1
    injection h1 with h1
    subst h1 h8
    exact ⟨h2, h3, h4, h5, h6, h7⟩

/-- the same of a later world, its blocks between two marks -/
def Nq (lo hi : Nat) (W : World) (xs : List Srv) (P : Option Addr) (E : Int) : Prop :=
  (∃ p, timF xs xs.length = some p ∧ P = none ∧ E = p.1) ∨ (timF xs xs.length = none ∧ E = 0 ∧ ∃ d, P = some ⟨d, 0, none⟩ ∧ Dn W d (fun k => lo ≤ k ∧ k < hi) xs 0)
theorem Nq.kept {lo hi : Nat} {W W' : World} {xs : List Srv} {P : Option Addr} {E : Int} {G : Nat → Prop} (h : Nq lo hi W xs P E) (hk : Kept G W W') (hG : ∀ k, G k → k < lo) : Nq lo hi W' xs P E := by
  rcases h with h | ⟨h1, h2, d, h3, h4⟩
  · exact .inl h
  · exact .inr ⟨h1, h2, d, h3, h4.kept hk (fun k q g => by have := q.1; have := hG k g; omega)⟩
theorem Nq.out {lo hi : Nat} {w W : World} {xs : List Srv} {P : Option Addr} {E : Int} (h : Nq lo hi W xs P E) (h1 : w.heap.size ≤ lo) (h2 : hi ≤ W.heap.size) : Nd w W xs P E := by
  rcases h with h | ⟨h3, h4, d, h5, h6⟩
  · exact .inl h
  · exact .inr ⟨h3, h4, d, h5, h6.mono (fun k q => ⟨by have := q.1; omega, by have := q.2; omega⟩)⟩

set_option maxHeartbeats 16000000 in
theorem begun_any {F : Nat → Prop} {a : Option Addr} {c : Nat} {xs : List Srv} (w : World) (hg : Gl w) (h : Sv w F a xs.length c xs) (hsz : xs.length * 32 ≤ 140737488351232) :
    Calls Tryz.prog 20 #[.slice a xs.length c] w fun e w' => ∃ P E, e = .returned (.tuple #[.pointer P, .int .i64 E, .bool true]) ∧ Nd w w' xs P E ∧ Kept No w w' := by
  have HG : Hid (Gl w) := hg
  have HS : Hid (Sv w F a xs.length c xs) := h
  have HOK : Hid (∀ i, i < xs.length → (gs xs i).ok) := fun i hi => (h.gs4 hi).1
  have hcap := h.cap
  have hmax := h.max
  have q2 : ∀ (w : World) (ad : Addr), (binOp .eql 24 (.pointer (some ad)) (.pointer none)).run Tryz.prog w = .ok (.bool false) w := fun w ad => by rfl
  have q3 : ∀ (w : World), (binOp .eql 24 (.pointer none) (.pointer none)).run Tryz.prog w = .ok (.bool true) w := fun w => by rfl
  have rm1 := roomy_any w h hsz
  clear hg h
  go_enter Tryz.func20, Tryz.ntmps20
  go_upto_region 2 with (go_at_call 32; refine rm1.mono ?_; rintro e w1 ⟨g, cap, rfl, ow1, hk1⟩; have H1 : Hid (w1.ownsRow w.heap.size 36 4 (.slice (some ⟨g, 0, none⟩) (xs.length + 64) cap) (xs.length + 64) (fl (rm xs 64)) ∧ Kept No w w1) := ⟨ow1, hk1⟩; clear ow1 hk1 rm1)
  have hcf := room_mz H1.out.1
  obtain ⟨hgw, hgl, hc1, hc2, hmz⟩ := hcf
  have HM1 : Hid (Mz w1 g (xs.length + 64) (fun i => (rm xs 64).getD i ⟨0, 0, 0, 0⟩) ∧ w.heap.size ≤ g ∧ g < w1.heap.size) := ⟨hmz, hgw, hgl⟩
  clear hmz hgw hgl
  have HSV : Hid (∀ W, Mz W g (xs.length + 64) (fun i => (rm xs 64).getD i ⟨0, 0, 0, 0⟩) → Sv W (fun b => b = g) (some ⟨g, 0, none⟩) xs.length cap xs) := fun W hm => by
    have := hm.1.sv xs.length cap (by omega) (by omega) hc2 (fun i hi => by show ((rm xs 64).getD i ⟨0, 0, 0, 0⟩).ok; rw [rm_lo hi]; exact HOK.out i hi)
    rw [show (List.range xs.length).map (fun i => (rm xs 64).getD i ⟨0, 0, 0, 0⟩) = xs from by
      conv => rhs; rw [HS.out.eq]
      exact List.map_congr_left (fun i hi => by rw [rm_lo (List.mem_range.1 hi)]; rfl)] at this
    exact this
  have n1 := newD_any w1 (HG.out.kept H1.out.2) (HSV.out w1 HM1.out.1)
  go_upto_region 4 with (go_at_call 26; refine n1.mono ?_; rintro e w2 ⟨P, E, rfl, hnd, hk2⟩; have H2 : Hid (Nd w1 w2 xs P E ∧ Kept No w1 w2) := ⟨hnd, hk2⟩; clear hnd hk2 n1)
  have HKW2 : Hid (Kept No w w2) := H1.out.2.trans H2.out.2 (fun _ h => h.elim)
  have rm2 := roomy_any w2 (HS.out.keep HKW2.out) hsz
  have HM2 : Hid (Mz w2 g (xs.length + 64) (fun i => (rm xs 64).getD i ⟨0, 0, 0, 0⟩)) := HM1.out.1.kept H2.out.2 (fun h => h) (by omega)
  have HRM : Hid (∀ W b cp, Mz W b (xs.length + 64) (fun i => (rm xs 64).getD i ⟨0, 0, 0, 0⟩) → xs.length + 64 ≤ cp → cp ≤ 9223372036854775807 → Sv W (fun k => k = b) (some ⟨b, 0, none⟩) (xs.length + 64) cp ((List.range (xs.length + 64)).map (fun i => (rm xs 64).getD i ⟨0, 0, 0, 0⟩))) := fun W b cp hm h1 h2 => hm.1.sv (xs.length + 64) cp (Nat.le_refl _) h1 h2 (fun i hi => by
    show ((rm xs 64).getD i ⟨0, 0, 0, 0⟩).ok
    by_cases h3 : i < xs.length
    · rw [rm_lo h3]; exact HOK.out i h3
    · unfold rm
      rw [List.getD_eq_getElem?_getD, List.getElem?_append_right (by omega), List.getElem?_replicate, if_pos (by omega)]
      exact mk77_ok)
  go_upto_region 5 with (first
    | (go_at_call 32; refine rm2.mono ?_; rintro e w3 ⟨g3, cap3, rfl, ow3, hk3⟩; have H3 : Hid (w3.ownsRow w2.heap.size 36 4 (.slice (some ⟨g3, 0, none⟩) (xs.length + 64) cap3) (xs.length + 64) (fl (rm xs 64)) ∧ Kept No w2 w3) := ⟨ow3, hk3⟩; clear ow3 hk3 rm2; obtain ⟨_, _, hd1, hd2, hmz3⟩ := room_mz H3.out.1; have ss := sameS_any w3 (HRM.out w3 g cap (HM2.out.kept H3.out.2 (fun h => h) (by omega)) hc1 hc2) (HRM.out w3 g3 cap3 hmz3 hd1 hd2); clear hmz3 hd1 hd2)
    | (go_at_call 33; refine ss.mono ?_; rintro e w4 ⟨rfl, hk4⟩; have H4 : Hid (Kept No w2 w4) := H3.out.2.trans hk4 (fun _ h => h.elim); clear hk4 ss))
  have HM4 : Hid (Mz w4 g (xs.length + 64) (sw xs 0) ∧ g < w1.heap.size) := ⟨⟨(HM2.out.kept H4.out (fun h => h) (by omega)).1.like (fun i _ => (sw_zero xs i).symm), (HM2.out.kept H4.out (fun h => h) (by omega)).2⟩, HM1.out.2.2⟩
  have HKW4 : Hid (Kept No w w4) := HKW2.out.trans H4.out (fun _ h => h.elim)
  clear HM2 HSV HRM H3
  obtain ⟨D, hD⟩ : ∃ D, xs.length / 2 = D := ⟨_, rfl⟩
  have hD2 : 2 * D ≤ xs.length ∧ xs.length ≤ 2 * D + 1 := by omega
  obtain ⟨hD3, hD4⟩ := hD2
  have eD : Int.tdiv (xs.length : Int) 2 = (D : Int) := by rw [← hD]; exact Int.ofNat_tdiv _ _
  have eD2 : (xs.length : Int) / 2 = (D : Int) := by omega
  clear hD
  go_wp2
  go_loopw [10] (fun x wr => ∃ k : Nat, k ≤ D ∧ x = .int .i64 k ∧ Mz wr g (xs.length + 64) (sw xs k) ∧ Kept (fun j => j = g) w4 wr) (fun x _ => D - (intOf x).toNat)
  case atStart => exact ⟨0, Nat.zero_le _, rfl, HM4.out.1, Kept.refl _ _⟩
  case round =>
    obtain ⟨k, hk, rfl, hmz, hkr⟩ := hrel
    have HR : Hid (Mz wr g (xs.length + 64) (sw xs k) ∧ Kept (fun j => j = g) w4 wr) := ⟨hmz, hkr⟩
    clear hmz hkr
    by_cases hlt : k < D
    · obtain ⟨j, ej⟩ : ∃ j : Nat, (xs.length : Int) - 1 - (k : Int) = (j : Int) := ⟨xs.length - 1 - k, by omega⟩
      have hj : j < xs.length := by omega
      have hjN : (j : Int) < (xs.length : Int) + 64 := by omega
      have hkN : (k : Int) < (xs.length : Int) + 64 := by omega
      have hkN2 : k < xs.length + 64 := by omega
      have hjN2 : j < xs.length + 64 := by omega
      have HJ : Hid (j = xs.length - 1 - k ∧ 2 * k + 1 < xs.length) := ⟨by omega, by omega⟩
      have sk := sw_k HJ.out.2
      rw [← HJ.out.1] at sk
      obtain ⟨e0, e1, e2, e3⟩ := HR.out.1.1 k hkN2
      rw [sk.1] at e0 e1 e2 e3
      have HSK : Hid (sw xs k j = gs xs j) := sk.2
      clear sk
      obtain ⟨X, hX⟩ : ∃ X, gs xs k = X := ⟨_, rfl⟩
      obtain ⟨Y, hY⟩ : ∃ Y, gs xs j = Y := ⟨_, rfl⟩
      have HXY : Hid (gs xs k = X ∧ gs xs j = Y) := ⟨hX, hY⟩
      rw [hX] at e0 e1 e2 e3
      clear hX hY
      obtain ⟨xp, xb, xo, xq⟩ := X
      obtain ⟨yp, yb, yo, yq⟩ := Y
      simp only at e0 e1 e2 e3
      go_upto_region 9 with fail
      have b2 := World.alloc_heap_new wr (.cells #[.int .i64 xp, .int .i64 xb, .int .i64 xo, .int .i64 xq] 36)
      have HR2 : Hid (Mz (wr.alloc (.cells #[.int .i64 xp, .int .i64 xb, .int .i64 xo, .int .i64 xq] 36)) g (xs.length + 64) (sw xs k) ∧ Kept (fun j => j = g) w4 (wr.alloc (.cells #[.int .i64 xp, .int .i64 xb, .int .i64 xo, .int .i64 xq] 36)) ∧ g < wr.heap.size) := ⟨HR.out.1.kept ((Kept.refl No wr).alloc _) (fun h => h) (by omega), HR.out.2.alloc _, HR.out.1.1.lt (by omega)⟩
      clear HR e0 e1 e2 e3
      generalize wr.alloc (.cells #[.int .i64 xp, .int .i64 xb, .int .i64 xo, .int .i64 xq] 36) = wq at *
      generalize hz : wr.heap.size = z at *
      have HZ : Hid (wq.heap[z]? = some (.cells #[.int .i64 xp, .int .i64 xb, .int .i64 xo, .int .i64 xq] 36)) := b2
      have hgz : g ≠ z := by have := HR2.out.2.2; omega
      clear hz b2
      obtain ⟨d0, d1, d2, d3⟩ := HR2.out.1.1 j hjN2
      rw [HSK.out, HXY.out.2] at d0 d1 d2 d3
      simp only at d0 d1 d2 d3
      obtain ⟨e0, e1, e2, e3⟩ := HR2.out.1.1 k hkN2
      have f0 := HR2.out.1.2
      have HF0 : Hid (Fz wq g) := f0
      have z0 := f0 (k * 4)
      have z1 := f0 (k * 4 + 1)
      have z2 := f0 (k * 4 + 2)
      have z3 := f0 (k * 4 + 3)
      clear f0
      generalize (sw xs k k).p = s0 at *
      generalize (sw xs k k).b = s1 at *
      generalize (sw xs k k).o = s2 at *
      generalize (sw xs k k).q = s3 at *
      go_upto_region 10 with fail
      have HR3 : Hid (Mz ((((wq.setCell ⟨g, k * 4, none⟩ (.int .i64 yp)).setCell ⟨g, k * 4 + 1, none⟩ (.int .i64 yb)).setCell ⟨g, k * 4 + 2, none⟩ (.int .i64 yo)).setCell ⟨g, k * 4 + 3, none⟩ (.int .i64 yq)) g (xs.length + 64) (fun i => if i = k then ⟨yp, yb, yo, yq⟩ else sw xs k i) ∧ Kept (fun j => j = g) w4 ((((wq.setCell ⟨g, k * 4, none⟩ (.int .i64 yp)).setCell ⟨g, k * 4 + 1, none⟩ (.int .i64 yb)).setCell ⟨g, k * 4 + 2, none⟩ (.int .i64 yo)).setCell ⟨g, k * 4 + 3, none⟩ (.int .i64 yq))) := ⟨HR2.out.1.put k ⟨yp, yb, yo, yq⟩ hkN2, put_kept k ⟨yp, yb, yo, yq⟩ HR2.out.2.1 (.inl rfl)⟩
      have b3 := (put_kept (F := fun j => j = g) (q := g) k ⟨yp, yb, yo, yq⟩ (Kept.refl _ wq) (.inl rfl)).at' HZ.out (by intro h; exact hgz h.symm)
      simp only at b3
      clear e0 e1 e2 e3 d0 d1 d2 d3 z0 z1 z2 z3 HR2
      generalize (((wq.setCell ⟨g, k * 4, none⟩ (.int .i64 yp)).setCell ⟨g, k * 4 + 1, none⟩ (.int .i64 yb)).setCell ⟨g, k * 4 + 2, none⟩ (.int .i64 yo)).setCell ⟨g, k * 4 + 3, none⟩ (.int .i64 yq) = wp at *
      obtain ⟨c0, c1, c2, c3⟩ := cells4r b3
      obtain ⟨d0, d1, d2, d3⟩ := HR3.out.1.1 j hjN2
      have f0 := HR3.out.1.2
      have z0 := f0 (j * 4)
      have z1 := f0 (j * 4 + 1)
      have z2 := f0 (j * 4 + 2)
      have z3 := f0 (j * 4 + 3)
      clear f0 b3
      have HR4 : Hid (Mz ((((wp.setCell ⟨g, j * 4, none⟩ (.int .i64 xp)).setCell ⟨g, j * 4 + 1, none⟩ (.int .i64 xb)).setCell ⟨g, j * 4 + 2, none⟩ (.int .i64 xo)).setCell ⟨g, j * 4 + 3, none⟩ (.int .i64 xq)) g (xs.length + 64) (sw xs (k + 1)) ∧ Kept (fun j => j = g) w4 ((((wp.setCell ⟨g, j * 4, none⟩ (.int .i64 xp)).setCell ⟨g, j * 4 + 1, none⟩ (.int .i64 xb)).setCell ⟨g, j * 4 + 2, none⟩ (.int .i64 xo)).setCell ⟨g, j * 4 + 3, none⟩ (.int .i64 xq))) := by
        have m := HR3.out.1.put j ⟨xp, xb, xo, xq⟩ hjN2
        refine ⟨⟨m.1.like (fun i _ => ?_), m.2⟩, put_kept j ⟨xp, xb, xo, xq⟩ HR3.out.2 (.inl rfl)⟩
        rw [← sw_succ HJ.out.2 i, ← HJ.out.1, HXY.out.1, HXY.out.2]
      clear HR3
      generalize (if j = k then (⟨yp, yb, yo, yq⟩ : Srv) else sw xs k j).p = s0' at *
      generalize (if j = k then (⟨yp, yb, yo, yq⟩ : Srv) else sw xs k j).b = s1' at *
      generalize (if j = k then (⟨yp, yb, yo, yq⟩ : Srv) else sw xs k j).o = s2' at *
      generalize (if j = k then (⟨yp, yb, yo, yq⟩ : Srv) else sw xs k j).q = s3' at *
      go_wp2
      go_roundw
      case rel => exact ⟨k + 1, by omega, by go_num, HR4.out.1, HR4.out.2⟩
      case measure => simp [intOf]; omega
    · have hke : k = D := by omega
      subst hke
      have HKR : Hid (Kept No w wr ∧ Nq w1.heap.size w2.heap.size wr xs P E ∧ Mz wr g (xs.length + 64) (sw xs k)) := ⟨HKW4.out.trans HR.out.2 (fun j e => .inr (by rw [e]; exact HM1.out.2.1)), (Nq.kept (G := No) (Nq.kept (G := No) (show Nq w1.heap.size w2.heap.size w2 xs P E from H2.out.1) (Kept.refl No w2) (fun _ h => h.elim)) H4.out (fun _ h => h.elim)).kept HR.out.2 (fun j e => by rw [e]; exact HM1.out.2.2), HR.out.1⟩
      have HKRS : Hid (w2.heap.size ≤ wr.heap.size) := by have := H4.out.size; have := HR.out.2.size; exact Nat.le_trans (by assumption) (by assumption)
      obtain ⟨zs, hzl, hzs⟩ : ∃ zs : List Srv, zs.length = xs.length ∧ ∀ W, Mz W g (xs.length + 64) (sw xs k) → Sv W (fun b => b = g) (some ⟨g, 0, none⟩) xs.length cap zs := ⟨(List.range xs.length).map (sw xs k), by simp, fun W hm => hm.1.sv xs.length cap (by omega) (by omega) hc2 (fun i hi => sw_ok HOK.out k i hi)⟩
      have HZS : Hid (∀ W, Mz W g (xs.length + 64) (sw xs k) → Sv W (fun b => b = g) (some ⟨g, 0, none⟩) xs.length cap zs) := hzs
      have HRN : Hid (∀ W (F : Nat → Prop) a1 c1, Sv W F a1 xs.length c1 zs → Calls Tryz.prog 21 #[.slice a1 xs.length c1] W fun e w' => ∃ a1 n1 c1 H t la m lc E, e = .returned (.tuple #[.agg #[.slice a1 n1 c1, .int .i64 H, .int .i64 t, .slice la m lc], .int .i64 E]) ∧ Rn W w' zs a1 n1 c1 H t la m lc E ∧ Kept No W w') := fun W F a1 c1 h => by
        have := rnew_any (F := F) (a := a1) (c := c1) (xs := zs) W (by rw [hzl]; exact h)
        rw [hzl] at this
        exact this
      have HNN : Hid (∀ W (F : Nat → Prop) a1 c1, Gl W → Sv W F a1 xs.length c1 zs → Calls Tryz.prog 26 #[.slice a1 xs.length c1] W fun e w' => ∃ P E, e = .returned (.tuple #[.pointer P, .int .i64 E]) ∧ Nd W w' zs P E ∧ Kept No W w') := fun W F a1 c1 hG h => by
        have := newD_any (F := F) (a := a1) (c := c1) (xs := zs) W hG (by rw [hzl]; exact h)
        rw [hzl] at this
        exact this
      have HZO : Hid (∀ i, i < xs.length → (zs.getD i ⟨0, 0, 0, 0⟩).ok) := fun i hi => (hzs wr HR.out.1).ok i hi
      have HHM : Hid (w.heap.size ≤ g ∧ g < w1.heap.size ∧ w1.heap.size ≤ w2.heap.size ∧ w.heap.size ≤ w1.heap.size) := ⟨HM1.out.2.1, HM1.out.2.2, H2.out.2.size, H1.out.2.size⟩
      clear hzs HR HM4 HKW4 HKW2 H4 H2 H1 HM1 HOK hzl eD eD2
      go_upto_region 12 with (first
        | (at_builtin; refine wpList_cps rfl _ _ rfl wr.heap.size _ rfl (made0 wr) (by simp) (some ⟨g, 0, none⟩) xs.length cap rfl (fun b => b = g) zs ((HZS.out wr HKR.out.2.2).keep ((Kept.refl No wr).alloc _)) (by omega) ?_; intro v5 w5 OW5 KW5; obtain ⟨a5, c5, hv5, hS5⟩ := own_sv OW5.out (HZS.out wr HKR.out.2.2).len HZO.out; subst hv5; have H5 : Hid (Kept No wr w5) := ((Kept.refl No wr).alloc _).trans KW5.out (fun k e => .inr (own0 e)); have rn := HRN.out w5 _ a5 c5 hS5; clear hS5 KW5 OW5)
        | (go_at_call 21; refine rn.mono ?_; rintro e w6 ⟨a6, n6, c6, H6, t6, la6, m6, lc6, E6, rfl, hrn, hk6⟩; have HR6 : Hid (Rn w5 w6 zs a6 n6 c6 H6 t6 la6 m6 lc6 E6 ∧ Kept No wr w6) := ⟨hrn, H5.out.trans hk6 (fun _ h => h.elim)⟩; clear hrn hk6 rn H5))
      have b7 := World.alloc_heap_new w6 (.cells #[.slice a6 n6 c6, .int .i64 H6, .int .i64 t6, .slice la6 m6 lc6] 43)
      have HR7 : Hid (Kept No w6 (w6.alloc (.cells #[.slice a6 n6 c6, .int .i64 H6, .int .i64 t6, .slice la6 m6 lc6] 43)) ∧ (w6.alloc (.cells #[.slice a6 n6 c6, .int .i64 H6, .int .i64 t6, .slice la6 m6 lc6] 43)).heap[w6.heap.size]? = some (.cells #[.slice a6 n6 c6, .int .i64 H6, .int .i64 t6, .slice la6 m6 lc6] 43)) := ⟨(Kept.refl No w6).alloc _, b7⟩
      clear b7
      generalize w6.alloc (.cells #[.slice a6 n6 c6, .int .i64 H6, .int .i64 t6, .slice la6 m6 lc6] 43) = w7 at *
      generalize w6.heap.size = z7 at *
      have HK7 : Hid (Kept No wr w7) := HR6.out.2.trans HR7.out.1 (fun _ h => h.elim)
      have nn := HNN.out w7 _ (some ⟨g, 0, none⟩) cap (HG.out.kept (HKR.out.1.trans HK7.out (fun _ h => h.elim))) ((HZS.out wr HKR.out.2.2).keep HK7.out)
      go_upto_region 13 with (go_at_call 26; refine nn.mono ?_; rintro e w8 ⟨P8, E8, rfl, hnd8, hk8⟩; have H8 : Hid (Nd w7 w8 zs P8 E8 ∧ Kept No w7 w8) := ⟨hnd8, hk8⟩; clear hnd8 hk8 nn)
      have HK8 : Hid (Kept No wr w8) := HK7.out.trans H8.out.2 (fun _ h => h.elim)
      have b8 := H8.out.2.at' HR7.out.2 (fun h => h)
      have y0 := cell_of_row (k := 0) (v := .slice a6 n6 c6) b8 rfl
      have y1 := cell_of_row (k := 1) (v := .int .i64 H6) b8 rfl
      have y2 := cell_of_row (k := 2) (v := .int .i64 t6) b8 rfl
      have y3 := cell_of_row (k := 3) (v := .slice la6 m6 lc6) b8 rfl
      clear b8
      have HK2W : Hid (w2.heap.size ≤ wr.heap.size) := HKRS.out
      have HM8 : Hid (Mz w8 g (xs.length + 64) (sw xs k)) := HKR.out.2.2.kept HK8.out (fun h => h) (by omega)
      rcases HR6.out.1 with ⟨p, ht, he⟩ | ⟨ht, he, hX⟩
      · rcases H8.out.1 with ⟨p', ht', hP8, he8⟩ | ⟨ht', _⟩
        · rw [ht] at ht'
          injection ht' with ht'
          subst ht' hP8
          subst he he8
          have hpn := tim_neD ht
          generalize p.1 = pe at *
          have hb : (pe != 0) = true := bne_iff_ne.2 hpn
          have hb2 : (pe == 0) = false := beq_eq_false_iff_ne.2 hpn
          have H9 : Hid (Kept No wr w8 ∧ Mz w8 g (xs.length + 64) (sw xs k)) := ⟨HK8.out, HM8.out⟩
          clear ht HR6 H8 HR7 HK7 HK8 HM8 HZO HNN HRN HZS
          go_wp2
          go_loopw [16] (fun x w10 => ∃ j : Nat, j ≤ xs.length + 64 ∧ x = .int .i64 j ∧ (∃ f, Mz w10 g (xs.length + 64) f) ∧ Kept (fun j => j = g) w8 w10) (fun x _ => xs.length + 64 - (intOf x).toNat)
          case atStart => exact ⟨0, Nat.zero_le _, rfl, ⟨_, H9.out.2⟩, Kept.refl _ _⟩
          case round =>
            obtain ⟨j, hj, rfl, ⟨f, hmz⟩, hkr⟩ := hrel
            have HQ : Hid (Mz wr g (xs.length + 64) f ∧ Kept (fun j => j = g) w8 wr) := ⟨hmz, hkr⟩
            clear hmz hkr
            by_cases hlt2 : j < xs.length + 64
            · obtain ⟨e0, e1, e2, e3⟩ := HQ.out.1.1 j hlt2
              have f0 := HQ.out.1.2
              have z0 := f0 (j * 4)
              have z1 := f0 (j * 4 + 1)
              have z2 := f0 (j * 4 + 2)
              have z3 := f0 (j * 4 + 3)
              have HQ2 : Hid (Mz ((((wr.setCell ⟨g, j * 4, none⟩ (.int .i64 0)).setCell ⟨g, j * 4 + 1, none⟩ (.int .i64 5)).setCell ⟨g, j * 4 + 2, none⟩ (.int .i64 0)).setCell ⟨g, j * 4 + 3, none⟩ (.int .i64 0)) g (xs.length + 64) (fun i => if i = j then ⟨0, 5, 0, 0⟩ else f i) ∧ Kept (fun j => j = g) w8 ((((wr.setCell ⟨g, j * 4, none⟩ (.int .i64 0)).setCell ⟨g, j * 4 + 1, none⟩ (.int .i64 5)).setCell ⟨g, j * 4 + 2, none⟩ (.int .i64 0)).setCell ⟨g, j * 4 + 3, none⟩ (.int .i64 0))) := ⟨HQ.out.1.put j ⟨0, 5, 0, 0⟩ hlt2, put_kept j ⟨0, 5, 0, 0⟩ HQ.out.2 (.inl rfl)⟩
              clear f0 HQ
              generalize (f j).p = s0 at *
              generalize (f j).b = s1 at *
              generalize (f j).o = s2 at *
              generalize (f j).q = s3 at *
              go_wp2
              go_roundw
              case rel => exact ⟨j + 1, by omega, by go_num, ⟨_, HQ2.out.1⟩, HQ2.out.2⟩
              case measure => simp [intOf]; omega
            · have hje : j = xs.length + 64 := by omega
              subst hje
              have HF : Hid (Nd w wr xs P E ∧ Kept No w wr) := by
                obtain ⟨m1, m2, m3, m4⟩ := HHM.out
                have k9 := HKR.out.1.trans H9.out.1 (fun _ h => h.elim)
                have kq := k9.trans HQ.out.2 (fun j e => .inr (by rw [e]; exact m1))
                refine ⟨((HKR.out.2.1.kept H9.out.1 (fun _ h => h.elim)).kept HQ.out.2 (fun j e => by rw [e]; exact m2)).out m4 ?_, kq⟩
                have := HK2W.out
                have := H9.out.1.size
                have := HQ.out.2.size
                omega
              clear HQ H9
              go_wp2
              refine bodyPost_ret (results_tmp3 rfl _ _ _) rfl ?_
              exact ⟨P, E, rfl, HF.out.1, HF.out.2⟩
        · rw [ht] at ht'; cases ht'
      · rcases H8.out.1 with ⟨p', ht', _⟩ | ⟨_, he8, d8, hP8, hD8⟩
        · rw [ht] at ht'; cases ht'
        · subst he he8 hP8
          have tl := ltold_any (vd_of ht) (by omega) w8 hD8 (hX.keep (HR7.out.1.trans H8.out.2 (fun _ h => h.elim)))
          clear ht HR6 H8 HR7 HK7 HZO HNN HRN HZS hX hD8
          go_wp2_with (go_at_call 22; refine tl.mono ?_; rintro e w9 ⟨rfl, hk9⟩; have H9 : Hid (Kept No wr w9 ∧ Mz w9 g (xs.length + 64) (sw xs k)) := ⟨HK8.out.trans hk9 (fun _ h => h.elim), HM8.out.kept hk9 (fun h => h) (by omega)⟩; clear hk9 tl)
          clear y0 y1 y2 y3
          go_loopw [16] (fun x w10 => ∃ j : Nat, j ≤ xs.length + 64 ∧ x = .int .i64 j ∧ (∃ f, Mz w10 g (xs.length + 64) f) ∧ Kept (fun j => j = g) w9 w10) (fun x _ => xs.length + 64 - (intOf x).toNat)
          case atStart => exact ⟨0, Nat.zero_le _, rfl, ⟨_, H9.out.2⟩, Kept.refl _ _⟩
          case round =>
            obtain ⟨j, hj, rfl, ⟨f, hmz⟩, hkr⟩ := hrel
            have HQ : Hid (Mz wr g (xs.length + 64) f ∧ Kept (fun j => j = g) w9 wr) := ⟨hmz, hkr⟩
            clear hmz hkr
            by_cases hlt2 : j < xs.length + 64
            · obtain ⟨e0, e1, e2, e3⟩ := HQ.out.1.1 j hlt2
              have f0 := HQ.out.1.2
              have z0 := f0 (j * 4)
              have z1 := f0 (j * 4 + 1)
              have z2 := f0 (j * 4 + 2)
              have z3 := f0 (j * 4 + 3)
              have HQ2 : Hid (Mz ((((wr.setCell ⟨g, j * 4, none⟩ (.int .i64 0)).setCell ⟨g, j * 4 + 1, none⟩ (.int .i64 5)).setCell ⟨g, j * 4 + 2, none⟩ (.int .i64 0)).setCell ⟨g, j * 4 + 3, none⟩ (.int .i64 0)) g (xs.length + 64) (fun i => if i = j then ⟨0, 5, 0, 0⟩ else f i) ∧ Kept (fun j => j = g) w9 ((((wr.setCell ⟨g, j * 4, none⟩ (.int .i64 0)).setCell ⟨g, j * 4 + 1, none⟩ (.int .i64 5)).setCell ⟨g, j * 4 + 2, none⟩ (.int .i64 0)).setCell ⟨g, j * 4 + 3, none⟩ (.int .i64 0))) := ⟨HQ.out.1.put j ⟨0, 5, 0, 0⟩ hlt2, put_kept j ⟨0, 5, 0, 0⟩ HQ.out.2 (.inl rfl)⟩
              clear f0 HQ
              generalize (f j).p = s0 at *
              generalize (f j).b = s1 at *
              generalize (f j).o = s2 at *
              generalize (f j).q = s3 at *
              go_wp2
              go_roundw
              case rel => exact ⟨j + 1, by omega, by go_num, ⟨_, HQ2.out.1⟩, HQ2.out.2⟩
              case measure => simp [intOf]; omega
            · have hje : j = xs.length + 64 := by omega
              subst hje
              have HF : Hid (Nd w wr xs P E ∧ Kept No w wr) := by
                obtain ⟨m1, m2, m3, m4⟩ := HHM.out
                have k9 := HKR.out.1.trans H9.out.1 (fun _ h => h.elim)
                have kq := k9.trans HQ.out.2 (fun j e => .inr (by rw [e]; exact m1))
                refine ⟨((HKR.out.2.1.kept H9.out.1 (fun _ h => h.elim)).kept HQ.out.2 (fun j e => by rw [e]; exact m2)).out m4 ?_, kq⟩
                have := HK2W.out
                have := H9.out.1.size
                have := HQ.out.2.size
                omega
              clear HQ H9
              go_wp2
              refine bodyPost_ret (results_tmp3 rfl _ _ _) rfl ?_
              exact ⟨P, E, rfl, HF.out.1, HF.out.2⟩
end Go.Proofs.YtffgcijicmfmlaaGreatDoor

namespace Go.Proofs.YtffgcijicmfmlaaGreatDoor
open Go.RowKit Plain
set_option linter.unusedVariables false
set_option maxRecDepth 100000

/-- a dispatcher at t1 and the document's at t2, apart from one another and from the boxes Z -/
def Ex (W w : World) (Z : Nat → Prop) (d : Nat) (xs : List Srv) (t1 t2 : Nat) (a : Option Addr) (c : Nat) (la : Option Addr) (lc : Nat) : Prop :=
  ∃ R Q : Nat → Prop, Dn w d R xs t1 ∧ Xd w Q xs t2 (.agg #[.slice a xs.length c, .int .i64 (hyp xs : Int), .int .i64 t2, .slice la xs.length lc]) ∧ (∀ k, R k → ¬ Q k ∧ ¬ Z k ∧ W.heap.size ≤ k ∧ k < w.heap.size) ∧ (∀ k, Q k → ¬ Z k ∧ W.heap.size ≤ k ∧ k < w.heap.size) ∧ (∀ k, Z k → W.heap.size ≤ k ∧ k < w.heap.size) ∧ Kept No W w
section
variable {W w w' : World} {Z : Nat → Prop} {d : Nat} {xs : List Srv} {t1 t2 : Nat} {a la : Option Addr} {c lc : Nat}
theorem Ex.k (h : Ex W w Z d xs t1 t2 a c la lc) : Kept No W w := by
  obtain ⟨R, Q, h1, h2, h3, h4, h5, h6⟩ := h; exact h6
theorem Ex.z (h : Ex W w Z d xs t1 t2 a c la lc) : ∀ k, Z k → W.heap.size ≤ k ∧ k < w.heap.size := by
  obtain ⟨R, Q, h1, h2, h3, h4, h5, h6⟩ := h; exact h5
theorem Ex.box (h : Ex W w Z d xs t1 t2 a c la lc) (hk : Kept Z w w') : Ex W w' Z d xs t1 t2 a c la lc := by
  obtain ⟨R, Q, h1, h2, h3, h4, h5, h6⟩ := h
  have hs := hk.size
  exact ⟨R, Q, h1.kept hk (fun k q => (h3 k q).2.1), h2.over hk (fun k q => (h4 k q).1), fun k q => ⟨(h3 k q).1, (h3 k q).2.1, (h3 k q).2.2.1, by have := (h3 k q).2.2.2; omega⟩, fun k q => ⟨(h4 k q).1, (h4 k q).2.1, by have := (h4 k q).2.2; omega⟩, fun k q => ⟨(h5 k q).1, by have := (h5 k q).2; omega⟩, h6.trans hk (fun k q => .inr (h5 k q).1)⟩
theorem Ex.keep (h : Ex W w Z d xs t1 t2 a c la lc) (hk : Kept No w w') : Ex W w' Z d xs t1 t2 a c la lc := h.box (hk.mono (fun _ h => h.elim))
theorem Ex.more (h : Ex W w Z d xs t1 t2 a c la lc) (hk : Kept No w w') {z : Nat} (h1 : w.heap.size ≤ z) (h2 : z < w'.heap.size) : Ex W w' (fun k => Z k ∨ k = z) d xs t1 t2 a c la lc := by
  obtain ⟨R, Q, g1, g2, g3, g4, g5, g6⟩ := h
  have hs := hk.size
  have hW := g6.size
  refine ⟨R, Q, g1.keep hk, g2.keep hk, fun k q => ⟨(g3 k q).1, ?_, (g3 k q).2.2.1, by have := (g3 k q).2.2.2; omega⟩, fun k q => ⟨?_, (g4 k q).2.1, by have := (g4 k q).2.2; omega⟩, ?_, g6.trans hk (fun _ h => h.elim)⟩
  · rintro (q' | q')
    · exact (g3 k q).2.1 q'
    · have := (g3 k q).2.2.2; omega
  · rintro (q' | q')
    · exact (g4 k q).1 q'
    · have := (g4 k q).2.2; omega
  · rintro k (q' | q')
    · exact ⟨(g5 k q').1, by have := (g5 k q').2; omega⟩
    · exact ⟨by omega, by omega⟩
theorem Ex.adv (hv : Vd xs) (h : Ex W w Z d xs t1 t2 a c la lc) (x : Int) :
    Calls Tryz.prog 11 #[.pointer (some ⟨d, 0, none⟩), .int .i64 x] w fun e w' => e = .returned (.int .i64 (adE t1 x)) ∧ Ex W w' Z d xs (adT t1 x) t2 a c la lc ∧ ∀ k o, Z k → w.heap[k]? = some o → w'.heap[k]? = some o := by
  obtain ⟨R, Q, h1, h2, h3, h4, h5, h6⟩ := h
  refine (adv_dn hv h1 x).mono ?_
  rintro e w' ⟨rfl, g1, g2⟩
  have hs := g2.size
  have hW := h6.size
  refine ⟨rfl, ⟨_, Q, g1.cut, h2.over g2 (fun k q q' => (h3 k q').1 q), ?_, fun k q => ⟨(h4 k q).1, (h4 k q).2.1, by have := (h4 k q).2.2; omega⟩, fun k q => ⟨(h5 k q).1, by have := (h5 k q).2; omega⟩, h6.trans g2 (fun k q => .inr (h3 k q).2.2.1)⟩, fun k o q ho => g2.at' ho (fun q' => (h3 k q').2.1 q)⟩
  rintro k ⟨q | q, hlt⟩
  · exact ⟨(h3 k q).1, (h3 k q).2.1, (h3 k q).2.2.1, hlt⟩
  · exact ⟨fun q' => by have := (h4 k q').2.2; omega, fun q' => by have := (h5 k q').2; omega, by omega, hlt⟩
theorem Ex.radv (hv : Vd xs) (ht : t2 < 1099511627776) (h : Ex W w Z d xs t1 t2 a c la lc) (x : Int) :
    Calls Tryz.prog 24 #[.agg #[.slice a xs.length c, .int .i64 (hyp xs : Int), .int .i64 t2, .slice la xs.length lc], .int .i64 x] w fun e w' => ∃ a' c' la' lc', e = .returned (.tuple #[.agg #[.slice a' xs.length c', .int .i64 (hyp xs : Int), .int .i64 (adT t2 x : Nat), .slice la' xs.length lc'], .int .i64 (adE t2 x)]) ∧ Ex W w' Z d xs t1 (adT t2 x) a' c' la' lc' ∧ Kept No w w' := by
  obtain ⟨R, Q, h1, h2, h3, h4, h5, h6⟩ := h
  refine (radv_any hv ht w h2 x).mono ?_
  rintro e w' ⟨xv, rfl, g1, g2⟩
  have hs := g2.size
  have hW := h6.size
  have g1' := g1.mem
  have g3 := g1
  obtain ⟨a', c', la', lc', G, rfl, _⟩ := g3
  refine ⟨a', c', la', lc', rfl, ⟨R, _, h1.keep g2, g1', fun k q => ⟨?_, (h3 k q).2.1, (h3 k q).2.2.1, by have := (h3 k q).2.2.2; omega⟩, ?_, fun k q => ⟨(h5 k q).1, by have := (h5 k q).2; omega⟩, h6.trans g2 (fun _ h => h.elim)⟩, g2⟩
  · rintro ⟨q' | q', _⟩
    · exact (h3 k q).1 q'
    · have := (h3 k q).2.2.2; omega
  · rintro k ⟨q | q, hlt⟩
    · exact ⟨(h4 k q).1, (h4 k q).2.1, hlt⟩
    · exact ⟨fun q' => by have := (h5 k q').2; omega, by omega, hlt⟩
theorem Ex.told {t : Nat} (hv : Vd xs) (ht : t < 1099511627776) (h : Ex W w Z d xs t t a c la lc) :
    Calls Tryz.prog 22 #[.pointer (some ⟨d, 0, none⟩), .agg #[.slice a xs.length c, .int .i64 (hyp xs : Int), .int .i64 t, .slice la xs.length lc]] w fun e w' => e = .returned (.bool true) ∧ Kept No w w' := by
  obtain ⟨R, Q, h1, h2, h3, h4, h5, h6⟩ := h
  exact ltold_any hv ht w h1 h2
theorem Ex.unt {t : Nat} (hv : Vd xs) (ht : t < 1099511627776) (h : Ex W w Z d xs t t2 a c la lc) :
    Calls Tryz.prog 16 #[.pointer (some ⟨d, 0, none⟩)] w fun e w' => e = .returned (.int .i64 (Rule.until' (sys xs) t)) ∧ Kept No w w' := by
  obtain ⟨R, Q, h1, h2, h3, h4, h5, h6⟩ := h
  exact until_dn hv h1 ht
end
set_option maxHeartbeats 2000000 in
theorem most_fix (n H : Nat) (hH : H ≤ 1048576) (hn : n ≤ 32) :
    ∃ z : Int, ∀ (a la : Option Addr) (c m lc : Nat) (t : Int) (w : World), Calls Tryz.prog 23 #[.agg #[.slice a n c, .int .i64 (H : Int), .int .i64 t, .slice la m lc]] w fun e w' => e = .returned (.int .i64 z) ∧ Kept No w w' := by
  obtain ⟨M, hM⟩ : ∃ M : Nat, 3 * H * (1 + n) = M := ⟨_, rfl⟩
  have hM2 : M ≤ 3145728 * 33 := by rw [← hM]; exact Nat.mul_le_mul (by omega) (by omega)
  have e1 : 3 * (H : Int) * (1 + (n : Int)) = (M : Int) := by rw [← hM]; push_cast; rfl
  obtain ⟨Q, hQ⟩ : ∃ Q : Nat, 16777216 / (M + 1) = Q := ⟨_, rfl⟩
  have hQ2 : Q ≤ 16777216 := by rw [← hQ]; exact Nat.div_le_self _ _
  have e2 : Int.tdiv 16777216 ((M : Int) + 1) = (Q : Int) := by
    rw [← hQ, show (M : Int) + 1 = ((M + 1 : Nat) : Int) by omega]
    exact (Int.ofNat_tdiv 16777216 (M + 1)).symm
  have e3 : (16777216 : Int) / ((M : Int) + 1) = (Q : Int) := by
    rw [← hQ, show (M : Int) + 1 = ((M + 1 : Nat) : Int) by omega]
    rfl
  have h0 : ¬ (M : Int) + 1 = 0 := by omega
  clear hM hQ
  by_cases hg : (200 : Int) < 1 + (Q : Int)
  · refine ⟨200, fun a la c m lc t w => ?_⟩
    have b2 := World.alloc_heap_new w (.cells #[.slice a n c, .int .i64 (H : Int), .int .i64 t, .slice la m lc] 43)
    have HK : Hid (Kept No w (w.alloc (.cells #[.slice a n c, .int .i64 (H : Int), .int .i64 t, .slice la m lc] 43))) := (Kept.refl No w).alloc _
    go_enter Tryz.func23, Tryz.ntmps23
    go_upto_region 1 with fail
    generalize w.alloc (.cells #[.slice a n c, .int .i64 (H : Int), .int .i64 t, .slice la m lc] 43) = w2 at *
    generalize w.heap.size = z at *
    have y0 := cell_of_row (k := 0) (v := .slice a n c) b2 rfl
    have y1 := cell_of_row (k := 1) (v := .int .i64 (H : Int)) b2 rfl
    clear b2
    go_wp2
    go_ret
    exact ⟨rfl, HK.out⟩
  · refine ⟨1 + (Q : Int), fun a la c m lc t w => ?_⟩
    have b2 := World.alloc_heap_new w (.cells #[.slice a n c, .int .i64 (H : Int), .int .i64 t, .slice la m lc] 43)
    have HK : Hid (Kept No w (w.alloc (.cells #[.slice a n c, .int .i64 (H : Int), .int .i64 t, .slice la m lc] 43))) := (Kept.refl No w).alloc _
    go_enter Tryz.func23, Tryz.ntmps23
    go_upto_region 1 with fail
    generalize w.alloc (.cells #[.slice a n c, .int .i64 (H : Int), .int .i64 t, .slice la m lc] 43) = w2 at *
    generalize w.heap.size = z at *
    have y0 := cell_of_row (k := 0) (v := .slice a n c) b2 rfl
    have y1 := cell_of_row (k := 1) (v := .int .i64 (H : Int)) b2 rfl
    clear b2
    go_wp2
    go_ret
    exact ⟨rfl, HK.out⟩
end Go.Proofs.YtffgcijicmfmlaaGreatDoor

namespace Go.Proofs.YtffgcijicmfmlaaGreatDoor
open Go.ChangeShapes Go.WideShapes Go.ChangeAt Go.RowKit
set_option linter.unusedVariables false

theorem ints_cell {H : Type} {enc : TypeId × Value → H} {W : World} {fuel : Nat} {u : Value} {x : DataW H × List MemPlace} (h : DataW.trod enc Tryz.prog W 0 (fun _ => true) true fuel 23 [u] = some x) :
    ∃ (a : Option Addr) (n c : Nat) (xs : List Int), u = .slice a n c ∧ Is W (fun k => k < W.heap.size) a n c xs := by
  rcases Go.Deep.open_slice Tryz.underlying23 h with ⟨hcs, hx⟩ | ⟨ad, l, k, m, nf, D, Pl, hcs, _, hl, hm, hmm, hx, hel⟩
  · simp at hcs
    subst hcs
    exact ⟨none, 0, 0, [], rfl, ⟨rfl, by omega, by omega, (fun x hx => by cases hx), (fun i x hx => by cases hx)⟩⟩
  · simp at hcs
    subst hcs
    simp at hmm
    rw [cellsOfI] at hel
    have each : ∀ i, ∃ d : Int, i < l → (I6 d ∧ ∃ b o, ad = ⟨b, o, none⟩ ∧ W.cell? ⟨b, o + i, none⟩ = some (.int .i64 d)) := by
      intro i
      by_cases hi : i < l
      · obtain ⟨cs', hc1, hc2⟩ := hel i (by omega)
        obtain ⟨_, hcl, hcc⟩ := World.cells?_some hc1
        obtain ⟨bk, off, spot⟩ := ad
        obtain ⟨d, rfl, _, w0⟩ := DataW.trod_int Tryz.underlying3 hc2
        have hs : spot = none := by
          obtain ⟨ds', hd1, _⟩ := hel 0 (by omega)
          obtain ⟨_, hdl, hdc⟩ := World.cells?_some hd1
          have h7 : 0 < ds'.length := by omega
          have := hdc 0 (by omega)
          rw [List.getElem?_eq_getElem h7] at this
          simpa [Addr.add] using World.cell?_spot this
        subst hs
        have h0 := hcc 0 (by decide)
        rw [add_none, add_none, Nat.mul_one, Nat.add_zero] at h0
        exact ⟨d, fun _ => ⟨wf_i64 w0, bk, off, rfl, h0⟩⟩
      · exact ⟨0, fun h => absurd h hi⟩
    obtain ⟨f, hf2⟩ := Classical.axiomOfChoice each
    refine ⟨some ad, l, k, (List.range l).map f, rfl, ⟨by simp, hl, hm, ?_, ?_⟩⟩
    · intro x hx
      rw [List.mem_map] at hx
      obtain ⟨i, hi, rfl⟩ := hx
      exact (hf2 i (List.mem_range.1 hi)).1
    · intro i x hx
      have hi : i < l := by
        apply Decidable.byContradiction
        intro hn
        rw [List.getElem?_eq_none (by simp; omega)] at hx
        cases hx
      obtain ⟨_, b, o, e, h0⟩ := hf2 i hi
      rw [List.getElem?_map, List.getElem?_range hi] at hx
      simp at hx
      subst hx
      exact ⟨b, o, by rw [e], cell_lt h0, h0⟩
set_option maxRecDepth 100000 in
theorem open_ints {H : Type} {enc : TypeId × Value → H} {W : World} {base : Nat} {v : Value} {d : DataW H} {p : List MemPlace}
    (hv : Value.okWide Tryz.prog W .any base 23 v) (h : DataW.Trod enc Tryz.prog W 0 (fun _ => true) true 23 v d p) :
    ∃ (a : Option Addr) (n c : Nat) (xs : List Int), v = .slice a n c ∧ Is W (fun k => k < W.heap.size) a n c xs := by
  obtain ⟨a, n, c, rfl⟩ := okWide_slice Tryz.underlying23 hv
  obtain ⟨fuel, hf⟩ := h
  obtain ⟨a', n', c', xs, e, hC⟩ := ints_cell hf
  injection e with e1 e2 e3
  subst e1 e2 e3
  exact ⟨a, n, c, xs, rfl, hC⟩

end Go.Proofs.YtffgcijicmfmlaaGreatDoor

namespace Go.Proofs.YtffgcijicmfmlaaGreatDoor
open Go.RowKit Plain
set_option linter.unusedVariables false
set_option maxRecDepth 100000

theorem hid_cells4 {w : World} {z : Nat} {v0 v1 v2 v3 : Value} {T : TypeId} (h : w.heap[z]? = some (.cells #[v0, v1, v2, v3] T)) : w.cell? ⟨z, 0, none⟩ = some v0 ∧ w.cell? ⟨z, 1, none⟩ = some v1 ∧ w.cell? ⟨z, 2, none⟩ = some v2 ∧ w.cell? ⟨z, 3, none⟩ = some v3 ∧ ∀ k, w.frozen? ⟨z, k, none⟩ = false :=
  ⟨cell_of_row (k := 0) h rfl, cell_of_row (k := 1) h rfl, cell_of_row (k := 2) h rfl, cell_of_row (k := 3) h rfl, fun k => by simp [World.frozen?, h]⟩

theorem Ex.less {W w : World} {Z Z' : Nat → Prop} {d : Nat} {xs : List Srv} {t1 t2 : Nat} {a la : Option Addr} {c lc : Nat} (h : Ex W w Z d xs t1 t2 a c la lc) (hZ : ∀ k, Z' k → Z k) : Ex W w Z' d xs t1 t2 a c la lc := by
  obtain ⟨R, Q, h1, h2, h3, h4, h5, h6⟩ := h
  exact ⟨R, Q, h1, h2, fun k q => ⟨(h3 k q).1, fun z => (h3 k q).2.1 (hZ k z), (h3 k q).2.2⟩, fun k q => ⟨fun z => (h4 k q).1 (hZ k z), (h4 k q).2⟩, fun k q => h5 k (hZ k q), h6⟩
set_option maxHeartbeats 16000000 in
theorem oexact_law {F G : Nat → Prop} {a0 : Option Addr} {c0 : Nat} {xs : List Srv} {ps : Option Addr} {sn sc : Nat} {ss : List Int} (w : World) (hg : Gl w) (h : Sv w F a0 xs.length c0 xs) (hi : Is w G ps sn sc ss) (hsz : xs.length * 32 ≤ 140737488351232) :
    Calls Tryz.prog 7 #[.slice a0 xs.length c0, .slice ps sn sc] w fun e w' => e = .returned (.bool true) ∧ Below w.heap.size w w' := by
  have HI : Hid (Is w G ps sn sc ss) := hi
  have hscap := hi.cap
  have hsmax := hi.max
  have HS : Hid (Sv w F a0 xs.length c0 xs) := h
  have bgn := begun_any w hg h hsz
  have q2 : ∀ (w : World) (ad : Addr), (binOp .eql 24 (.pointer (some ad)) (.pointer none)).run Tryz.prog w = .ok (.bool false) w := fun w ad => by rfl
  have q3 : ∀ (w : World), (binOp .eql 24 (.pointer none) (.pointer none)).run Tryz.prog w = .ok (.bool true) w := fun w => by rfl
  clear hg h hi
  go_enter Tryz.func7, Tryz.ntmps7
  go_upto_region 2 with (go_at_call 20; refine bgn.mono ?_; rintro e w1 ⟨P, E, rfl, hnd, hk1⟩; have H1 : Hid (Nd w w1 xs P E ∧ Kept No w w1) := ⟨hnd, hk1⟩; clear hnd hk1 bgn)
  have rn := rnew_any w1 (HS.out.keep H1.out.2)
  go_upto_region 3 with (go_at_call 21; refine rn.mono ?_; rintro e w2 ⟨a6, n6, c6, H6, t6, la6, m6, lc6, E6, rfl, hrn, hk2⟩; have H2 : Hid (Rn w1 w2 xs a6 n6 c6 H6 t6 la6 m6 lc6 E6 ∧ Kept No w1 w2) := ⟨hrn, hk2⟩; clear hrn hk2 rn)
  have b3 := World.alloc_heap_new w2 (.cells #[.slice a6 n6 c6, .int .i64 H6, .int .i64 t6, .slice la6 m6 lc6] 43)
  have H3 : Hid (Kept No w2 (w2.alloc (.cells #[.slice a6 n6 c6, .int .i64 H6, .int .i64 t6, .slice la6 m6 lc6] 43)) ∧ (w2.alloc (.cells #[.slice a6 n6 c6, .int .i64 H6, .int .i64 t6, .slice la6 m6 lc6] 43)).heap[w2.heap.size]? = some (.cells #[.slice a6 n6 c6, .int .i64 H6, .int .i64 t6, .slice la6 m6 lc6] 43)) := ⟨(Kept.refl No w2).alloc _, b3⟩
  clear b3
  generalize w2.alloc (.cells #[.slice a6 n6 c6, .int .i64 H6, .int .i64 t6, .slice la6 m6 lc6] 43) = w3 at *
  generalize hz : w2.heap.size = z at *
  have HZ : Hid (w2.heap.size = z) := hz
  clear hz
  have HKW : Hid (Kept No w w3) := (H1.out.2.trans H2.out.2 (fun _ h => h.elim)).trans H3.out.1 (fun _ h => h.elim)
  rcases H2.out.1 with ⟨p, ht, he⟩ | ⟨ht, he, hX⟩
  · rcases H1.out.1 with ⟨p', ht', hP8, he8⟩ | ⟨ht', _⟩
    · rw [ht] at ht'
      injection ht' with ht'
      subst ht' hP8
      subst he he8
      have hpn := tim_neD ht
      generalize p.1 = pe at *
      have hb : (pe != 0) = true := bne_iff_ne.2 hpn
      have hb2 : (pe == 0) = false := beq_eq_false_iff_ne.2 hpn
      clear ht H1 H2 H3
      go_wp2
      go_ret
      exact ⟨rfl, HKW.out.below0⟩
    · rw [ht] at ht'; cases ht'
  · rcases H1.out.1 with ⟨p', ht', _⟩ | ⟨_, he8, d, hP8, hD8⟩
    · rw [ht] at ht'; cases ht'
    · subst he he8 hP8
      have hv := vd_of ht
      have HV : Hid (Vd xs) := hv
      have hn := hv.num
      have hH2 := hv.hyp2
      have hX2 := hX
      obtain ⟨a, c, la, lc, FF, hxe, _⟩ := hX2
      injection hxe with hxe
      injection hxe with hxe
      injection hxe with e1 hxe
      injection hxe with e2 hxe
      injection hxe with e3 hxe
      injection hxe with e4 hxe
      injection e1 with e11 e12 e13
      injection e2 with _ e22
      injection e3 with _ e32
      injection e4 with e41 e42 e43
      subst e11 e12 e13 e22 e32 e41 e42 e43
      have HE : Hid (Ex w w3 (fun k => k = z) d xs 0 0 a6 c6 la6 lc6) := by
        have s1 := H1.out.2.size
        have s2 := H2.out.2.size
        have s3 := heap_lt H3.out.2
        have hz := HZ.out
        refine ⟨_, _, (hD8.keep H2.out.2).keep H3.out.1, hX.mem.keep H3.out.1, fun k q => ⟨fun q' => by have := q.2; have := q'.1; omega, fun q' => by have := q.2; omega, q.1, by have := q.2; omega⟩, fun k q => ⟨fun q' => by have := q.2; omega, by have := q.1; omega, by have := q.2; omega⟩, fun k q => ⟨by omega, by omega⟩, HKW.out⟩
      have HB : Hid (w3.heap[z]? = some (.cells #[.slice a6 xs.length c6, .int .i64 (hyp xs : Int), .int .i64 ((0 : Nat) : Int), .slice la6 xs.length lc6] 43)) := H3.out.2
      have tl := HE.out.told HV.out (by omega)
      clear hX hD8 H1 H2 H3 ht hv HKW HZ
      obtain ⟨zz, hmo⟩ := most_fix xs.length (hyp xs) hH2 hn
      have HMO : Hid (∀ (a la : Option Addr) (c m lc : Nat) (t : Int) (w : World), Calls Tryz.prog 23 #[.agg #[.slice a xs.length c, .int .i64 (hyp xs : Int), .int .i64 t, .slice la m lc]] w fun e w' => e = .returned (.int .i64 zz) ∧ Kept No w w') := hmo
      clear hmo
      obtain ⟨y0, y1, y2, y3, fz⟩ := hid_cells4 HB.out
      go_upto_region 9 with (go_at_call 22; refine tl.mono ?_; rintro e w4 ⟨rfl, hk4⟩; have H4 : Hid (Ex w w4 (fun k => k = z) d xs 0 0 a6 c6 la6 lc6 ∧ w4.heap[z]? = some (.cells #[.slice a6 xs.length c6, .int .i64 (hyp xs : Int), .int .i64 ((0 : Nat) : Int), .slice la6 xs.length lc6] 43)) := ⟨HE.out.keep hk4, hk4.at' HB.out (fun h => h)⟩; clear hk4 tl)
      clear y0 y1 y2 y3 fz HE HB
      go_wp2
      go_loopw [10] (fun x wr => ∃ t k : Nat, ∃ a c la lc, t < 1099511627776 ∧ k ≤ sn ∧ x = .int .i64 k ∧ Ex w wr (fun k => k = z) d xs t t a c la lc ∧ wr.heap[z]? = some (.cells #[.slice a xs.length c, .int .i64 (hyp xs : Int), .int .i64 (t : Int), .slice la xs.length lc] 43)) (fun x _ => sn - (intOf x).toNat)
      case atStart => exact ⟨0, 0, _, _, _, _, by omega, Nat.zero_le _, rfl, H4.out.1, H4.out.2⟩
      case round =>
        obtain ⟨t, k, a, c, la, lc, htM, hk, rfl, hE, hB⟩ := hrel
        have HT : Hid (Ex w wr (fun k => k = z) d xs t t a c la lc ∧ wr.heap[z]? = some (.cells #[.slice a xs.length c, .int .i64 (hyp xs : Int), .int .i64 (t : Int), .slice la xs.length lc] 43) ∧ t < 1099511627776) := ⟨hE, hB, htM⟩
        clear hE hB H4 htM
        by_cases hlt : k < sn
        · obtain ⟨y0, y1, y2, y3, fz⟩ := hid_cells4 HT.out.2.1
          have mo := HMO.out a la c xs.length lc (t : Int) wr
          by_cases hzz : (k : Int) < zz
          · obtain ⟨x, hx⟩ : ∃ x, ss[k]? = some x := ⟨_, List.getElem?_eq_getElem (by rw [HI.out.len]; exact hlt)⟩
            obtain ⟨g, o, rfl, _, hc⟩ := HI.out.at' k x hx
            have HC : Hid (∀ w', Kept No w w' → w'.cell? ⟨g, o + k, none⟩ = some (.int .i64 x)) := fun w' hk => hk.cell hc (fun h => h)
            clear hc hx
            go_upto_region 12 with (go_at_call 23; refine mo.mono ?_; rintro e w5 ⟨rfl, hk5⟩; have H5 : Hid (Ex w w5 (fun k => k = z) d xs t t a c la lc ∧ w5.heap[z]? = some (.cells #[.slice a xs.length c, .int .i64 (hyp xs : Int), .int .i64 (t : Int), .slice la xs.length lc] 43)) := ⟨HT.out.1.keep hk5, hk5.at' HT.out.2.1 (fun h => h)⟩; clear hk5 mo)
            clear y0 y1 y2 y3 fz
            have c1 := HC.out w5 H5.out.1.k
            have ad := H5.out.1.adv HV.out x
            obtain ⟨E, hE⟩ : ∃ E, adE t x = E := ⟨_, rfl⟩
            obtain ⟨T, hT⟩ : ∃ T, adT t x = T := ⟨_, rfl⟩
            rw [hE, hT] at ad
            have HET : Hid (adE t x = E ∧ adT t x = T ∧ T < 1099511627776) := ⟨hE, hT, by rw [← hT]; exact adT_lt HT.out.2.2⟩
            clear hE hT
            go_upto_region 13 with (go_at_call 11; refine ad.mono ?_; rintro e w6 ⟨rfl, hx6, hb6⟩; have H6 : Hid (Ex w w6 (fun k => k = z) d xs T t a c la lc ∧ w6.heap[z]? = some (.cells #[.slice a xs.length c, .int .i64 (hyp xs : Int), .int .i64 (t : Int), .slice la xs.length lc] 43)) := ⟨hx6, hb6 z _ rfl H5.out.2⟩; clear hx6 hb6 ad)
            clear c1
            have HR : Hid (∀ (Z : Nat → Prop) w', Ex w w' Z d xs T t a c la lc → Calls Tryz.prog 24 #[.agg #[.slice a xs.length c, .int .i64 (hyp xs : Int), .int .i64 t, .slice la xs.length lc], .int .i64 x] w' fun e w'' => ∃ a' c' la' lc', e = .returned (.tuple #[.agg #[.slice a' xs.length c', .int .i64 (hyp xs : Int), .int .i64 (T : Int), .slice la' xs.length lc'], .int .i64 E]) ∧ Ex w w'' Z d xs T T a' c' la' lc' ∧ Kept No w' w'') := fun Z w' hx => by
              have := hx.radv HV.out HT.out.2.2 x
              rw [HET.out.1, HET.out.2.1] at this
              exact this
            have HX1 : Hid (Ex w w6.drew (fun k => k = z) d xs T t a c la lc ∧ w6.drew.heap[z]? = some (.cells #[.slice a xs.length c, .int .i64 (hyp xs : Int), .int .i64 (t : Int), .slice la xs.length lc] 43)) := ⟨H6.out.1.keep ((Kept.refl No w6).drew), H6.out.2⟩
            have HX2 : Hid (Ex w (w6.drew.alloc (.cells #[.slice none 0 0, .int .i64 0, .int .i64 0, .slice none 0 0] 43)) (fun k => k = z ∨ k = w6.heap.size) d xs T t a c la lc ∧ (w6.drew.alloc (.cells #[.slice none 0 0, .int .i64 0, .int .i64 0, .slice none 0 0] 43)).heap[z]? = some (.cells #[.slice a xs.length c, .int .i64 (hyp xs : Int), .int .i64 (t : Int), .slice la xs.length lc] 43) ∧ (w6.drew.alloc (.cells #[.slice none 0 0, .int .i64 0, .int .i64 0, .slice none 0 0] 43)).heap[w6.heap.size]? = some (.cells #[.slice none 0 0, .int .i64 0, .int .i64 0, .slice none 0 0] 43)) := ⟨HX1.out.1.more ((Kept.refl No w6.drew).alloc _) (Nat.le_refl _) (by simp), ((Kept.refl No w6.drew).alloc _).at' HX1.out.2 (fun h => h), World.alloc_heap_new _ _⟩
            obtain ⟨y0, y1, y2, y3, fz⟩ := hid_cells4 H6.out.2
            have c1 := HC.out w6 H6.out.1.k
            have hki : (k : Int) < (sn : Int) := by omega
            have n1 : ¬ w6.heap.size = z := by have := heap_lt H6.out.2; omega
            have n2 : ¬ w6.heap.size = g := by have := cell_lt c1; simp only at this; omega
            go_region_held (fun w' => w'.cell? ⟨z, 0, none⟩ = some (.slice a xs.length c) ∧ w'.cell? ⟨z, 1, none⟩ = some (.int .i64 (hyp xs : Int)) ∧ w'.cell? ⟨z, 2, none⟩ = some (.int .i64 (t : Int)) ∧ w'.cell? ⟨z, 3, none⟩ = some (.slice la xs.length lc) ∧ w'.cell? ⟨g, o + k, none⟩ = some (.int .i64 x)) (go_keep) (first
              | (go_at_call 24; refine (HR.out _ _ HX1.out.1).mono ?_; rintro e w7 ⟨a', c', la', lc', rfl, hx7, hk7⟩; have H7 : Hid (Ex w w7 (fun k => k = z) d xs T T a' c' la' lc' ∧ w7.heap[z]? = some (.cells #[.slice a xs.length c, .int .i64 (hyp xs : Int), .int .i64 (t : Int), .slice la xs.length lc] 43)) := ⟨hx7, hk7.at' HX1.out.2 (fun h => h)⟩; obtain ⟨v0, v1, v2, v3, _⟩ := hid_cells4 H7.out.2; have v4 := HC.out w7 H7.out.1.k; have n3 : ¬ w7.heap.size = z := (by have := heap_lt H7.out.2; omega); have n4 : ¬ w7.heap.size = g := (by have := cell_lt v4; simp only at this; omega); clear hx7 hk7)
              | (go_at_call 24; refine (HR.out _ _ HX2.out.1).mono ?_; rintro e w7 ⟨a', c', la', lc', rfl, hx7, hk7⟩; have H7 : Hid (Ex w w7 (fun k => k = z ∨ k = w6.heap.size) d xs T T a' c' la' lc' ∧ w7.heap[z]? = some (.cells #[.slice a xs.length c, .int .i64 (hyp xs : Int), .int .i64 (t : Int), .slice la xs.length lc] 43) ∧ w7.heap[w6.heap.size]? = some (.cells #[.slice none 0 0, .int .i64 0, .int .i64 0, .slice none 0 0] 43)) := ⟨hx7, hk7.at' HX2.out.2.1 (fun h => h), hk7.at' HX2.out.2.2 (fun h => h)⟩; obtain ⟨v0, v1, v2, v3, _⟩ := hid_cells4 H7.out.2.1; obtain ⟨o0, o1, o2, o3, of⟩ := hid_cells4 H7.out.2.2; have v4 := HC.out w7 H7.out.1.k; clear hx7 hk7))
            · have b8 := World.alloc_heap_new w7 (.cells #[.slice a' xs.length c', .int .i64 (hyp xs : Int), .int .i64 (T : Int), .slice la' xs.length lc'] 43)
              have H8 : Hid (Ex w (w7.alloc (.cells #[.slice a' xs.length c', .int .i64 (hyp xs : Int), .int .i64 (T : Int), .slice la' xs.length lc'] 43)) (fun k => k = z ∨ k = w7.heap.size) d xs T T a' c' la' lc' ∧ (w7.alloc (.cells #[.slice a' xs.length c', .int .i64 (hyp xs : Int), .int .i64 (T : Int), .slice la' xs.length lc'] 43)).heap[z]? = some (.cells #[.slice a xs.length c, .int .i64 (hyp xs : Int), .int .i64 (t : Int), .slice la xs.length lc] 43) ∧ (w7.alloc (.cells #[.slice a' xs.length c', .int .i64 (hyp xs : Int), .int .i64 (T : Int), .slice la' xs.length lc'] 43)).heap[w7.heap.size]? = some (.cells #[.slice a' xs.length c', .int .i64 (hyp xs : Int), .int .i64 (T : Int), .slice la' xs.length lc'] 43) ∧ z ≠ w7.heap.size) := ⟨H7.out.1.more ((Kept.refl No w7).alloc _) (Nat.le_refl _) (heap_lt b8), ((Kept.refl No w7).alloc _).at' H7.out.2 (fun h => h), b8, by have := heap_lt H7.out.2; omega⟩
              clear b8 H7 v0 v1 v2 v3 v4 n1 n2 n3 n4 y0 y1 y2 y3 fz c1 HX1 HX2 HR
              generalize w7.alloc (.cells #[.slice a' xs.length c', .int .i64 (hyp xs : Int), .int .i64 (T : Int), .slice la' xs.length lc'] 43) = w8 at *
              generalize w7.heap.size = y at *
              have hzy : z ≠ y := H8.out.2.2.2
              obtain ⟨y0, y1, y2, y3, fz⟩ := hid_cells4 H8.out.2.1
              obtain ⟨o0, o1, o2, o3, of⟩ := hid_cells4 H8.out.2.2.1
              go_upto_region 15 with fail
              have H9 : Hid (Ex w ((((w8.setCell ⟨z, 0, none⟩ (.slice a' xs.length c')).setCell ⟨z, 1, none⟩ (.int .i64 (hyp xs : Int))).setCell ⟨z, 2, none⟩ (.int .i64 (T : Int))).setCell ⟨z, 3, none⟩ (.slice la' xs.length lc')) (fun k => k = z ∨ k = y) d xs T T a' c' la' lc' ∧ ((((w8.setCell ⟨z, 0, none⟩ (.slice a' xs.length c')).setCell ⟨z, 1, none⟩ (.int .i64 (hyp xs : Int))).setCell ⟨z, 2, none⟩ (.int .i64 (T : Int))).setCell ⟨z, 3, none⟩ (.slice la' xs.length lc')).heap[z]? = some (.cells #[.slice a' xs.length c', .int .i64 (hyp xs : Int), .int .i64 (T : Int), .slice la' xs.length lc'] 43)) := ⟨H8.out.1.box ((set4_keptF (q := z) w8 _ _ _ _).mono (fun k h => .inl h)), set4' H8.out.2.1 _ _ _ _⟩
              clear y0 y1 y2 y3 fz o0 o1 o2 o3 of H8
              generalize ((((w8.setCell ⟨z, 0, none⟩ (.slice a' xs.length c')).setCell ⟨z, 1, none⟩ (.int .i64 (hyp xs : Int))).setCell ⟨z, 2, none⟩ (.int .i64 (T : Int))).setCell ⟨z, 3, none⟩ (.slice la' xs.length lc')) = w9 at *
              obtain ⟨y0, y1, y2, y3, fz⟩ := hid_cells4 H9.out.2
              have tl := H9.out.1.told HV.out HET.out.2.2
              go_wp2_with (go_at_call 22; refine tl.mono ?_; rintro e w10 ⟨rfl, hk10⟩; have H10 : Hid (Ex w w10 (fun k => k = z ∨ k = y) d xs T T a' c' la' lc' ∧ w10.heap[z]? = some (.cells #[.slice a' xs.length c', .int .i64 (hyp xs : Int), .int .i64 (T : Int), .slice la' xs.length lc'] 43)) := ⟨H9.out.1.keep hk10, hk10.at' H9.out.2 (fun h => h)⟩; clear hk10 tl)
              go_roundw
              case rel => exact ⟨T, k + 1, _, _, _, _, HET.out.2.2, by omega, by go_num, H10.out.1.less (fun k h => .inl h), H10.out.2⟩
              case measure => simp [intOf]; omega
            · have H8 : Hid (Ex w ((((w7.setCell ⟨w6.heap.size, 0, none⟩ (.slice a' xs.length c')).setCell ⟨w6.heap.size, 1, none⟩ (.int .i64 (hyp xs : Int))).setCell ⟨w6.heap.size, 2, none⟩ (.int .i64 (T : Int))).setCell ⟨w6.heap.size, 3, none⟩ (.slice la' xs.length lc')) (fun k => k = z ∨ k = w6.heap.size) d xs T T a' c' la' lc' ∧ ((((w7.setCell ⟨w6.heap.size, 0, none⟩ (.slice a' xs.length c')).setCell ⟨w6.heap.size, 1, none⟩ (.int .i64 (hyp xs : Int))).setCell ⟨w6.heap.size, 2, none⟩ (.int .i64 (T : Int))).setCell ⟨w6.heap.size, 3, none⟩ (.slice la' xs.length lc')).heap[z]? = some (.cells #[.slice a xs.length c, .int .i64 (hyp xs : Int), .int .i64 (t : Int), .slice la xs.length lc] 43) ∧ ((((w7.setCell ⟨w6.heap.size, 0, none⟩ (.slice a' xs.length c')).setCell ⟨w6.heap.size, 1, none⟩ (.int .i64 (hyp xs : Int))).setCell ⟨w6.heap.size, 2, none⟩ (.int .i64 (T : Int))).setCell ⟨w6.heap.size, 3, none⟩ (.slice la' xs.length lc')).heap[w6.heap.size]? = some (.cells #[.slice a' xs.length c', .int .i64 (hyp xs : Int), .int .i64 (T : Int), .slice la' xs.length lc'] 43) ∧ z ≠ w6.heap.size) := ⟨H7.out.1.box ((set4_keptF (q := w6.heap.size) w7 _ _ _ _).mono (fun k h => .inr h)), (set4_keptF (q := w6.heap.size) w7 _ _ _ _).at' H7.out.2.1 (fun h => n1 h.symm), set4' H7.out.2.2 _ _ _ _, fun h => n1 h.symm⟩
              clear H7 v0 v1 v2 v3 v4 n1 n2 y0 y1 y2 y3 fz c1 HX1 HX2 HR o0 o1 o2 o3 of
              generalize ((((w7.setCell ⟨w6.heap.size, 0, none⟩ (.slice a' xs.length c')).setCell ⟨w6.heap.size, 1, none⟩ (.int .i64 (hyp xs : Int))).setCell ⟨w6.heap.size, 2, none⟩ (.int .i64 (T : Int))).setCell ⟨w6.heap.size, 3, none⟩ (.slice la' xs.length lc')) = w8 at *
              generalize w6.heap.size = y at *
              have hzy : z ≠ y := H8.out.2.2.2
              obtain ⟨y0, y1, y2, y3, fz⟩ := hid_cells4 H8.out.2.1
              obtain ⟨o0, o1, o2, o3, of⟩ := hid_cells4 H8.out.2.2.1
              go_upto_region 15 with fail
              have H9 : Hid (Ex w ((((w8.setCell ⟨z, 0, none⟩ (.slice a' xs.length c')).setCell ⟨z, 1, none⟩ (.int .i64 (hyp xs : Int))).setCell ⟨z, 2, none⟩ (.int .i64 (T : Int))).setCell ⟨z, 3, none⟩ (.slice la' xs.length lc')) (fun k => k = z ∨ k = y) d xs T T a' c' la' lc' ∧ ((((w8.setCell ⟨z, 0, none⟩ (.slice a' xs.length c')).setCell ⟨z, 1, none⟩ (.int .i64 (hyp xs : Int))).setCell ⟨z, 2, none⟩ (.int .i64 (T : Int))).setCell ⟨z, 3, none⟩ (.slice la' xs.length lc')).heap[z]? = some (.cells #[.slice a' xs.length c', .int .i64 (hyp xs : Int), .int .i64 (T : Int), .slice la' xs.length lc'] 43)) := ⟨H8.out.1.box ((set4_keptF (q := z) w8 _ _ _ _).mono (fun k h => .inl h)), set4' H8.out.2.1 _ _ _ _⟩
              clear y0 y1 y2 y3 fz o0 o1 o2 o3 of H8
              generalize ((((w8.setCell ⟨z, 0, none⟩ (.slice a' xs.length c')).setCell ⟨z, 1, none⟩ (.int .i64 (hyp xs : Int))).setCell ⟨z, 2, none⟩ (.int .i64 (T : Int))).setCell ⟨z, 3, none⟩ (.slice la' xs.length lc')) = w9 at *
              obtain ⟨y0, y1, y2, y3, fz⟩ := hid_cells4 H9.out.2
              have tl := H9.out.1.told HV.out HET.out.2.2
              go_wp2_with (go_at_call 22; refine tl.mono ?_; rintro e w10 ⟨rfl, hk10⟩; have H10 : Hid (Ex w w10 (fun k => k = z ∨ k = y) d xs T T a' c' la' lc' ∧ w10.heap[z]? = some (.cells #[.slice a' xs.length c', .int .i64 (hyp xs : Int), .int .i64 (T : Int), .slice la' xs.length lc'] 43)) := ⟨H9.out.1.keep hk10, hk10.at' H9.out.2 (fun h => h)⟩; clear hk10 tl)
              go_roundw
              case rel => exact ⟨T, k + 1, _, _, _, _, HET.out.2.2, by omega, by go_num, H10.out.1.less (fun k h => .inl h), H10.out.2⟩
              case measure => simp [intOf]; omega
          · go_wp2_with (go_at_call 23; refine mo.mono ?_; rintro e w5 ⟨rfl, hk5⟩; have H5 : Hid (Kept No w w5) := HT.out.1.k.trans hk5 (fun _ h => h.elim); clear hk5 mo)
            go_ret
            exact ⟨rfl, H5.out.below0⟩
        · clear hk
          go_wp2
          go_ret
          exact ⟨rfl, HT.out.1.k.below0⟩
end Go.Proofs.YtffgcijicmfmlaaGreatDoor
