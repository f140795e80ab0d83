/-
  The world of PortInOrder.
-/
import Derived.Test.YthebokkogeigoaaPWork
namespace Go.Proofs.Ythebokkogeigoaa
open Go.RowKit
set_option linter.unusedVariables false
set_option maxRecDepth 100000

/-- the words, seventy marks behind them -/
def Mks (w : World) (B g n cap : Nat) (xs : List Int) : Prop := w.ownsRow B 2 1 (.slice (some ⟨g, 0, none⟩) (n + 70) cap) (n + 70) (xs.map iv ++ List.replicate 70 (iv (-77)))
theorem mk_more (n : Nat) (xs : List Int) (j : Nat) : xs.map iv ++ List.replicate (j + 1) (iv (-77)) = (xs.map iv ++ List.replicate j (iv (-77))) ++ [iv (-77)] := by
  rw [List.append_assoc]
  congr 1
  exact List.replicate_succ'
set_option maxHeartbeats 2000000 in
theorem marked_any {F : Nat → Prop} {a : Option Addr} {n c : Nat} {xs : List Int} (w : World) (hz : Zs w F a n c xs) (hn : n ≤ 17592186043904) :
    Calls Try.prog 14 #[.slice a n c] w fun r w' => ∃ g cap, r = .returned (.slice (some ⟨g, 0, none⟩) n cap) ∧ Mks w' w.heap.size g n cap xs ∧ Kept No w w' := by
  have hv := hid hz.vs
  clear hz
  go_enter Try.func14, Try.ntmps14
  go_upto_region 4 with (at_builtin; refine wpList_cpv rfl _ _ 22 2 rfl _ 8 Try.underlying22 Try.infoW rfl w.heap.size _ rfl (World.ownsRow_nil _ _ _ _) (Nat.le_refl _) _ n c rfl _ _ hv.out (iv_one xs) (by omega) ?_; intro ya yc w1 o1 k1)
  go_loopw [3, 4] (fun u3 u4 wr => ∃ j : Nat, j ≤ 70 ∧ u4 = .int .i64 j ∧ wr.ownsRow w.heap.size 2 1 u3 (n + j) (xs.map iv ++ List.replicate j (iv (-77))) ∧ Kept No w wr) (fun u3 u4 _ => 70 - (intOf u4).toNat)
  case atStart => exact ⟨0, by omega, rfl, by simpa using o1.out, k1.out.mono (fun k e => by cases e)⟩
  case round =>
    clear o1 k1
    obtain ⟨j, hj, rfl, ho, hk⟩ := hrel
    obtain ⟨va, vn, vc, rfl⟩ := own_slice ho
    have HH := hid (⟨ho, hk⟩ : _ ∧ _)
    by_cases hlt : j < 70
    · have hltz : (j : Int) < 70 := by omega
      have KA : Kept No wr (wr.alloc (.cells #[iv (-77)] 2)) := (Kept.refl No wr).alloc _
      obtain ⟨i0, hi0, hz0, hz1, hz2⟩ := info_parts Try.infoW
      have HA : Hid ((wr.alloc (.cells #[iv (-77)] 2)).ownsRow w.heap.size 2 1 (.slice va vn vc) (n + j) (xs.map iv ++ List.replicate j (iv (-77))) ∧ (∀ k u, ([iv (-77)] : List Value)[k]? = some u → (wr.alloc (.cells #[iv (-77)] 2)).cell? (Addr.add ⟨wr.heap.size, 0, none⟩ k) = some u) ∧ w.heap.size ≤ (wr.alloc (.cells #[iv (-77)] 2)).heap.size) := by
        refine ⟨KA.owns ho (fun _ _ e => e), fun k u hu => ?_, ?_⟩
        · rw [add_none, Nat.zero_add, cell_blk (alloc_new wr _)]
          simpa using hu
        · have h1 := hk.size
          have h2 := KA.size
          omega
      have hI := hid (⟨hi0, hz0, hz1, hz2⟩ : _ ∧ _ ∧ _ ∧ _)
      clear hi0 hz0 hz1 hz2 KA ho hk
      go_wp2_with (at_builtin; refine wpList_append_own _ rfl _ _ 22 rfl w.heap.size 2 i0 _ 1 8 Try.underlying22 hI.out.1 hI.out.2.1 hI.out.2.2.1 hI.out.2.2.2 rfl (by decide) (.slice va vn vc) (n + j) _ rfl HA.out.1 ⟨wr.heap.size, 0, none⟩ 1 1 [iv (-77)] rfl rfl HA.out.2.1 (by intro u hu; simp at hu; subst hu; rfl) (by unfold maxLen; omega) (by omega) HA.out.2.2 ?_; intro v' w' own' grow' _; have HN : Hid (w'.ownsRow w.heap.size 2 1 v' (n + (j + 1)) (xs.map iv ++ List.replicate (j + 1) (iv (-77))) ∧ Kept No w w') := (by
        have kg : Kept (fun k => (Value.slice va vn vc).ownBlock = some k) wr w' := ((Kept.refl (fun k => (Value.slice va vn vc).ownBlock = some k) wr).alloc _).grown grow' (fun k e => .inl e)
        refine ⟨?_, HH.out.2.trans kg (fun k e => .inr (owns_blk HH.out.1 e).1)⟩
        rw [mk_more n xs j, ← Nat.add_assoc]
        exact own'); clear own' grow'; obtain ⟨ta, tn, tc, hv'⟩ := own_slice HN.out.1; subst hv')
      go_roundw
      case rel => exact ⟨j + 1, by omega, by go_num, HN.out⟩
      case measure => simp [intOf]; omega
    · have hltz : ¬ (j : Int) < 70 := by omega
      have hj70 : j = 70 := by omega
      rw [hj70] at ho
      rcases owns_cells ho with ⟨_, h0⟩ | ⟨g, cap, he, _, _, hcn, hcm, _⟩
      · omega
      · injection he with h1 h2 h3
        subst h1 h2 h3
        have HE := hid (⟨ho, hk⟩ : _ ∧ _)
        have hc1 : n ≤ vc := by omega
        have hc2 : (n : Int) ≤ (vc : Int) := by omega
        unfold maxLen at hcm
        clear ho hk HH hj70
        go_wp2
        go_ret
        exact ⟨g, vc, rfl, HE.out⟩

/-- a message that is read -/
def Mg (w : World) (v : Value) (x : List Int) : Prop := ∃ a c, v = .slice a x.length c ∧ Zs w (fun k => ∃ cs, w.heap[k]? = some (.cells cs 2 (0, 0))) a x.length c x
theorem Mg.kept {w w' : World} {G : Nat → Prop} {v : Value} {x : List Int} (h : Mg w v x) (K : Kept G w w') (hG : ∀ k cs, w.heap[k]? = some (.cells cs 2 (0, 0)) → ¬ G k) : Mg w' v x := by
  obtain ⟨a, c, rfl, hz⟩ := h
  refine ⟨a, c, rfl, ⟨hz.len, hz.cap, hz.max, hz.nil, fun i hi => ?_⟩⟩
  obtain ⟨b, o, e, ⟨cs, hb⟩, hc⟩ := hz.at' i hi
  exact ⟨b, o, e, ⟨cs, K.at' hb (hG b cs hb)⟩, K.cell hc (hG b cs hb)⟩
theorem Mg.of_mks {w : World} {B g n cap : Nat} {xs : List Int} (h : Mks w B g n cap xs) (hx : xs.length = n) : Mg w (.slice (some ⟨g, 0, none⟩) n cap) xs := by
  obtain ⟨_, cs, hb⟩ := owns_blk h (g := g) rfl
  rcases owns_cells h with ⟨h0, _⟩ | ⟨g', cap', he, _, _, hcn, hcm, hc, _⟩
  · cases h0
  · injection he with h1 _ h3
    injection h1 with h1
    injection h1 with h1 _ _
    subst h1 h3
    unfold maxLen at hcm
    refine ⟨_, cap, by rw [hx], ⟨rfl, by omega, hcm, fun h => (by cases h), fun i hi => ⟨g, 0, rfl, ⟨cs, hb⟩, ?_⟩⟩⟩
    rw [Nat.zero_add]
    refine hc i _ ?_
    rw [List.getElem?_append_left (by rw [List.length_map]; exact hi)]
    simp [List.getD, hi]
/-- the first thing is left out -/
theorem Qr.rest {w : World} {B : Nat} {t : TypeId} {x : Value} {xs : List Value} {g o cap : Nat} (h : Qr w B t (.slice (some ⟨g, o, none⟩) (x :: xs).length cap) (x :: xs)) : Qr w B t (.slice (if cap = 1 then some ⟨g, o, none⟩ else some ⟨g, o + 1, none⟩) xs.length (cap - 1)) xs := by
  rcases h with ⟨h, _⟩ | ⟨g', o', cap', cs, h1, h2, h3, h4, h5, h6, h7⟩
  · simp at h
  · injection h1 with h1 _ h8
    injection h1 with h1
    injection h1 with h1 h9 _
    subst h1 h8 h9
    rw [List.length_cons] at h4
    refine .inr ⟨g, if cap = 1 then o else o + 1, cap - 1, cs, ?_, h2, h3, by omega, by omega, fun h0 => ?_, fun i y hy => ?_⟩
    · split <;> rfl
    · have := h6 (by omega)
      split <;> omega
    · have h8 := h7 (i + 1) y (by simpa using hy)
      have hi := (List.getElem?_eq_some_iff.1 hy).1
      rw [if_neg (by omega), ← h8]
      congr 1
      omega

/-- the world of PortInOrder but for what the queues hold: the image, its ports, those of the partition, what waits, what is lost -/
structure Wy (w wr : World) (q : Nat) (pv : Value) (la : Option Addr) (n lc : Nat) (ps : Nat → Pr) (part : Int) (b mb c gw gl : Nat) (S : Pd) (wv : Nat → Value) (wm : Nat → List Value) (lo : Nat → Int) : Prop where
  kept : Kept No w wr
  img : wr.heap[q]? = some (.cells #[pv, .slice la n lc, .slice none 0 0] 27 (0, 0))
  lst : wr.ownsRow w.heap.size 30 6 (.slice la n lc) n (cat (fun i => pc (ps i)) n)
  pt : Pt wr w.heap.size b mb c S
  wt : ∃ cw, wr.heap[gw]? = some (.cells cw 47 (0, 0)) ∧ ∀ i, i < n → cw[i]? = some (wv i)
  lt : ∃ cl, wr.heap[gl]? = some (.cells cl 3 (0, 0)) ∧ ∀ i, i < n → cl[i]? = some (.int .i64 (lo i))
  gwl : w.heap.size ≤ gw
  gll : w.heap.size ≤ gl
  que : ∀ i, i < n → Qr wr w.heap.size 22 (wv i) (wm i)
  far : ∀ i k, i < n → (wv i).ownBlock = some k → ¬ Pf b mb S k
  wfar : ∀ i j, i < n → j < n → i ≠ j → Far (wv i) (wv j)
  sn : S.n = n
  own : ∀ i, i < n → S.own i = ((ps i).pt == part)
  frm : ∀ i, i < n → S.own i = true → (S.en i).kd = (ps i).kd ∧ (S.en i).sz = (ps i).sz ∧ (S.en i).dp = (ps i).dp
  room : ∀ i, i < n → S.own i = true → (S.en i).kd = 1 → (S.en i).has = false ∧ ((S.en i).ms.length : Int) ≤ (ps i).dp
/-- what the queues hold: after all but port ex -/
def Cn (wr : World) (n : Nat) (S : Pd) (wm : Nat → List Value) (lo : Nat → Int) (st : Nat) (ex : Nat → Prop) : Prop :=
  ∀ i, i < n → S.own i = true → (S.en i).kd = 1 → ¬ ex i → (S.en i).lost = lo i ∧ 0 ≤ lo i ∧ lo i ≤ st ∧ (wm i).length = (S.en i).xs.length ∧ ∀ (j : Nat) (v : Value) (x : List Int), (wm i)[j]? = some v → (S.en i).xs[j]? = some x → Mg wr v x
namespace Wy
variable {w wr wr' : World} {q : Nat} {pv : Value} {la : Option Addr} {n lc : Nat} {ps : Nat → Pr} {part : Int} {b mb c gw gl : Nat} {S : Pd} {wv : Nat → Value} {wm : Nat → List Value} {lo : Nat → Int} {st : Nat} {ex : Nat → Prop}
theorem keep (h : Wy w wr q pv la n lc ps part b mb c gw gl S wv wm lo) (K : Kept No wr wr') : Wy w wr' q pv la n lc ps part b mb c gw gl S wv wm lo :=
  { h with kept := h.kept.trans K (fun _ e => e.elim), img := K.at' h.img (fun e => e), lst := K.owns h.lst (fun _ _ e => e), pt := h.pt.keep K, wt := by obtain ⟨cw, h1, h2⟩ := h.wt; exact ⟨cw, K.at' h1 (fun e => e), h2⟩, lt := by obtain ⟨cw, h1, h2⟩ := h.lt; exact ⟨cw, K.at' h1 (fun e => e), h2⟩, que := fun i hi => (h.que i hi).kept K (fun _ _ e => e) }
theorem own_idx (h : Wy w wr q pv la n lc ps part b mb c gw gl S wv wm lo) {i : Nat} {x : Int} (hi : S.idx x = some i) : i < n ∧ S.own i = true ∧ x = (i : Int) + 1 := by
  obtain ⟨h1, h2, h3⟩ := Pd.idx_some hi
  rw [h.sn] at h1
  exact ⟨h1, h2, h3⟩
/-- a call about one port -/
theorem did (h : Wy w wr q pv la n lc ps part b mb c gw gl S wv wm lo) {i : Nat} (hi : i < n) (ho : S.own i = true) {e' : En} (d : Did wr wr' w.heap.size (S.en i) e') (h1 : e'.kd = (S.en i).kd) (h2 : e'.sz = (S.en i).sz) (h3 : e'.dp = (S.en i).dp) (h4 : (S.en i).kd = 1 → e'.has = false ∧ (e'.ms.length : Int) ≤ (ps i).dp) :
    Wy w wr' q pv la n lc ps part b mb c gw gl (S.put i e') wv wm lo := by
  obtain ⟨hp, K, fp, _⟩ := h.pt.did (by rw [h.sn]; exact hi) ho d
  have tag : ∀ k cs t, wr.heap[k]? = some (.cells cs t (0, 0)) → t ≠ 90 → t ≠ 22 → ¬ Pw S k := fun k cs t q1 q2 q3 q4 => by
    rcases h.pt.pw_tag q4 q1 with q5 | q5
    · exact q2 q5
    · exact q3 q5
  have en_i : (S.put i e').en i = e' := by show upd S.en i e' i = e'; exact upd_same _ _ _
  have en_j : ∀ j, j ≠ i → (S.put i e').en j = S.en j := fun j hj => by show upd S.en i e' j = _; exact upd_oth _ _ hj
  refine { h with kept := h.kept.trans K (fun k hk => .inr (h.pt.pw_blk hk).1), img := K.at' h.img (tag _ _ _ h.img (by decide) (by decide)), lst := K.owns h.lst (fun k hk => ?_), pt := hp, wt := ?_, lt := ?_, que := fun j hj => (h.que j hj).kept K (fun k hk hk' => h.far j k hj hk (Pt.pw_pf hk')), far := fun j k hj hk hk' => ?_, sn := h.sn, own := h.own, frm := fun j hj hoj => ?_, room := fun j hj hoj hkj => ?_ }
  · obtain ⟨_, cs, q1⟩ := owns_blk h.lst hk
    exact tag _ _ _ q1 (by decide) (by decide)
  · obtain ⟨cw, q1, q2⟩ := h.wt
    exact ⟨cw, K.at' q1 (tag _ _ _ q1 (by decide) (by decide)), q2⟩
  · obtain ⟨cw, q1, q2⟩ := h.lt
    exact ⟨cw, K.at' q1 (tag _ _ _ q1 (by decide) (by decide)), q2⟩
  · rcases fp k hk' with q1 | q1
    · exact h.far j k hj hk q1
    · obtain ⟨_, cs, q2⟩ := (h.que j hj).blk hk
      have := heap_lt q2
      omega
  · by_cases q1 : j = i
    · subst q1
      rw [en_i, h1, h2, h3]
      exact h.frm j hj hoj
    · rw [en_j j q1]
      exact h.frm j hj hoj
  · by_cases q1 : j = i
    · subst q1
      rw [en_i] at hkj ⊢
      exact h4 (by rw [← h1]; exact hkj)
    · rw [en_j j q1] at hkj ⊢
      exact h.room j hj hoj hkj
/-- messages stay behind a call -/
theorem mgs (h : Wy w wr q pv la n lc ps part b mb c gw gl S wv wm lo) {i : Nat} (hi : i < n) (ho : S.own i = true) {e' : En} (d : Did wr wr' w.heap.size (S.en i) e') {v : Value} {x : List Int} (hm : Mg wr v x) : Mg wr' v x := by
  obtain ⟨_, K, _, _⟩ := h.pt.did (by rw [h.sn]; exact hi) ho d
  exact hm.kept K (fun k cs q1 q4 => by
    rcases h.pt.pw_tag q4 q1 with q5 | q5 <;> exact absurd q5 (by decide))
theorem cn (h : Wy w wr q pv la n lc ps part b mb c gw gl S wv wm lo) (H : Cn wr n S wm lo st (fun _ => False)) {i : Nat} (hi : i < n) (ho : S.own i = true) {e' : En} (d : Did wr wr' w.heap.size (S.en i) e') : Cn wr' n (S.put i e') wm lo st (fun j => j = i) := by
  intro j hj hoj hkj hx
  have en_j : (S.put i e').en j = S.en j := by show upd S.en i e' j = _; exact upd_oth _ _ hx
  rw [en_j] at hkj ⊢
  obtain ⟨h1, h2, h3, h4, h5⟩ := H j hj hoj hkj (fun e => e)
  exact ⟨h1, h2, h3, h4, fun l v x hv hx => h.mgs hi ho d (h5 l v x hv hx)⟩
end Wy
theorem Cn.keep {wr wr' : World} {n : Nat} {S : Pd} {wm : Nat → List Value} {lo : Nat → Int} {st : Nat} {ex : Nat → Prop} (h : Cn wr n S wm lo st ex) (K : Kept No wr wr') : Cn wr' n S wm lo st ex := fun i hi ho hk hx => by
  obtain ⟨h1, h2, h3, h4, h5⟩ := h i hi ho hk hx
  exact ⟨h1, h2, h3, h4, fun l v x hv hx => (h5 l v x hv hx).kept K (fun _ _ _ e => e)⟩
theorem Cn.later {wr : World} {n : Nat} {S : Pd} {wm : Nat → List Value} {lo : Nat → Int} {st st' : Nat} {ex : Nat → Prop} (h : Cn wr n S wm lo st ex) (hs : st ≤ st') : Cn wr n S wm lo st' ex := fun i hi ho hk hx => by
  obtain ⟨h1, h2, h3, h4, h5⟩ := h i hi ho hk hx
  exact ⟨h1, h2, by omega, h4, h5⟩
end Go.Proofs.Ythebokkogeigoaa
