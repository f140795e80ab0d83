/-
  ObjectsLoad: what its calls answer, as states that are read.
-/
import Derived.Test.YtggkajopfbokjaaORoomy
import Derived.Test.YtggkajopfbokjaaOSameS
import Derived.Test.YtggkajopfbokjaaOSpoil
import Derived.Test.YtggkajopfbokjaaOIntact
import Derived.Test.YtggkajopfbokjaaORefL
import Derived.Test.YtggkajopfbokjaaOShort
namespace Go.Proofs.Ytggkajopfbokjaa
open Go.RowKit
set_option linter.unusedVariables false
set_option maxRecDepth 100000

theorem Ow.or {w w' : World} {ts te tb : Value} {cs : List Int} {us : List Value} {xss : List (List (List Int))} (h : Ow w w' ts te tb cs us xss) : ∃ lvs mss, lvs.length = xss.length ∧ Or w' (fun k => w.heap.size ≤ k ∧ k < w'.heap.size) ts te tb cs us lvs mss xss := by
  obtain ⟨lvs, mss, h1, h2, h3, h5⟩ := h
  refine ⟨lvs, mss, h3.len2.symm, ?_, ?_, ?_, h3.len1, h3.len2, fun i lv ms xs q1 q2 q3 => ?_⟩
  · obtain ⟨a, c, e, z⟩ := Zs.of_owns h1
    exact ⟨a, c, e, z.mono (fun k hk => owns_at h1 hk)⟩
  · obtain ⟨a, c, e, z⟩ := Vs.of_owns h2
    exact ⟨a, c, e, z.mono (fun k hk => owns_at h2 hk)⟩
  · obtain ⟨a, c, e, z⟩ := Vs.of_owns h3.own
    exact ⟨a, c, e, z.mono (fun k hk => owns_at h3.own hk)⟩
  · have L := h3.ent i lv ms xs q1 q2 q3
    refine ⟨?_, L.len, fun j v x hv hx => ?_⟩
    · obtain ⟨a, c, e, z⟩ := Vs.of_owns L.own
      exact ⟨a, c, e, z.mono (fun k hk => owns_at L.own hk)⟩
    · have ho := L.msg j v x hv hx
      obtain ⟨a, c, e, z⟩ := Zs.of_owns ho
      exact ⟨a, c, e, z.mono (fun k hk => owns_at ho hk)⟩
theorem Rw.vs {w : World} {B : Nat} {t : TypeId} {v : Value} {us mk : List Value} (h : Rw w B t 1 v us.length us mk) : ∃ a c, v = .slice a us.length c ∧ Vs w (fun k => B ≤ k ∧ k < w.heap.size) a us.length c us := by
  obtain ⟨g, c, rfl, h1, h2, h3⟩ := h
  have hb := owns_at h3 (k := g) rfl
  refine ⟨_, c, rfl, ⟨rfl, by omega, h2, fun h => (by cases h), fun i u hu => ⟨g, 0, rfl, hb, ?_⟩⟩⟩
  have hi := (List.getElem?_eq_some_iff.1 hu).1
  have := h3.cells (g := g) rfl i u (by rw [List.getElem?_append_left hi]; exact hu)
  rw [add_none, Nat.zero_add] at this
  rw [Nat.zero_add]
  exact this
theorem Vs.zs {w : World} {F : Nat → Prop} {a : Option Addr} {c : Nat} {xs : List Int} (h : Vs w F a (xs.map iv).length c (xs.map iv)) : Zs w F a xs.length c xs := by
  have hl : (xs.map iv).length = xs.length := List.length_map _
  refine ⟨rfl, by have := h.cap; omega, h.max, h.nil, fun i hi => ?_⟩
  obtain ⟨b, o, e, hb, hc⟩ := h.at' i (iv (xs.getD i 0)) (by simp [List.getD, hi])
  exact ⟨b, o, e, hb, hc⟩
theorem Rw.zs {w : World} {B : Nat} {t : TypeId} {v : Value} {xs : List Int} {mk : List Value} (h : Rw w B t 1 v xs.length (xs.map iv) mk) : ∃ a c, v = .slice a xs.length c ∧ Zs w (fun k => B ≤ k ∧ k < w.heap.size) a xs.length c xs := by
  have hl : (xs.map iv).length = xs.length := List.length_map _
  obtain ⟨a, c, e, z⟩ := Rw.vs (us := xs.map iv) (by rw [hl]; exact h)
  exact ⟨a, c, by rw [e, hl], z.zs⟩
/-- what roomy answers -/
structure Rm (w : World) (B : Nat) (ts te tb : Value) (cs : List Int) (us lvs : List Value) (mss : List (List Value)) (xss : List (List (List Int))) (hb : Nat) : Prop where
  r1 : Rw w B 3 1 ts cs.length (cs.map iv) [.int .i64 (-77)]
  r2 : Rw w B 4 1 te us.length us [.bool true]
  r3 : Rw w B 40 1 tb lvs.length lvs [.slice (some ⟨hb, 0, none⟩) 1 1]
  l1 : mss.length = lvs.length
  l2 : xss.length = lvs.length
  ent : ∀ (i : Nat) (lv : Value) (ms : List Value) (xs : List (List Int)), lvs[i]? = some lv → mss[i]? = some ms → xss[i]? = some xs → Lr w B lv ms xs
namespace Rm
variable {w w' : World} {B : Nat} {ts te tb : Value} {cs : List Int} {us lvs : List Value} {mss : List (List Value)} {xss : List (List (List Int))} {hb : Nat}
theorem keep (h : Rm w B ts te tb cs us lvs mss xss hb) (K : Kept No w w') : Rm w' B ts te tb cs us lvs mss xss hb :=
  ⟨h.r1.kept K (fun _ _ e => e), h.r2.kept K (fun _ _ e => e), h.r3.kept K (fun _ _ e => e), h.l1, h.l2, fun i lv ms xs q1 q2 q3 => (h.ent i lv ms xs q1 q2 q3).kept K (fun _ _ _ _ _ e => e)⟩
theorem or (h : Rm w B ts te tb cs us lvs mss xss hb) : Or w (fun k => B ≤ k ∧ k < w.heap.size) ts te tb cs us lvs mss xss := by
  refine ⟨h.r1.zs, h.r2.vs, h.r3.vs, h.l1, h.l2, fun i lv ms xs q1 q2 q3 => ?_⟩
  have L := h.ent i lv ms xs q1 q2 q3
  obtain ⟨hh, L1, _⟩ := L.own
  refine ⟨L1.vs, L.len, fun j v x hv hx => (L.msg j v x hv hx).zs⟩
theorem good (h : Rm w B ts te tb cs us lvs mss xss hb) {M : Nat} (hM : w.heap.size ≤ M) {i : Nat} {lv : Value} (hl : lvs[i]? = some lv) : GoodL w B M lv := by
  have hi := (List.getElem?_eq_some_iff.1 hl).1
  have L := h.ent i lv _ _ hl (List.getElem?_eq_getElem (by rw [h.l1]; exact hi)) (List.getElem?_eq_getElem (by rw [h.l2]; exact hi))
  generalize mss[i]'(by rw [h.l1]; exact hi) = ms at L
  generalize xss[i]'(by rw [h.l2]; exact hi) = xs at L
  obtain ⟨hh, ⟨g, c, rfl, h1, h2, h3⟩, _⟩ := L.own
  have ha := owns_at h3 (k := g) rfl
  have hc := h3
  obtain ⟨_, ⟨e, _⟩ | ⟨g', cap, cur, e, b1, b2, b3, b4, b5, b6⟩⟩ := h3
  · cases e
  · injection e with e1 e2 e3
    injection e1 with e1
    injection e1 with e1 _ _
    subst e1 e3
    refine ⟨_, ms.length, c, rfl, by omega, h2, .inr ⟨g, rfl, b1, by omega, cur, b2, by omega, fun j u hj hu => ?_⟩⟩
    have hjm : (ms ++ [Value.slice (some ⟨hh, 0, none⟩) 1 1])[j]? = some ms[j] := by rw [List.getElem?_append_left hj, List.getElem?_eq_getElem hj]
    have hcj := hc.cells (g := g) rfl j _ hjm
    rw [add_none, Nat.zero_add, cell_blk b2, hu] at hcj
    injection hcj with hcj
    subst hcj
    have hjx : j < xs.length := by rw [L.len]; exact hj
    obtain ⟨gm, cm, em, m1, m2, m3⟩ := L.msg j _ _ (List.getElem?_eq_getElem hj) (List.getElem?_eq_getElem hjx)
    have ma := owns_at m3 (k := gm) rfl
    have mc := m3
    obtain ⟨_, ⟨e, _⟩ | ⟨g2, cap2, cur2, e, d1, d2, d3, d4, d5, d6⟩⟩ := m3
    · cases e
    · injection e with e1 e2 e3
      injection e1 with e1
      injection e1 with e1 _ _
      subst e1 e3
      refine ⟨_, _, cm, em, by omega, m2, .inr ⟨gm, rfl, d1, by omega, cur2, d2, by omega, fun l u hl hu => ?_⟩⟩
      have hlm : ((xs[j].map iv) ++ [Value.int .i64 (-77)])[l]? = some (iv (xs[j].getD l 0)) := by
        rw [List.getElem?_append_left (by rw [List.length_map]; exact hl)]
        simp [List.getD, hl]
      have hcl := mc.cells (g := gm) rfl l _ hlm
      rw [add_none, Nat.zero_add, cell_blk d2, hu] at hcl
      injection hcl with hcl
      exact ⟨_, hcl⟩
end Rm
theorem Rs.vs {w : World} {B M : Nat} {t : TypeId} {v : Value} {us : List Value} (h : Rs w B M t v us) : ∃ a c, v = .slice a us.length c ∧ Vs w (fun k => B ≤ k ∧ k < M) a us.length c us := by
  rcases h with ⟨rfl, rfl⟩ | ⟨g, c, m, L, rfl, h1, h2, h3, h4, h5⟩
  · exact ⟨none, 0, rfl, ⟨rfl, Nat.le_refl _, by omega, fun _ => rfl, fun i u hu => (by cases hu)⟩⟩
  · refine ⟨_, c, rfl, ⟨rfl, h1, h2, fun h => (by cases h), fun i u hu => ⟨g, 0, rfl, ⟨h3, h4⟩, ?_⟩⟩⟩
    have hi := (List.getElem?_eq_some_iff.1 hu).1
    have := h5.cells (g := g) rfl i u (by rw [List.getElem?_append_left hi]; exact hu)
    rw [add_none, Nat.zero_add] at this
    rw [Nat.zero_add]
    exact this
/-- a state that was spoilt is read so -/
theorem Sy.or {w wr : World} {B M : Nat} {ts te tb : Value} {n m : Nat} {us : List Value} (h : Sy w wr B M ts te tb (List.replicate n (.int .i64 (-9))) us (List.replicate m (.slice none 0 0))) : Or wr (fun k => B ≤ k ∧ k < M) ts te tb (List.replicate n (-9)) us (List.replicate m (.slice none 0 0)) (List.replicate m []) (List.replicate m []) := by
  have e1 : (List.replicate n (.int .i64 (-9)) : List Value) = (List.replicate n (-9)).map iv := by simp [iv]
  refine ⟨?_, h.evs.vs, h.bufs.vs, by simp, by simp, fun i lv ms xs q1 q2 q3 => ?_⟩
  · have hs := h.sems
    rw [e1] at hs
    obtain ⟨a, c, e, z⟩ := hs.vs
    have hl : ((List.replicate n (-9)).map iv).length = (List.replicate n (-9 : Int)).length := List.length_map _
    exact ⟨a, c, by rw [e, hl], z.zs⟩
  · have a1 : lv = .slice none 0 0 := by
      rw [List.getElem?_replicate] at q1
      split at q1
      · injection q1 with q1; exact q1.symm
      · cases q1
    have a2 : ms = [] := by
      rw [List.getElem?_replicate] at q2
      split at q2
      · injection q2 with q2; exact q2.symm
      · cases q2
    have a3 : xs = [] := by
      rw [List.getElem?_replicate] at q3
      split at q3
      · injection q3 with q3; exact q3.symm
      · cases q3
    subst a1 a2 a3
    exact ⟨⟨none, 0, rfl, vs_none _ _⟩, rfl, fun j v x hv => (by cases hv)⟩
theorem okL_lvs {n ne nb : Nat} {q p' q' : Nat → Int} {cs : List Int} {us lvs lvs' : List Value} {xss : List (List (List Int))} (h : lvs.length = lvs'.length) : okL n ne nb q p' q' cs us lvs xss ↔ okL n ne nb q p' q' cs us lvs' xss := by
  unfold okL
  rw [h]
/-- a set that was loaded tells what it was loaded with -/
theorem full_cs {n : Nat} {cs : List Int} {p : Nat → Int} (h : cs.length = n) : (List.range n).map (ck cs p n) = cs := by
  apply List.ext_getElem?
  intro i
  by_cases hi : i < n
  · simp [hi, ck, List.getD, show i < cs.length by omega]
  · simp [hi, show cs.length ≤ i by omega]
theorem full_us {ne : Nat} {us : List Value} {f : Nat → Bool} (h : us.length = ne) (hf : ∀ i, i < us.length → us[i]? = some (.bool (f i))) : (List.range ne).map (fun i => Value.bool (f i)) = us := by
  apply List.ext_getElem?
  intro i
  by_cases hi : i < ne
  · rw [hf i (by omega)]; simp [hi]
  · simp [hi, show us.length ≤ i by omega]
theorem full_xs {nb : Nat} {xss : List (List (List Int))} (h : xss.length = nb) : (List.range nb).map (xf xss nb 0) = xss := by
  apply List.ext_getElem?
  intro i
  by_cases hi : i < nb
  · simp [hi, xf, List.getD, show i < xss.length by omega]
  · simp [hi, show xss.length ≤ i by omega]
theorem Rw.pp {w : World} {B : Nat} {t : TypeId} {v : Value} {n : Nat} {p q : Nat → Int} {mk : List Value} (h : Rw w B t 2 v n (cat (sF p q) n) mk) : ∃ g c, v = .slice (some ⟨g, 0, none⟩) n c ∧ Pp w (fun _ => True) (some ⟨g, 0, none⟩) n c p q := by
  obtain ⟨g, c, rfl, h1, h2, h3⟩ := h
  refine ⟨g, c, rfl, ⟨by omega, h2, fun i hi => ⟨g, 0, rfl, trivial, ?_⟩⟩⟩
  have at' : ∀ j, j < 2 → w.cell? ⟨g, 0 + i * 2 + j, none⟩ = (sF p q i)[j]? := fun j hj => by
    have hx := cat_at (f := sF p q) (s := 2) (fun _ => rfl) n i j hi hj
    have hlt : j < (sF p q i).length := hj
    have hlen := cat_len (f := sF p q) (s := 2) (fun _ => rfl) n
    have := h3.cells (g := g) rfl (i * 2 + j) _ (by rw [List.getElem?_append_left (by omega)]; exact hx.trans (List.getElem?_eq_getElem hlt))
    rw [add_none, Nat.zero_add] at this
    rw [Nat.zero_add, this, List.getElem?_eq_getElem hlt]
  exact ⟨at' 0 (by decide), at' 1 (by decide)⟩
theorem evK_zero {us0 : List Value} {f0 : Nat → Bool} {ne : Nat} (hl : us0.length = ne) (h : ∀ i, i < ne → us0[i]? = some (.bool (f0 i))) : us0 = evK f0 ne 0 := by
  apply List.ext_getElem?
  intro i
  by_cases hi : i < ne
  · rw [h i hi, evK_at f0 ne 0 i hi]
    simp
  · rw [List.getElem?_eq_none (by omega), List.getElem?_eq_none (by simp [evK]; omega)]
theorem Pp.mono {w : World} {F G : Nat → Prop} {a : Option Addr} {n c : Nat} {p q : Nat → Int} (h : Pp w F a n c p q) (hF : ∀ k, F k → G k) : Pp w G a n c p q :=
  ⟨h.cap, h.max, fun i hi => by obtain ⟨b, o, e, hb, r⟩ := h.at' i hi; exact ⟨b, o, e, hF b hb, r⟩⟩
/-- mine: the state with its marks, in its block -/
structure Mi (w : World) (B M m5 : Nat) (ts te tb : Value) (cs : List Int) (us lvs : List Value) (mss : List (List Value)) (xss : List (List (List Int))) (hb : Nat) : Prop where
  rm : Rm w B ts te tb cs us lvs mss xss hb
  s1 : Rs w B M 3 ts (cs.map iv)
  s2 : Rs w B M 4 te us
  s3 : Rs w B M 40 tb lvs
  gd : ∀ (i : Nat) (lv : Value), lvs[i]? = some lv → GoodL w B M lv
  bx : w.heap[m5]? = some (.cells #[ts, te, tb] 55)
  le : M ≤ m5
theorem Mi.keep {w w' : World} {B M m5 : Nat} {ts te tb : Value} {cs : List Int} {us lvs : List Value} {mss : List (List Value)} {xss : List (List (List Int))} {hb : Nat} (h : Mi w B M m5 ts te tb cs us lvs mss xss hb) (K : Kept No w w') : Mi w' B M m5 ts te tb cs us lvs mss xss hb :=
  ⟨h.rm.keep K, h.s1.kept K (fun _ _ e => e), h.s2.kept K (fun _ _ e => e), h.s3.kept K (fun _ _ e => e), fun i lv hl => (h.gd i lv hl).kept K (fun _ _ _ e => e), K.at' h.bx (fun e => e), h.le⟩
theorem Mi.start {w : World} {B : Nat} {ts te tb : Value} {cs : List Int} {us lvs : List Value} {mss : List (List Value)} {xss : List (List (List Int))} {hb : Nat} (h : Rm w B ts te tb cs us lvs mss xss hb) : Mi (w.alloc (.cells #[ts, te, tb] 55)) B w.heap.size w.heap.size ts te tb cs us lvs mss xss hb := by
  have K : Kept No w (w.alloc (.cells #[ts, te, tb] 55)) := (Kept.refl No w).alloc _
  exact ⟨h.keep K, (Rs.of_rw h.r1 (List.length_map _) (Nat.le_refl _)).kept K (fun _ _ e => e), (Rs.of_rw h.r2 rfl (Nat.le_refl _)).kept K (fun _ _ e => e), (Rs.of_rw h.r3 rfl (Nat.le_refl _)).kept K (fun _ _ e => e), fun i lv hl => (h.good (Nat.le_refl _) hl).kept K (fun _ _ _ e => e), alloc_new w _, Nat.le_refl _⟩
/-- part: the partition with its marks, in its block -/
structure Pq (w : World) (B m6 : Nat) (Aq : Array Value) (g1 g2 g3 n ne nb c1 c2 c3 : Nat) (p q1 p' q' : Nat → Int) (us : List Value) : Prop where
  bx : w.heap[m6]? = some (.cells Aq 37)
  hA : Aq.size = 21
  k18 : Aq[18]? = some (.slice (some ⟨g1, 0, none⟩) n c1)
  k19 : Aq[19]? = some (.slice (some ⟨g2, 0, none⟩) ne c2)
  k20 : Aq[20]? = some (.slice (some ⟨g3, 0, none⟩) nb c3)
  r1 : Rw w B 24 2 (.slice (some ⟨g1, 0, none⟩) n c1) n (cat (sF p q1) n) [.int .i64 0, .int .i64 (-77)]
  r2 : Rw w B 4 1 (.slice (some ⟨g2, 0, none⟩) ne c2) ne us [.bool true]
  r3 : Rw w B 27 2 (.slice (some ⟨g3, 0, none⟩) nb c3) nb (cat (sF p' q') nb) [.int .i64 (-77), .int .i64 0]
theorem Pq.kept {w w' : World} {B m6 : Nat} {Aq : Array Value} {g1 g2 g3 n ne nb c1 c2 c3 : Nat} {p q1 p' q' : Nat → Int} {us : List Value} {G : Nat → Prop} (h : Pq w B m6 Aq g1 g2 g3 n ne nb c1 c2 c3 p q1 p' q' us) (K : Kept G w w') (hG : ∀ k, B ≤ k → ¬ G k) (hm : B ≤ m6) : Pq w' B m6 Aq g1 g2 g3 n ne nb c1 c2 c3 p q1 p' q' us :=
  ⟨K.at' h.bx (hG _ hm), h.hA, h.k18, h.k19, h.k20, h.r1.kept K (fun g hg => hG g (h.r1.blk hg).1), h.r2.kept K (fun g hg => hG g (h.r2.blk hg).1), h.r3.kept K (fun g hg => hG g (h.r3.blk hg).1)⟩
theorem Pq.keep {w w' : World} {B m6 : Nat} {Aq : Array Value} {g1 g2 g3 n ne nb c1 c2 c3 : Nat} {p q1 p' q' : Nat → Int} {us : List Value} (h : Pq w B m6 Aq g1 g2 g3 n ne nb c1 c2 c3 p q1 p' q' us) (K : Kept No w w') : Pq w' B m6 Aq g1 g2 g3 n ne nb c1 c2 c3 p q1 p' q' us :=
  ⟨K.at' h.bx (fun e => e), h.hA, h.k18, h.k19, h.k20, h.r1.kept K (fun _ _ e => e), h.r2.kept K (fun _ _ e => e), h.r3.kept K (fun _ _ e => e)⟩
/-- Load of part and a state that is read -/
theorem Pq.load {F : Nat → Prop} {w : World} {B m6 : Nat} {Aq : Array Value} {g1 g2 g3 n ne nb c1 c2 c3 : Nat} {p q1 p' q' : Nat → Int} {us0 : List Value} {f0 f : Nat → Bool} {ts te tb : Value} {cs : List Int} {us lvs : List Value} {mss : List (List Value)} {xss : List (List (List Int))} (h : Pq w B m6 Aq g1 g2 g3 n ne nb c1 c2 c3 p q1 p' q' us0) (hl0 : us0.length = ne) (hf0 : ∀ i, i < ne → us0[i]? = some (.bool (f0 i))) (hn : n ≤ 300) (hne : ne ≤ 300) (hnb : nb ≤ 300) (ho : Or w F ts te tb cs us lvs mss xss) (hf : ∀ i, i < us.length → us[i]? = some (.bool (f i))) (hx : ∀ xs ∈ xss, xs.length ≤ 1099511627775 ∧ ∀ x ∈ xs, x.length ≤ 1099511627775) :
    Calls Try.prog 12 #[.agg Aq, .agg #[ts, te, tb]] w fun e w' => (okL n ne nb q1 p' q' cs us lvs xss ∧ ∃ b, e = .returned (.tuple #[.pointer (some ⟨b, 0, none⟩), .int .i64 0]) ∧ LoadA w w' b n (ck cs p n) q1 ne f nb p' q' (xf xss nb 0)) ∨ (¬ okL n ne nb q1 p' q' cs us lvs xss ∧ e = .returned (.tuple #[.pointer none, .int .i64 20]) ∧ Kept No w w') := by
  obtain ⟨x1, y1, e1, pp1⟩ := h.r1.pp
  obtain ⟨x3, y3, e3, pp3⟩ := h.r3.pp
  injection e1 with e1 _ e1c
  injection e1 with e1
  injection e1 with e1 _ _
  injection e3 with e3 _ e3c
  injection e3 with e3
  injection e3 with e3 _ _
  subst e1 e1c e3 e3c
  obtain ⟨a2, y2, e2, vs2⟩ := Rw.vs (us := us0) (by rw [hl0]; exact h.r2)
  rw [hl0] at e2 vs2
  injection e2 with e2 _ e2c
  subst e2 e2c
  exact load_any (F := fun _ => True) w h.hA h.k18 h.k19 h.k20 pp1 (vs2.mono (fun _ _ => trivial)) pp3 hf0 (by omega) (by omega) (by omega) (Or.mono ho (fun _ _ => trivial)) hf (fun xs hxs => ⟨(hx xs hxs).1, fun x hxx => by have := (hx xs hxs).2 x hxx; omega⟩)
/-- what the law is given -/
structure Lg (w : World) (F : Nat → Prop) (A : Array Value) (sa ea ba : Option Addr) (n sc ne ec nb bc : Nat) (p q1 p' q' : Nat → Int) (us0 : List Value) (f0 : Nat → Bool) (ts te tb : Value) (cs : List Int) (us lvs : List Value) (mss : List (List Value)) (xss : List (List (List Int))) (f : Nat → Bool) : Prop where
  hA : A.size = 21
  hA1 : A.all (·.oneCell') = true
  h18 : A[18]? = some (.slice sa n sc)
  h19 : A[19]? = some (.slice ea ne ec)
  h20 : A[20]? = some (.slice ba nb bc)
  hs : Pp w F sa n sc p q1
  hsn : sa = none → sc = 0
  he : Vs w F ea ne ec us0
  hf0 : ∀ i, i < ne → us0[i]? = some (.bool (f0 i))
  hb : Pp w F ba nb bc p' q'
  hbn : ba = none → bc = 0
  ho : Or w F ts te tb cs us lvs mss xss
  hf : ∀ i, i < us.length → us[i]? = some (.bool (f i))
  hx : ∀ xs ∈ xss, xs.length ≤ 1099511627775 ∧ ∀ x ∈ xs, x.length ≤ 1099511627775
theorem Lg.keep {w w' : World} {F : Nat → Prop} {A : Array Value} {sa ea ba : Option Addr} {n sc ne ec nb bc : Nat} {p q1 p' q' : Nat → Int} {us0 : List Value} {f0 : Nat → Bool} {ts te tb : Value} {cs : List Int} {us lvs : List Value} {mss : List (List Value)} {xss : List (List (List Int))} {f : Nat → Bool} (h : Lg w F A sa ea ba n sc ne ec nb bc p q1 p' q' us0 f0 ts te tb cs us lvs mss xss f) (K : Kept No w w') : Lg w' F A sa ea ba n sc ne ec nb bc p q1 p' q' us0 f0 ts te tb cs us lvs mss xss f :=
  { h with hs := h.hs.kept K (fun _ _ e => e), he := h.he.kept K (fun _ _ e => e), hb := h.hb.kept K (fun _ _ e => e), ho := h.ho.kept K (fun _ _ e => e) }
theorem full_or {w w' : World} {ts te tb : Value} {n ne nb : Nat} {p q p' q' : Nat → Int} {f : Nat → Bool} {it : Nat → Value} {ms : Nat → List Value} {cs : List Int} {us lvs : List Value} {xss : List (List (List Int))} (T : Told w w' ts te tb (soFull n (ck cs p n) q ne f nb p' q' it ms (xf xss nb 0))) (hok : okL n ne nb q p' q' cs us lvs xss) (hl : xss.length = lvs.length) (hf : ∀ i, i < us.length → us[i]? = some (.bool (f i))) : ∃ lvs' mss', lvs'.length = nb ∧ Or w' (fun k => w.heap.size ≤ k) ts te tb cs us lvs' mss' xss := by
  obtain ⟨lvs', mss', h1, h2⟩ := T.or
  refine ⟨lvs', mss', h1, ?_⟩
  have e1 : (List.range (soFull n (ck cs p n) q ne f nb p' q' it ms (xf xss nb 0)).ns).map (soFull n (ck cs p n) q ne f nb p' q' it ms (xf xss nb 0)).cnt = cs := full_cs hok.1
  have e2 : evL (soFull n (ck cs p n) q ne f nb p' q' it ms (xf xss nb 0)) = us := full_us hok.2.1 hf
  have e3 : xsL (soFull n (ck cs p n) q ne f nb p' q' it ms (xf xss nb 0)) (soFull n (ck cs p n) q ne f nb p' q' it ms (xf xss nb 0)).nb = xss := full_xs (by rw [hl]; exact hok.2.2.1)
  rw [e1, e2, e3] at h2
  exact Or.mono h2 (fun k hk => hk.1)
theorem full_sm {w : World} {B b : Nat} {sv ev bv : Value} {n ne nb : Nat} {p q p' q' : Nat → Int} {f : Nat → Bool} {it : Nat → Value} {ms : Nat → List Value} {xss : List (List (List Int))} (st : St w B b sv ev bv (soFull n p q ne f nb p' q' it ms (xf xss nb 0))) (hn : n ≤ 300) (hne : ne ≤ 300) (hnb : nb ≤ 300) (hx : ∀ xs ∈ xss, xs.length ≤ 1099511627775 ∧ ∀ x ∈ xs, x.length ≤ 1099511627775) : Sm (soFull n p q ne f nb p' q' it ms (xf xss nb 0)) := by
  refine ⟨by show n ≤ 4095; omega, by show ne ≤ 4095; omega, by show nb ≤ 4095; omega, fun i hi => ?_⟩
  have hi' : i < nb := hi
  have hl := st.len i hi
  have e : (soFull n p q ne f nb p' q' it ms (xf xss nb 0)).xs i = xss.getD i [] := by show xf xss nb 0 i = _; unfold xf; rw [if_pos hi']
  by_cases hix : i < xss.length
  · have hm : xss.getD i [] ∈ xss := by
      have : xss.getD i [] = xss[i] := by simp [List.getD, hix]
      rw [this]; exact List.getElem_mem hix
    have h0 := hx _ hm
    rw [← hl, e]
    exact ⟨h0.1, fun x hxx => by have := h0.2 x hxx; omega⟩
  · have h0 : xss.getD i [] = [] := by simp [List.getD, show xss.length ≤ i by omega]
    rw [← hl, e, h0]
    exact ⟨by simp, fun x hxx => by cases hxx⟩
theorem rep_hx {m : Nat} : ∀ xs ∈ (List.replicate m [] : List (List (List Int))), xs.length ≤ 1099511627775 ∧ ∀ x ∈ xs, x.length ≤ 1099511627775 := fun xs h => by
  obtain ⟨_, rfl⟩ := List.mem_replicate.1 h
  exact ⟨by simp, fun x hx => by cases hx⟩
theorem evK_full {f : Nat → Bool} {ne : Nat} : ∀ i, i < (evK f ne ne).length → (evK f ne ne)[i]? = some (.bool (!(f i))) := fun i hi => by
  have hi' : i < ne := by simpa [evK] using hi
  rw [evK_at f ne ne i hi', if_pos hi']
theorem evK_one {f : Nat → Bool} {ne k : Nat} : ∀ u ∈ evK f ne k, u.oneCell' = true := fun u hu => by
  unfold evK at hu
  rw [List.mem_map] at hu
  obtain ⟨i, _, rfl⟩ := hu
  rfl
theorem Lg.kept {w w' : World} {F G : Nat → Prop} {A : Array Value} {sa ea ba : Option Addr} {n sc ne ec nb bc : Nat} {p q1 p' q' : Nat → Int} {us0 : List Value} {f0 : Nat → Bool} {ts te tb : Value} {cs : List Int} {us lvs : List Value} {mss : List (List Value)} {xss : List (List (List Int))} {f : Nat → Bool} (h : Lg w F A sa ea ba n sc ne ec nb bc p q1 p' q' us0 f0 ts te tb cs us lvs mss xss f) (K : Kept G w w') (hG : ∀ k, F k → ¬ G k) : Lg w' F A sa ea ba n sc ne ec nb bc p q1 p' q' us0 f0 ts te tb cs us lvs mss xss f :=
  { h with hs := h.hs.kept K hG, he := h.he.kept K hG, hb := h.hb.kept K hG, ho := h.ho.kept K hG }
end Go.Proofs.Ytggkajopfbokjaa
