/-
  trimmed.
-/
import Derived.Test.YtdohjhhflfnncaaDoorFRd
import Derived.Deep.CutBlock
namespace Go.Proofs.YtdohjhhflfnncaaDoor
open Go.RowKit
set_option linter.unusedVariables false
set_option maxRecDepth 100000

theorem Ls.take {α : Type} {sz : Nat} {El : World → (Nat → Prop) → List Value → α → Prop} {w : World} {F : Nat → Prop} {a : Option Addr} {n c : Nat} {xs : List α} (h : Ls sz El w F a n c xs) {m : Nat} (hm : m ≤ n) : Ls sz El w F a m c (xs.take m) :=
  ⟨by rw [List.length_take, h.len]; omega, by have := h.cap; omega, h.max, h.nil, fun i x hx => by
    rw [List.getElem?_take] at hx
    split at hx
    · exact h.at' i x hx
    · cases hx⟩
def trm1 (x : Ch) : Ch := { x with dst := x.dst.take 70 }
def trmL (L : List Ch) : List Ch := (L.take 70).map trm1
theorem trmL_get {L : List Ch} {i : Nat} {x : Ch} (h : L[i]? = some x) (hi : i < 70) : (trmL L)[i]? = some (trm1 x) := by
  unfold trmL
  rw [List.getElem?_map, List.getElem?_take, if_pos hi, h]; rfl
theorem trmL_len (L : List Ch) : (trmL L).length = min 70 L.length := by simp [trmL]
theorem trm1_ok {x : Ch} (h : okCh x) : okCh (trm1 x) := ⟨h.1, h.2.1, fun y hy => h.2.2.1 y (List.mem_of_mem_take hy), h.2.2.2⟩

theorem flat_get {cs : List Value} : ∀ {CS : List (List Value)} {i k : Nat} {v : Value}, (∀ c ∈ CS, c.length = 5) → CS[i]? = some cs → cs[k]? = some v → CS.flatten[i * 5 + k]? = some v
  | [], i, k, v, _, h, _ => by simp at h
  | c :: CS, 0, k, v, hl, h, hv => by
    simp at h
    subst h
    have : k < c.length := (List.getElem?_eq_some_iff.1 hv).1
    rw [List.flatten_cons, List.getElem?_append_left (by omega), Nat.zero_mul, Nat.zero_add]
    exact hv
  | c :: CS, i + 1, k, v, hl, h, hv => by
    have h5 := hl c (by simp)
    rw [List.flatten_cons, List.getElem?_append_right (by omega), show (i + 1) * 5 + k - c.length = i * 5 + k by omega]
    exact flat_get (fun c hc => hl c (by simp [hc])) (by simpa using h) hv

/-- a list of channels that is made -/
structure Cm (w : World) (F : Nat → Prop) (B : Nat) (v : Value) (X : List Ch) : Prop where
  ex : ∃ CS : List (List Value), w.ownsRow B 50 5 v X.length CS.flatten ∧ CS.length = X.length ∧ (∀ c ∈ CS, c.length = 5) ∧ ∀ (i : Nat) (cs : List Value) (x : Ch), CS[i]? = some cs → X[i]? = some x → elCh w F cs x
theorem Cm.kept {w w' : World} {F G : Nat → Prop} {B : Nat} {v : Value} {X : List Ch} (h : Cm w F B v X) (k : Kept G w w') (hF : ∀ b, F b → ¬ G b) (hv : ∀ b, v.ownBlock = some b → ¬ G b) : Cm w' F B v X := by
  obtain ⟨CS, h1, h2, h3, h4⟩ := h
  exact ⟨CS, k.owns h1 hv, h2, h3, fun i cs x hc hx => elCh_kept k hF cs x (h4 i cs x hc hx)⟩
theorem Cm.ls {w : World} {F : Nat → Prop} {B : Nat} {a : Option Addr} {n c : Nat} {X : List Ch} (h : Cm w F B (.slice a n c) X) : n = X.length ∧ Ls 5 elCh w (fun k => F k ∨ (Value.slice a n c).ownBlock = some k) a n c X := by
  obtain ⟨CS, h1, h2, h3, h4⟩ := h
  have hc := h1
  obtain ⟨hl, ⟨e, h0⟩ | ⟨g, cap, cur, hv, hb, hg, hm, hx, hs, ht⟩⟩ := h1
  · injection e with e1 e2 e3
    subst e1 e2 e3
    have hX : X = [] := List.eq_nil_of_length_eq_zero h0
    subst hX
    exact ⟨rfl, rfl, Nat.le_refl _, by omega, fun _ => rfl, fun i x hx => by simp at hx⟩
  · injection hv with e1 e2 e3
    subst e1 e2 e3
    refine ⟨rfl, rfl, hm, by unfold maxLen at hx; omega, (fun e => (by cases e)), fun i x hx2 => ?_⟩
    have hil := (List.getElem?_eq_some_iff.1 hx2).1
    obtain ⟨cs, hcs⟩ : ∃ cs, CS[i]? = some cs := ⟨_, List.getElem?_eq_getElem (by omega)⟩
    refine ⟨g, 0, cs, rfl, .inr rfl, h3 cs (List.mem_of_getElem? hcs), fun j v hv => ?_, elCh_mono (fun k e => .inl e) cs x (h4 i cs x hcs hx2)⟩
    have := hc.cells (g := g) rfl _ _ (flat_get h3 hcs hv)
    rw [add_none] at this
    rw [Nat.add_assoc]
    exact this
theorem Cm.more {w w' : World} {F : Nat → Prop} {B : Nat} {v v' : Value} {X : List Ch} {CS : List (List Value)} {cs : List Value} {x : Ch} (h2 : CS.length = X.length) (h3 : ∀ c ∈ CS, c.length = 5) (h4 : ∀ (i : Nat) (cs : List Value) (x : Ch), CS[i]? = some cs → X[i]? = some x → elCh w F cs x)
    (ho : w'.ownsRow B 50 5 v' (X.length + 1) (CS.flatten ++ cs)) (hl : cs.length = 5) (he : elCh w F cs x) (k : Kept (fun k => v.ownBlock = some k) w w') (hF : ∀ b, F b → ¬ v.ownBlock = some b) : Cm w' F B v' (X ++ [x]) := by
  refine ⟨CS ++ [cs], by rw [List.length_append, List.flatten_append]; simpa using ho, by simp [h2], fun c hc => ?_, fun i c y hc hy => ?_⟩
  · rcases List.mem_append.1 hc with h | h
    · exact h3 c h
    · simp at h; rw [h]; exact hl
  · refine elCh_kept k hF c y ?_
    by_cases hi : i < CS.length
    · rw [List.getElem?_append_left hi] at hc
      rw [List.getElem?_append_left (by omega)] at hy
      exact h4 i c y hc hy
    · rw [List.getElem?_append_right (by omega)] at hc
      rw [List.getElem?_append_right (by omega)] at hy
      have h0 := (List.getElem?_eq_some_iff.1 hc).1
      simp at h0
      have e1 : i - CS.length = 0 := by omega
      have e2 : i - X.length = 0 := by omega
      rw [e1] at hc
      rw [e2] at hy
      simp at hc hy
      subst hc hy
      exact he
theorem Cm.nil (w : World) (F : Nat → Prop) (B : Nat) : Cm w F B (.slice none 0 0) [] := ⟨[], World.ownsRow_nil _ _ _ _, rfl, (fun c hc => (by cases hc)), (fun i cs x hc => (by simp at hc))⟩

theorem Tryd.infoC5 : (Tryd.prog.info? 50).map (fun i => (i.zero, i.size, i.bytes)) = some (some (.agg #[.int .i64 0, .int .i64 0, .slice none 0 0, .int .i64 0, .int .i64 0]), 5, 56) := by kernel_rfl
theorem wpList_appC {w : World} {ops : Array Oper} {rest : List Oper} {o : Oper} {a : Act} {Q : Exit → Act → World → Prop} (hgd : o.guard = none) (s x : Operand)
    (ho : o.op = .call { callee := .builtin .append, args := #[s, x], argTypes := #[24, 24] }) (B : Nat) (v : Value) (n : Nat) (us : List Value) (hs : a.eval s = v) (hv : w.ownsRow B 50 5 v n us) (hB : B ≤ w.heap.size) (A : Array Value) (ad : Addr) (hx : a.eval x = .slice (some ad) 1 1) (hA : A.size = 5)
    (hnews : ∀ j u, A.toList[j]? = some u → w.cell? (ad.add j) = some u) (h1 : ∀ u ∈ A.toList, u.oneCell' = true) (hn : n ≤ 1048576)
    (h : ∀ ya yc w', Hid (w'.ownsRow B 50 5 (.slice ya (n + 1) yc) (n + 1) (us ++ A.toList)) → Hid (Kept (fun k => v.ownBlock = some k) w w') → wpList Tryd.prog ops Q rest (a.put o.dst (.slice ya (n + 1) yc)) w') : wpList Tryd.prog ops Q (o :: rest) a w := by
  obtain ⟨i0, hi, hz0, hz1, hz2⟩ := info_parts Tryd.infoC5
  obtain ⟨v', w', hr, own1, grow1, _⟩ := run_append_own (P := Tryd.prog) w B 24 o.type 50 i0 _ 5 56 Tryd.underlying24 hi hz0 hz1 hz2 rfl (by decide) v n us hv ad 1 1 A.toList (by simp [hA]) hnews h1 (by unfold maxLen; omega) (by omega) hB
  obtain ⟨ya, yn, yc, rfl⟩ := own_slice own1
  have hyn : yn = n + 1 := by
    obtain ⟨_, ⟨_, h2⟩ | ⟨g, cap, cur, h2, _⟩⟩ := own1
    · omega
    · injection h2
  subst hyn
  refine BigFrame.wpList_want (by simp [Region.wanted, hgd]) fun K hK => ?_
  unfold Oper.wp
  have he : (execOp a.eval o).run Tryd.prog w = .ok (.value (.slice ya (n + 1) yc)) w' := by
    unfold execOp
    simp only [ho, resolve, invoke, builtin, Sem.run_bind, Sem.run_pure, Result.andThen_ok, List.map_toArray, List.map_cons, List.map_nil, hs, hx, hr]
  rw [he]
  exact hK _ _ (h ya yc w' own1 (Kept.grown (Kept.refl (fun k => v.ownBlock = some k) w) grow1 (fun k e => .inl e)))
theorem news_alloc (w : World) (A : Array Value) (t : TypeId) : ∀ j u, A.toList[j]? = some u → (w.alloc (.cells A t)).cell? ((⟨w.heap.size, 0, none⟩ : Addr).add j) = some u := by
  intro j u hu
  rw [add_none, Nat.zero_add, cell_blk (alloc_new w _)]
  simpa using hu

/-- what trimmed answers -/
def Trm (w w' : World) (F : Nat → Prop) (a0 : Option Addr) (n0 c0 : Nat) (a1 : Option Addr) (n1 c1 : Nat) (ps : List Po) (L : List Ch) (e : Ending) : Prop :=
  ∃ a2 n2 c2, e = .returned (.agg #[.slice a0 (min n0 40) c0, .slice a1 (min n1 70) c1, .slice a2 n2 c2]) ∧ Ls 6 elPo w' F a1 (min n1 70) c1 (ps.take 70) ∧ Ls 5 elCh w' (fun k => F k ∨ w.heap.size ≤ k) a2 n2 c2 (trmL L) ∧ Kept No w w'

theorem trm_fin {w w9 : World} {F : Nat → Prop} {B : Nat} {a0 : Option Addr} {n0 c0 : Nat} {a1 : Option Addr} {n1 c1 : Nat} {ps : List Po} {L T : List Ch} {M0 M1 j vc : Nat} {va : Option Addr} {u0 u1 u2 : Value} (hB : w.heap.size = B) (h0 : M0 = min n0 40) (h1 : M1 = min n1 70) (hT : T = trmL L) (hq : Ls 6 elPo w F a1 n1 c1 ps) (hFl : ∀ k, F k → k < w.heap.size) (hk : Kept No w w9) (hc : Cm w9 F (B + 2) (.slice va j vc) T) :
    Trm w (((w9.setCell ⟨B + 1, 0, none⟩ u0).setCell ⟨B + 1, 1, none⟩ u1).setCell ⟨B + 1, 2, none⟩ u2) F a0 n0 c0 a1 n1 c1 ps L (.returned (.agg #[.slice a0 M0 c0, .slice a1 M1 c1, .slice va j vc])) := by
  have kk : Kept (fun k => k = B + 1) w9 (((w9.setCell ⟨B + 1, 0, none⟩ u0).setCell ⟨B + 1, 1, none⟩ u1).setCell ⟨B + 1, 2, none⟩ u2) := (((Kept.refl (fun k => k = B + 1) w9).setCell (p := ⟨B + 1, 0, none⟩) (.inl rfl) _).setCell (p := ⟨B + 1, 1, none⟩) (.inl rfl) _).setCell (p := ⟨B + 1, 2, none⟩) (.inl rfl) _
  have kw := hk.trans kk (fun k e => .inr (by omega))
  have hv : ∀ b, (Value.slice va j vc).ownBlock = some b → B + 2 ≤ b := fun b e => by
    obtain ⟨CS, ho, _⟩ := hc.ex
    exact (owns_at ho e).1
  have hc2 := hc.kept kk (fun b hb e => by have := hFl b hb; omega) (fun b e e2 => by have := hv b e; omega)
  obtain ⟨e1, e2⟩ := hc2.ls
  subst h0 h1 hT
  refine ⟨va, j, vc, rfl, ?_, e2.mono (fun k h => ?_) (elCh_mono (fun k h => ?_)), kw⟩
  · have h2 := (hq.kept kw (fun _ _ h => h) (elPo_kept kw (fun _ _ h => h))).take (m := min n1 70) (by omega)
    by_cases h7 : n1 ≤ 70
    · rw [List.take_of_length_le (by have := hq.len; omega)] at h2
      rw [List.take_of_length_le (by have := hq.len; omega)]
      exact h2
    · rw [show min n1 70 = 70 by omega] at h2 ⊢
      exact h2
  · rcases h with h | h
    · exact .inl h
    · exact .inr (by have := hv k h; omega)
  · rcases h with h | h
    · exact .inl h
    · exact .inr (by have := hv k h; omega)

set_option maxHeartbeats 8000000 in
theorem trimmed_any {F : Nat → Prop} {a0 a1 a2 : Option Addr} {n0 c0 n1 c1 n c : Nat} {ps : List Po} {L : List Ch} (w : World) (hcap0 : n0 ≤ c0) (hm0 : c0 ≤ 9223372036854775807) (hnil0 : a0 = none → c0 = 0) (hq : Ls 6 elPo w F a1 n1 c1 ps) (hc : Ls 5 elCh w F a2 n c L) (hFl : ∀ k, F k → k < w.heap.size) :
    Calls Tryd.prog 4 #[.agg #[.slice a0 n0 c0, .slice a1 n1 c1, .slice a2 n c]] w fun e w' => Trm w w' F a0 n0 c0 a1 n1 c1 ps L e := by
  have hcap1 := hq.cap
  have hm1 := hq.max
  have hnil1 := hq.nil
  have hcap2 := hc.cap
  have hm2 := hc.max
  have hl2 := hc.len
  have HH : Hid (Ls 6 elPo w F a1 n1 c1 ps ∧ Ls 5 elCh w F a2 n c L ∧ (∀ k, F k → k < w.heap.size)) := ⟨hq, hc, hFl⟩
  obtain ⟨M0, hM0⟩ : ∃ M0, M0 = min n0 40 := ⟨_, rfl⟩
  obtain ⟨M1, hM1⟩ : ∃ M1, M1 = min n1 70 := ⟨_, rfl⟩
  have HM : Hid (M0 = min n0 40 ∧ M1 = min n1 70) := ⟨hM0, hM1⟩
  clear hq hc hFl hM0 hM1
  go_enter Tryd.func4, Tryd.ntmps4
  go_upto_if 9 with fail
  have k1 : Kept No w ((w.alloc (.cells #[.slice a0 n0 c0, .slice a1 n1 c1, .slice a2 n c] 26)).alloc (.cells #[.slice none 0 0, .slice none 0 0, .slice none 0 0] 26)) := ((Kept.refl No w).alloc _).alloc _
  have hb1 : ((w.alloc (.cells #[.slice a0 n0 c0, .slice a1 n1 c1, .slice a2 n c] 26)).alloc (.cells #[.slice none 0 0, .slice none 0 0, .slice none 0 0] 26)).heap[w.heap.size]? = some (.cells #[.slice a0 n0 c0, .slice a1 n1 c1, .slice a2 n c] 26) := ((Kept.refl No _).alloc _).at' (alloc_new w _) (fun h => h)
  have hb2 : ((w.alloc (.cells #[.slice a0 n0 c0, .slice a1 n1 c1, .slice a2 n c] 26)).alloc (.cells #[.slice none 0 0, .slice none 0 0, .slice none 0 0] 26)).heap[w.heap.size + 1]? = some (.cells #[.slice none 0 0, .slice none 0 0, .slice none 0 0] 26) := by
    have := alloc_new (w.alloc (.cells #[.slice a0 n0 c0, .slice a1 n1 c1, .slice a2 n c] 26)) (.cells #[.slice none 0 0, .slice none 0 0, .slice none 0 0] 26)
    rw [World.size_alloc] at this
    exact this
  generalize ((w.alloc (.cells #[.slice a0 n0 c0, .slice a1 n1 c1, .slice a2 n c] 26)).alloc (.cells #[.slice none 0 0, .slice none 0 0, .slice none 0 0] 26)) = w1 at *
  obtain ⟨B, hB⟩ : ∃ B, w.heap.size = B := ⟨_, rfl⟩
  rw [hB] at hb1 hb2 ⊢
  have HB := hid hB
  have H1 : Hid (w1.heap[B]? = some (.cells #[.slice a0 n0 c0, .slice a1 n1 c1, .slice a2 n c] 26) ∧ w1.heap[B + 1]? = some (.cells #[.slice none 0 0, .slice none 0 0, .slice none 0 0] 26) ∧ Kept No w w1) := ⟨hb1, hb2, k1⟩
  clear hB hb1 hb2 k1
  obtain ⟨x0, x1, x2⟩ := three H1.out.1
  have f0 := fz_blk H1.out.1 0
  go_cut [] (fun wx => wx.heap[B]? = some (.cells #[.slice a0 M0 c0, .slice a1 n1 c1, .slice a2 n c] 26) ∧ wx.heap[B + 1]? = some (.cells #[.slice none 0 0, .slice none 0 0, .slice none 0 0] 26) ∧ Kept No w wx)
  case first =>
    by_cases h0 : 40 < n0
    · have h0z : (40 : Int) < (n0 : Int) := by omega
      cases a0 with
      | none => exact absurd (hnil0 rfl) (by omega)
      | some ad =>
        have hst : Hid ((w1.setCell ⟨B, 0, none⟩ (.slice (some ad) 40 c0)).heap[B]? = some (.cells #[.slice (some ad) M0 c0, .slice a1 n1 c1, .slice a2 n c] 26) ∧ (w1.setCell ⟨B, 0, none⟩ (.slice (some ad) 40 c0)).heap[B + 1]? = some (.cells #[.slice none 0 0, .slice none 0 0, .slice none 0 0] 26) ∧ Kept No w (w1.setCell ⟨B, 0, none⟩ (.slice (some ad) 40 c0))) := by
          have ks : Kept (fun k => k = B) w1 (w1.setCell ⟨B, 0, none⟩ (.slice (some ad) 40 c0)) := (Kept.refl (fun k => k = B) w1).setCell (p := ⟨B, 0, none⟩) (.inl rfl) _
          refine ⟨by rw [set_blk H1.out.1, show M0 = 40 by have := HM.out.1; omega]; rfl, ks.at' H1.out.2.1 (by omega), H1.out.2.2.trans ks (fun k e => .inr (by have := HB.out; omega))⟩
        go_wp2
        go_meet
        exact hst.out
    · have h0z : ¬ (40 : Int) < (n0 : Int) := by omega
      go_wp2
      go_meet
      rw [show M0 = n0 by have := HM.out.1; omega]
      exact H1.out
  case rest =>
    have H2 := hid hcut
    clear H1 x0 x1 x2 f0 hcut
    obtain ⟨x0, x1, x2⟩ := three H2.out.1
    go_upto_if 17 with fail
    have f1 := fz_blk H2.out.1 1
    generalize wc = w2 at *
    go_cut [] (fun wx => wx.heap[B]? = some (.cells #[.slice a0 M0 c0, .slice a1 M1 c1, .slice a2 n c] 26) ∧ wx.heap[B + 1]? = some (.cells #[.slice none 0 0, .slice none 0 0, .slice none 0 0] 26) ∧ Kept No w wx)
    case first =>
      by_cases h0 : 70 < n1
      · have h0z : (70 : Int) < (n1 : Int) := by omega
        cases a1 with
        | none => exact absurd (hnil1 rfl) (by omega)
        | some ad =>
          have hst : Hid ((w2.setCell ⟨B, 1, none⟩ (.slice (some ad) 70 c1)).heap[B]? = some (.cells #[.slice a0 M0 c0, .slice (some ad) M1 c1, .slice a2 n c] 26) ∧ (w2.setCell ⟨B, 1, none⟩ (.slice (some ad) 70 c1)).heap[B + 1]? = some (.cells #[.slice none 0 0, .slice none 0 0, .slice none 0 0] 26) ∧ Kept No w (w2.setCell ⟨B, 1, none⟩ (.slice (some ad) 70 c1))) := by
            have ks : Kept (fun k => k = B) w2 (w2.setCell ⟨B, 1, none⟩ (.slice (some ad) 70 c1)) := (Kept.refl (fun k => k = B) w2).setCell (p := ⟨B, 1, none⟩) (.inl rfl) _
            refine ⟨by rw [set_blk H2.out.1, show M1 = 70 by have := HM.out.2; omega]; rfl, ks.at' H2.out.2.1 (by omega), H2.out.2.2.trans ks (fun k e => .inr (by have := HB.out; omega))⟩
          go_wp2
          go_meet
          exact hst.out
      · have h0z : ¬ (70 : Int) < (n1 : Int) := by omega
        go_wp2
        go_meet
        rw [show M1 = n1 by have := HM.out.2; omega]
        exact H2.out
    case rest =>
      have H3 := hid hcut
      clear H2 x0 x1 x2 f1 hcut
      go_wp2
      generalize wc = w3 at *
      obtain ⟨T, hT⟩ : ∃ T, T = trmL L := ⟨_, rfl⟩
      have hTl : T.length = min 70 n := by rw [hT, trmL_len, hl2]
      have HT : Hid (T = trmL L ∧ T.length = min 70 n) := ⟨hT, hTl⟩
      clear hT hTl
      have hsz3 := heap_lt H3.out.2.1
      go_loopw [3, 4] (fun v y wr => ∃ (j : Nat) (va : Option Addr) (vc : Nat), y = .int .i64 j ∧ j ≤ min 70 n ∧ v = .slice va j vc ∧ Cm wr F (B + 2) (.slice va j vc) (T.take j) ∧ wr.heap[B]? = some (.cells #[.slice a0 M0 c0, .slice a1 M1 c1, .slice a2 n c] 26) ∧ wr.heap[B + 1]? = some (.cells #[.slice none 0 0, .slice none 0 0, .slice none 0 0] 26) ∧ Kept No w wr ∧ B + 2 ≤ wr.heap.size) (fun _ y _ => n - (intOf y).toNat)
      case atStart => exact ⟨0, none, 0, rfl, Nat.zero_le _, rfl, Cm.nil _ _ _, H3.out.1, H3.out.2.1, H3.out.2.2, by omega⟩
      case round =>
        obtain ⟨j, va, vc, rfl, hj, rfl, hcm, hbx, hrs, hk, hsz⟩ := hrel
        obtain ⟨x0, x1, x2⟩ := three hbx
        by_cases hlt : j < min 70 n
        · have hjz : (j : Int) < (n : Int) := by omega
          have hj7 : (j : Int) < 70 := by omega
          have hjL : j < L.length := by omega
          obtain ⟨x, hx⟩ : ∃ x, L[j]? = some x := ⟨_, List.getElem?_eq_getElem hjL⟩
          obtain ⟨cb, co, cs, rfl, hFc, hcl, hr, ⟨ta, tn, tc, hcs, hTo⟩, hok⟩ := HH.out.2.1.at' j _ hx
          have y0 : wr.cell? ⟨cb, co + j * 5, none⟩ = some (.int .i64 x.kd) := hk.cell (hr 0 _ (by rw [hcs]; rfl)) (fun h => h)
          have y1 : wr.cell? ⟨cb, co + j * 5 + 1, none⟩ = some (.int .i64 x.fr) := hk.cell (hr 1 _ (by rw [hcs]; rfl)) (fun h => h)
          have y2 : wr.cell? ⟨cb, co + j * 5 + 2, none⟩ = some (.slice ta tn tc) := hk.cell (hr 2 _ (by rw [hcs]; rfl)) (fun h => h)
          have y3 : wr.cell? ⟨cb, co + j * 5 + 3, none⟩ = some (.int .i64 x.ph) := hk.cell (hr 3 _ (by rw [hcs]; rfl)) (fun h => h)
          have y4 : wr.cell? ⟨cb, co + j * 5 + 4, none⟩ = some (.int .i64 x.pe) := hk.cell (hr 4 _ (by rw [hcs]; rfl)) (fun h => h)
          have htn := hTo.len
          have htc := hTo.cap
          have htm := hTo.max
          have htnil := hTo.nil
          obtain ⟨tm, htme⟩ : ∃ tm, tm = min tn 70 := ⟨_, rfl⟩
          have hel : elCh w F [.int .i64 x.kd, .int .i64 x.fr, .slice ta tm tc, .int .i64 x.ph, .int .i64 x.pe] (trm1 x) := by
            refine ⟨⟨ta, tm, tc, rfl, ?_⟩, trm1_ok hok⟩
            have h1 := hTo.take (m := tm) (by omega)
            have h2 : (trm1 x).dst = x.dst.take tm := by
              show x.dst.take 70 = x.dst.take tm
              by_cases h7 : tn ≤ 70
              · rw [show tm = tn by omega, List.take_of_length_le (by omega), List.take_of_length_le (by omega)]
              · rw [show tm = 70 by omega]
            rw [h2]
            exact h1
          have htk : T.take (j + 1) = T.take j ++ [trm1 x] := take_succ_get (by rw [HT.out.1]; exact trmL_get hx (by omega))
          have HR : Hid (Cm wr F (B + 2) (.slice va j vc) (T.take j) ∧ wr.heap[B]? = some (.cells #[.slice a0 M0 c0, .slice a1 M1 c1, .slice (some ⟨cb, co, none⟩) n c] 26) ∧ wr.heap[B + 1]? = some (.cells #[.slice none 0 0, .slice none 0 0, .slice none 0 0] 26) ∧ Kept No w wr ∧ B + 2 ≤ wr.heap.size ∧ elCh w F [.int .i64 x.kd, .int .i64 x.fr, .slice ta tm tc, .int .i64 x.ph, .int .i64 x.pe] (trm1 x) ∧ T.take (j + 1) = T.take j ++ [trm1 x] ∧ tm = min tn 70 ∧ (T.take j).length = j) := ⟨hcm, hbx, hrs, hk, hsz, hel, htk, htme, by rw [List.length_take, HT.out.2]; omega⟩
          clear hcm hbx hrs hk hsz hel htk htme hr hcs hTo hok hcl hx htn
          generalize x.kd = X0 at *
          generalize x.fr = X1 at *
          generalize x.ph = X3 at *
          generalize x.pe = X4 at *
          go_upto_if 41 with fail
          have hnb := alloc_new wr (.cells #[.int .i64 X0, .int .i64 X1, .slice ta tn tc, .int .i64 X3, .int .i64 X4] 50)
          have kn : Kept No wr (wr.alloc (.cells #[.int .i64 X0, .int .i64 X1, .slice ta tn tc, .int .i64 X3, .int .i64 X4] 50)) := (Kept.refl No wr).alloc _
          obtain ⟨q, hq⟩ : ∃ q, wr.heap.size = q := ⟨_, rfl⟩
          rw [hq] at hnb ⊢
          generalize wr.alloc (.cells #[.int .i64 X0, .int .i64 X1, .slice ta tn tc, .int .i64 X3, .int .i64 X4] 50) = w4 at *
          have H4 : Hid (w4.heap[q]? = some (.cells #[.int .i64 X0, .int .i64 X1, .slice ta tn tc, .int .i64 X3, .int .i64 X4] 50) ∧ Kept No wr w4 ∧ wr.heap.size = q) := ⟨hnb, kn, hq⟩
          clear y0 y1 y2 y3 y4 hnb kn hq x0 x1 x2
          obtain ⟨z0, z1, z2, z3, z4⟩ := five H4.out.1
          have fz2 := fz_blk H4.out.1 2
          go_cut [] (fun wx => wx.heap[q]? = some (.cells #[.int .i64 X0, .int .i64 X1, .slice ta tm tc, .int .i64 X3, .int .i64 X4] 50) ∧ Kept No wr wx)
          case first =>
            by_cases h7 : 70 < tn
            · have h7z : (70 : Int) < (tn : Int) := by omega
              cases ta with
              | none => exact absurd (htnil rfl) (by omega)
              | some ad =>
                have hst : Hid ((w4.setCell ⟨q, 2, none⟩ (.slice (some ad) 70 tc)).heap[q]? = some (.cells #[.int .i64 X0, .int .i64 X1, .slice (some ad) tm tc, .int .i64 X3, .int .i64 X4] 50) ∧ Kept No wr (w4.setCell ⟨q, 2, none⟩ (.slice (some ad) 70 tc))) := by
                  have ks : Kept (fun k => k = q) w4 (w4.setCell ⟨q, 2, none⟩ (.slice (some ad) 70 tc)) := (Kept.refl (fun k => k = q) w4).setCell (p := ⟨q, 2, none⟩) (.inl rfl) _
                  exact ⟨by rw [set_blk H4.out.1, show tm = 70 by have := HR.out.2.2.2.2.2.2.2.1; omega]; rfl, H4.out.2.1.trans ks (fun k e => .inr (by have := H4.out.2.2; omega))⟩
                go_wp2
                go_meet
                exact hst.out
            · have h7z : ¬ (70 : Int) < (tn : Int) := by omega
              go_wp2
              go_meet
              rw [show tm = tn by have := HR.out.2.2.2.2.2.2.2.1; omega]
              exact ⟨H4.out.1, H4.out.2.1⟩
          case rest =>
            have H5 := hid hcut
            clear hcut z0 z1 z2 z3 z4 fz2
            generalize wc = w5 at *
            obtain ⟨z0, z1, z2, z3, z4⟩ := five H5.out.1
            obtain ⟨CS, ho, hcl, hc5, hce⟩ := (HR.out.1.kept H5.out.2 (fun _ _ h => h) (fun _ _ h => h)).ex
            have ka : Kept No w5 (w5.alloc (.cells #[.int .i64 X0, .int .i64 X1, .slice ta tm tc, .int .i64 X3, .int .i64 X4] 50)) := (Kept.refl No w5).alloc _
            rw [HR.out.2.2.2.2.2.2.2.2] at ho
            have HA : Hid ((w5.alloc (.cells #[.int .i64 X0, .int .i64 X1, .slice ta tm tc, .int .i64 X3, .int .i64 X4] 50)).ownsRow (B + 2) 50 5 (.slice va j vc) j CS.flatten ∧ B + 2 ≤ (w5.alloc (.cells #[.int .i64 X0, .int .i64 X1, .slice ta tm tc, .int .i64 X3, .int .i64 X4] 50)).heap.size ∧ Kept No w5 (w5.alloc (.cells #[.int .i64 X0, .int .i64 X1, .slice ta tm tc, .int .i64 X3, .int .i64 X4] 50)) ∧ CS.length = (T.take j).length ∧ (∀ c ∈ CS, c.length = 5) ∧ (∀ (i : Nat) (cs : List Value) (x : Ch), CS[i]? = some cs → (T.take j)[i]? = some x → elCh w5 F cs x)) := ⟨ka.owns ho (fun _ _ h => h), by have := ka.size; have := H5.out.2.size; have := HR.out.2.2.2.2.1; omega, ka, hcl, hc5, hce⟩
            clear ho hcl hc5 hce ka
            go_wp2_with (at_builtin; refine wpList_appC rfl _ _ rfl (B + 2) (.slice va j vc) j CS.flatten rfl HA.out.1 HA.out.2.1 #[.int .i64 X0, .int .i64 X1, .slice ta tm tc, .int .i64 X3, .int .i64 X4] ⟨w5.heap.size, 0, none⟩ rfl rfl (news_alloc w5 _ _) (by intro u hu; simp at hu; rcases hu with rfl | rfl | rfl | rfl | rfl <;> rfl) (by omega) ?_; intro ya yc w7 own7 k7)
            go_roundw
            case rel =>
              have hB2 : ∀ b, (Value.slice va j vc).ownBlock = some b → B + 2 ≤ b := fun b e => (owns_at HA.out.1 e).1
              have kw7 : Kept No w w7 := ((HR.out.2.2.2.1.trans H5.out.2 (fun _ h => .inl h)).trans HA.out.2.2.1 (fun _ h => .inl h)).trans k7.out (fun k e => .inr (by have := hB2 k e; have := HB.out; omega))
              have k57 : Kept (fun k => (Value.slice va j vc).ownBlock = some k) wr w7 := ((H5.out.2.mono (fun _ h => h.elim)).trans HA.out.2.2.1 (fun _ h => h.elim)).trans k7.out (fun k e => .inl e)
              have hFd : ∀ b, F b → ¬ (Value.slice va j vc).ownBlock = some b := fun b hb e => by have := hB2 b e; have := HH.out.2.2 b hb; have := HB.out; omega
              refine ⟨j + 1, ya, yc, by go_num, by omega, rfl, ?_, k57.at' HR.out.2.1 (fun e => by have := hB2 _ e; omega), k57.at' HR.out.2.2.1 (fun e => by have := hB2 _ e; omega), kw7, ?_⟩
              · rw [HR.out.2.2.2.2.2.2.1]
                have hcm := Cm.more (w := w5.alloc (.cells #[.int .i64 X0, .int .i64 X1, .slice ta tm tc, .int .i64 X3, .int .i64 X4] 50)) (w' := w7) (F := F) (B := B + 2) (v := .slice va j vc) (v' := .slice ya (j + 1) yc) (X := T.take j) (CS := CS) (cs := [.int .i64 X0, .int .i64 X1, .slice ta tm tc, .int .i64 X3, .int .i64 X4]) (x := trm1 x) HA.out.2.2.2.1 HA.out.2.2.2.2.1 (fun i cs x h1 h2 => elCh_kept HA.out.2.2.1 (fun _ _ h => h) cs x (HA.out.2.2.2.2.2 i cs x h1 h2)) (by rw [HR.out.2.2.2.2.2.2.2.2]; exact own7.out) rfl (elCh_kept ((HR.out.2.2.2.1.trans H5.out.2 (fun _ h => .inl h)).trans HA.out.2.2.1 (fun _ h => .inl h)) (fun _ _ h => h) _ _ HR.out.2.2.2.2.2.1) k7.out hFd
                exact hcm
              · have := k57.size; have := HR.out.2.2.2.2.1; omega
            case measure => simp [intOf]; omega
        · have hje : j = min 70 n := by omega
          have HR : Hid (Cm wr F (B + 2) (.slice va j vc) T ∧ wr.heap[B]? = some (.cells #[.slice a0 M0 c0, .slice a1 M1 c1, .slice a2 n c] 26) ∧ wr.heap[B + 1]? = some (.cells #[.slice none 0 0, .slice none 0 0, .slice none 0 0] 26) ∧ Kept No w wr) := ⟨by rw [List.take_of_length_le (by rw [HT.out.2]; omega)] at hcm; exact hcm, hbx, hrs, hk⟩
          have hfB := fz_blk hbx 2
          have k9 : Kept (fun k => k = B) wr (wr.setCell ⟨B, 2, none⟩ (.slice va j vc)) := (Kept.refl (fun k => k = B) wr).setCell (p := ⟨B, 2, none⟩) (.inl rfl) _
          have hF9 : ∀ b, F b → ¬ b = B := fun b hb e => by have := HH.out.2.2 b hb; have := HB.out; omega
          have hv9 : ∀ b, (Value.slice va j vc).ownBlock = some b → ¬ b = B := fun b e e2 => by
            obtain ⟨CS, ho, _⟩ := HR.out.1.ex
            have := (owns_at ho e).1
            omega
          have H9 : Hid ((wr.setCell ⟨B, 2, none⟩ (.slice va j vc)).heap[B]? = some (.cells #[.slice a0 M0 c0, .slice a1 M1 c1, .slice va j vc] 26) ∧ (wr.setCell ⟨B, 2, none⟩ (.slice va j vc)).heap[B + 1]? = some (.cells #[.slice none 0 0, .slice none 0 0, .slice none 0 0] 26) ∧ Kept No w (wr.setCell ⟨B, 2, none⟩ (.slice va j vc)) ∧ Cm (wr.setCell ⟨B, 2, none⟩ (.slice va j vc)) F (B + 2) (.slice va j vc) T) := ⟨by rw [set_blk HR.out.2.1]; rfl, k9.at' HR.out.2.2.1 (by omega), HR.out.2.2.2.trans k9 (fun k e => .inr (by have := HB.out; omega)), HR.out.1.kept k9 hF9 hv9⟩
          clear hcm hbx hrs hk k9 hF9 hv9 hje
          by_cases hjn : j < n
          · have hjz : (j : Int) < (n : Int) := by omega
            have hj7 : ¬ (j : Int) < 70 := by omega
            go_upto_region 14 with fail
            generalize wr.setCell ⟨B, 2, none⟩ (.slice va j vc) = w9 at *
            obtain ⟨b0, b1, b2⟩ := three H9.out.1
            obtain ⟨e0, e1, e2⟩ := three H9.out.2.1
            have g0 := fz_blk H9.out.2.1 0
            have g1 := fz_blk H9.out.2.1 1
            have g2 := fz_blk H9.out.2.1 2
            clear x0 x1 x2 hfB
            go_wp2
            refine bodyPost_ret (results_cell_row rfl _ _ (B + 1) 26 #[.slice a0 M0 c0, .slice a1 M1 c1, .slice va j vc] (0, 0) _ rfl (by rw [set_blk (set_blk (set_blk H9.out.2.1 0 _) 1 _) 2 _]; rfl) Tryd.underlying26 rfl (by kernel_rfl)) rfl ?_
            exact trm_fin HB.out HM.out.1 HM.out.2 HT.out.1 HH.out.1 HH.out.2.2 H9.out.2.2.1 H9.out.2.2.2
          · have hjz : decide ((j : Int) < (n : Int)) = false := by simp; omega
            go_upto_region 14 with fail
            generalize wr.setCell ⟨B, 2, none⟩ (.slice va j vc) = w9 at *
            obtain ⟨b0, b1, b2⟩ := three H9.out.1
            obtain ⟨e0, e1, e2⟩ := three H9.out.2.1
            have g0 := fz_blk H9.out.2.1 0
            have g1 := fz_blk H9.out.2.1 1
            have g2 := fz_blk H9.out.2.1 2
            clear x0 x1 x2 hfB
            go_wp2
            refine bodyPost_ret (results_cell_row rfl _ _ (B + 1) 26 #[.slice a0 M0 c0, .slice a1 M1 c1, .slice va j vc] (0, 0) _ rfl (by rw [set_blk (set_blk (set_blk H9.out.2.1 0 _) 1 _) 2 _]; rfl) Tryd.underlying26 rfl (by kernel_rfl)) rfl ?_
            exact trm_fin HB.out HM.out.1 HM.out.2 HT.out.1 HH.out.1 HH.out.2.2 H9.out.2.2.1 H9.out.2.2.2
end Go.Proofs.YtdohjhhflfnncaaDoor
