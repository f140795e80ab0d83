/-
  codec.GetList of inputs: what was told is read; script.Decode.
-/
import Derived.Test.YtjhhldgbllbbhaaGreatDoorBGet
namespace Go.Proofs.YtjhhldgbllbbhaaGreatDoor
open Go.RowKit
set_option linter.unusedVariables false
set_option linter.unusedSimpArgs false
set_option maxRecDepth 100000

/-- a count -/
theorem rdCn {n : Nat} {r : List Nat} {most : Int} (h1 : n < 4294967296) (h2 : (n : Int) ≤ most) (h3 : n ≤ r.length) : cnN (be n 4 ++ r) 0 most = (n : Int) ∧ cnRest (be n 4 ++ r) 0 most = r ∧ cnE (be n 4 ++ r) 0 most = 0 := by
  have hl := be_length n 4
  have h := tk_in (xs := be n 4 ++ r) (m := 4) (by rw [List.length_append, hl]; omega)
  rw [show ((4 : Nat) : Int) = 4 from rfl] at h
  have hv : rdN (be n 4 ++ r) 0 4 = (n : Int) := by
    unfold rdN
    rw [show ((4 : Nat) : Int) = 4 from rfl, h.1, List.take_left' hl, val_be n 4 (by omega)]
  have hlen : ((be n 4 ++ r).length : Int) = 4 + (r.length : Int) := by rw [List.length_append, hl]; omega
  have hok0 : tkOk (be n 4 ++ r) 0 4 = true := by unfold tkOk; simp; omega
  have hok : cnOk (be n 4 ++ r) 0 most = true := by
    unfold cnOk
    rw [hok0, hv, decide_eq_true h2, decide_eq_true (by rw [hlen]; omega)]
    rfl
  refine ⟨?_, ?_, ?_⟩
  · unfold cnN; rw [if_pos hok, hv]
  · unfold cnRest; rw [if_pos hok, List.drop_left' hl]
  · unfold cnE
    rw [if_neg (fun h => h rfl), hok0, if_neg (by simp), hv, if_neg (by omega), hlen, if_neg (by omega)]

/-- new, and words -/
def Fe (w : World) (B k : Nat) : Prop := B ≤ k ∧ ∃ cs fr, w.heap[k]? = some (.cells cs 2 fr)
theorem Fe.kept {w w' : World} {B k : Nat} {G : Nat → Prop} (h : Fe w B k) (K : Kept G w w') (hG : ¬ G k) : Fe w' B k := by
  obtain ⟨h0, cs, fr, h⟩ := h
  exact ⟨h0, cs, fr, K.at' h hG⟩
structure Gk (w : World) (B : Nat) (v : Value) (n : Nat) (xs : List Ev) (As : Nat → Array Value) : Prop where
  len : xs.length = n
  own : w.ownsRow B 25 7 v n (cat (fun i => (As i).toList) n)
  sz : ∀ i, (As i).size = 7
  el : ∀ i x, xs[i]? = some x → ∃ da dc, As i = x.val da dc ∧ Ir w (Fe w B) x da dc
theorem Gk.nil (w : World) (B : Nat) : ∃ As, Gk w B (.slice none 0 0) 0 [] As := ⟨fun _ => Z7, rfl, World.ownsRow_nil _ _ _ _, fun _ => rfl, fun i x hx => by cases hx⟩
theorem Gk.kept {w w' : World} {B : Nat} {v : Value} {n : Nat} {xs : List Ev} {As : Nat → Array Value} {G : Nat → Prop} (h : Gk w B v n xs As) (K : Kept G w w') (hG : ∀ k, B ≤ k → ¬ G k) : Gk w' B v n xs As :=
  ⟨h.len, K.owns h.own (fun g hg => hG g (owns_blk h.own hg).1), h.sz, fun i x hx => by obtain ⟨da, dc, e, hr⟩ := h.el i x hx; exact ⟨da, dc, e, (hr.kept K (fun k hk => hG k hk.1)).mono (fun k hk => hk.kept K (hG k hk.1))⟩⟩
theorem Gk.keep {w w' : World} {B : Nat} {v : Value} {n : Nat} {xs : List Ev} {As : Nat → Array Value} (h : Gk w B v n xs As) (K : Kept No w w') : Gk w' B v n xs As := h.kept K (fun _ _ e => e)
theorem Gk.more {w w' : World} {B : Nat} {v v' : Value} {n : Nat} {xs : List Ev} {x : Ev} {da : Option Addr} {dc : Nat} {As : Nat → Array Value} (h : Gk w B v n xs As) (hx : Ir w (Fe w B) x da dc)
    (K : Kept (fun k => v.ownBlock = some k) w w') (own : w'.ownsRow B 25 7 v' (n + 1) (cat (fun i => (As i).toList) n ++ (x.val da dc).toList)) : ∃ As', Gk w' B v' (n + 1) (xs ++ [x]) As' := by
  have nb : ∀ k, Fe w B k → ¬ v.ownBlock = some k := fun k hk e => by
    obtain ⟨q1, cs, q2⟩ := owns_blk h.own e
    obtain ⟨_, cs', fr, hk⟩ := hk
    exact absurd (two_tags q2 hk) (by decide)
  have h1 := h.len
  have up : ∀ {y : Ev} {ya : Option Addr} {yc : Nat}, Ir w (Fe w B) y ya yc → Ir w' (Fe w' B) y ya yc := fun hr => (hr.kept K nb).mono (fun k hk => hk.kept K (nb k hk))
  refine ⟨upd As n (x.val da dc), by rw [List.length_append, h1]; rfl, ?_, fun i => ?_, fun i y hy => ?_⟩
  · rw [cat, upd_same, cat_congr (g := fun i => (As i).toList) n (fun i hi => by rw [upd_oth _ _ (by omega)])]
    exact own
  · by_cases e : i = n
    · subst e; rw [upd_same]; rfl
    · rw [upd_oth _ _ e]; exact h.sz i
  · by_cases hi : i < xs.length
    · rw [List.getElem?_append_left hi] at hy
      obtain ⟨ya, yc, e, hr⟩ := h.el i y hy
      exact ⟨ya, yc, by rw [upd_oth _ _ (by omega)]; exact e, up hr⟩
    · have hl := (List.getElem?_eq_some_iff.1 hy).1
      rw [List.length_append] at hl
      simp at hl
      obtain rfl : i = n := by omega
      rw [List.getElem?_append_right (by omega), h1, Nat.sub_self] at hy
      simp at hy
      subst hy
      exact ⟨da, dc, by rw [upd_same], up hx⟩
theorem Gk.il {w : World} {B : Nat} {a : Option Addr} {n c : Nat} {xs : List Ev} {As : Nat → Array Value} (h : Gk w B (.slice a n c) n xs As) : Il w An a n c xs := by
  have h1 := h.len
  have h2 := h.own
  have hc := own_cap h2
  refine ⟨h1, hc.1, hc.2, fun i x hx => ?_⟩
  have hi : i < n := by rw [← h1]; exact (List.getElem?_eq_some_iff.1 hx).1
  obtain ⟨g, rfl, _⟩ := (own_some h2).2 (by omega)
  obtain ⟨da, dc, e, hr⟩ := h.el i x hx
  refine ⟨g, 0, da, dc, rfl, trivial, fun j v hv => ?_, hr.any⟩
  have hj : j < 7 := (List.getElem?_eq_some_iff.1 hv).1
  rw [Nat.zero_add]
  refine own_cell h2 ?_
  rw [cat_at (f := fun i => (As i).toList) (s := 7) (fun i => by rw [Array.length_toList]; exact h.sz i) n i j hi hj, e]
  exact hv
theorem evsB_cons (x : Ev) (xs : List Ev) : evsB (x :: xs) = evB x ++ evsB xs := by simp [evsB]
set_option maxHeartbeats 8000000 in
theorem getList_yes (F : Nat → Prop) (p : Nat) (xs : List Ev) (r : List Nat) (w : World) (h : Rd w F p (be xs.length 4 ++ (evsB xs ++ r)) 0) (hF : ∀ k, F k → k < w.heap.size) (hn : xs.length ≤ 5000) (ht : ∀ x ∈ xs, x.Go ∧ x.Fit) :
    Calls Tryz.prog 27 #[.pointer (some ⟨p, 0, none⟩), .int .i64 4294967295, .func (.func 28) #[] #[]] w fun ex w' => ∃ a c, ex = .returned (.slice a xs.length c) ∧ Il w' An a xs.length c xs ∧ Rd w' F p r 0 ∧ Kept (fun k => k = p) w w' := by
  have hil : xs.length ≤ (evsB xs).length := by rw [evsB_len]; omega
  obtain ⟨n, hn0⟩ : ∃ n, xs.length = n := ⟨_, rfl⟩
  rw [hn0] at h hn hil ⊢
  have cC := count_any F p _ 0 4294967295 w h
  have hq := rdCn (n := n) (r := evsB xs ++ r) (most := 4294967295) (by omega) (by omega) (by rw [List.length_append]; omega)
  rw [hq.1, hq.2.1, hq.2.2] at cC
  have hfp : F p := by obtain ⟨a, n, c, hv⟩ := h; exact hv.fp
  have HH := hid (And.intro hF (And.intro ht hfp))
  clear h hq hF ht hfp hil
  go_enter Tryz.func27, Tryz.ntmps27
  go_wp2_with (go_at_call 49; refine cC.mono ?_; rintro ex w1 ⟨rfl, hd1⟩; have H1 := hid hd1; clear hd1 cC)
  go_loopw [7, 12] (fun u7 u12 wr => ∃ (k : Nat) (ka : Option Addr) (kc : Nat), k ≤ n ∧ u7 = .slice ka k kc ∧ u12 = .int .i64 k ∧ (∃ As, Gk wr w.heap.size (.slice ka k kc) k (xs.take k) As) ∧ Rd wr F p (evsB (xs.drop k) ++ r) 0 ∧ Kept (fun k => k = p) w wr) (fun _ u12 _ => n - (intOf u12).toNat)
  case atStart => exact ⟨0, none, 0, by omega, rfl, rfl, Gk.nil _ _, H1.out.1, H1.out.2⟩
  case round =>
    obtain ⟨k, ka, kc, hk, rfl, rfl, ⟨As, gk⟩, rd, kr⟩ := hrel
    clear H1
    by_cases hlt : k < n
    · have hltz : (k : Int) < (n : Int) := by omega
      obtain ⟨x, hx⟩ : ∃ x, xs[k]? = some x := ⟨_, List.getElem?_eq_getElem (by omega)⟩
      have ed : xs.drop k = x :: xs.drop (k + 1) := drop_cons hx
      have et : xs.take (k + 1) = xs.take k ++ [x] := by rw [List.take_add_one, hx]; rfl
      have hxm := List.mem_of_getElem? hx
      rw [ed, evsB_cons, List.append_assoc] at rd
      have cI := hid (getEvent_yes F p x (evsB (xs.drop (k + 1)) ++ r) wr rd (fun j hj => Nat.lt_of_lt_of_le (HH.out.1 j hj) kr.size) (HH.out.2.1 x hxm).1 (HH.out.2.1 x hxm).2)
      have HG := hid (And.intro gk (And.intro kr (And.intro et (HH.out.2.1 x hxm))))
      have hdl : x.d.length ≤ 16 := by have := (HH.out.2.1 x hxm).1.2.2.2.2.2.2.2.2; omega
      clear gk kr et ed hx rd hxm
      go_upto_region 4 with fail
      go_cut [8] (fun u wd => ∃ pb da dc, u = .pointer (some ⟨pb, 0, none⟩) ∧ wd.heap[pb]? = some (.cells (x.val da dc) 25) ∧ wd.ownsRow wr.heap.size 2 1 (.slice da x.d.length dc) x.d.length (x.d.map iv) ∧ Rd wd F p (evsB (xs.drop (k + 1)) ++ r) 0 ∧ Kept (fun k => k = p) wr wd)
      case first =>
        go_wp2_with (first
          | (go_at_call 28; refine cI.out.mono ?_; rintro ex w3 ⟨da, dc, rfl, o3, r3, k3⟩; have H3 := hid (And.intro o3 (And.intro r3 k3)); clear o3 r3 k3)
          | (refine l_make 8 rfl rfl (er_alI rfl) ?_)
          | (refine l_turn rfl rfl (er_stI _ _ rfl w3.heap.size (x.val da dc) _ rfl rfl (alloc_new w3 _) rfl rfl (x.val_one da dc)) ?_))
        go_meet
        have KS : Kept No w3 ((w3.alloc (.cells Z7 25)).setRow w3.heap.size (x.val da dc)) := ((Kept.refl No w3).alloc _).setRow (.inr (Nat.le_refl _)) _
        exact ⟨w3.heap.size, da, dc, rfl, setRow_heap _ _ _ _ _ (0, 0) (alloc_new w3 _), KS.owns H3.out.1 (fun _ _ e => e), H3.out.2.1.kept KS (fun _ _ e => e), H3.out.2.2.trans KS (fun _ e => e.elim)⟩
      case rest =>
      rename World => w4
      obtain ⟨pb, da, dc, rfl, hpb, o4, r4, k4⟩ := hcut
      have LP := hid (ldI (w := w4) (b := pb) (o := 0) (x := x) (da := da) (dc := dc) (fun j v hv => by rw [Nat.zero_add, cell_blk hpb, ← Array.getElem?_toList]; exact hv))
      have fc : w4.cell? ⟨p, 1, none⟩ = some (.int .i64 0) := by obtain ⟨a', n', c', hv⟩ := r4; exact hv.c1
      have hpl := HH.out.1 p HH.out.2.2
      have ir4 : Ir w4 (Fe w4 w.heap.size) x da dc := by
        obtain ⟨a', c', e, hz⟩ := Zs.of_owns o4
        injection e with e1 _ e3
        subst e1 e3
        refine ⟨hz.mono (fun g hg => ?_), by omega, ⟨by have := HG.out.2.2.2.1.1; omega, by have := HG.out.2.2.2.1.2.1; omega⟩⟩
        obtain ⟨q1, cs, q2⟩ := owns_blk o4 hg
        exact ⟨Nat.le_trans HG.out.2.1.size q1, cs, _, q2⟩
      have G4 := hid (HG.out.1.kept k4 (fun q hq e => by have e' : q = p := e; omega))
      have H4 := hid (And.intro ir4 (And.intro r4 (HG.out.2.1.trans k4 (fun _ e => .inl e))))
      clear ir4 r4 k4 o4 hpb cI
      go_wp2_with (first
        | (refine l_take 23 rfl rfl (er_ldX 25 (.tmp 8) rfl (.pointer (some ⟨pb, 0, none⟩)) (.agg (x.val da dc)) rfl LP.out) ?_)
        | (refine l_make 24 rfl rfl (er_bsG 22 25 7 72 Z7 (x.val da dc) _ rfl Tryz.underlying22 Tryz.infoI (by decide) (by decide) rfl (fill_I x da dc)) ?_)
        | (at_builtin; refine wpList_apK rfl _ _ 22 25 rfl w.heap.size (.agg Z7) 7 72 Tryz.underlying22 Tryz.infoI rfl (by decide) (.slice ka k kc) k _ rfl ((G4.out.keep ((Kept.refl No w4).alloc _)).own) (by rw [World.size_alloc]; have h1 := H4.out.2.2.size; omega) ⟨w4.heap.size, 0, none⟩ 1 1 (x.val da dc).toList rfl rfl (news_alloc w4 (x.val da dc) 25) (all_mem (x.val_one da dc)) (by omega) (by omega) (by decide) ?_; intro g7 c7 w5 o5 k5))
      have KA : Kept No w4 (w4.alloc (.cells (x.val da dc) 25)) := (Kept.refl No w4).alloc _
      refine ⟨⟨k + 1, some ⟨g7, 0, none⟩, c7, by omega, rfl, by go_num, ?_, ?_, ?_⟩, ?_⟩
      · rw [HG.out.2.2.1]
        exact (G4.out.keep KA).more ((H4.out.1.keep KA).mono (fun q hq => hq.kept KA (fun e => e))) k5.out o5.out
      · exact (H4.out.2.1.kept KA (fun _ _ e => e)).kept k5.out (fun b hb e => by have h1 := (owns_blk G4.out.own e).1; have h2 := HH.out.1 b hb; omega)
      · exact (H4.out.2.2.trans KA (fun _ e => e.elim)).trans k5.out (fun q e => .inr (owns_blk G4.out.own e).1)
      · simp [intOf]; omega
    · have hltz : ¬ (k : Int) < (n : Int) := by omega
      obtain rfl : k = n := by omega
      rw [List.drop_eq_nil_of_le (by omega)] at rd
      rw [List.take_of_length_le (by omega)] at gk
      have HG := hid (And.intro gk (And.intro rd kr))
      clear gk rd kr
      go_wp2
      go_ret
      exact ⟨ka, kc, rfl, HG.out.1.il, HG.out.2.1, HG.out.2.2⟩
end Go.Proofs.YtjhhldgbllbbhaaGreatDoor
