/-
  trace.getEvent: what was told is read.
-/
import Derived.Test.YtjhhldgbllbbhaaGreatDoorBEnc
import Derived.Test.YtjhhldgbllbbhaaGreatDoorVEv
namespace Go.Proofs.YtjhhldgbllbbhaaGreatDoor
open Go.RowKit
set_option linter.unusedVariables false
set_option linter.unusedSimpArgs false
set_option maxRecDepth 100000

theorem be_succ (x k : Nat) : be x (k + 1) = be (x / 256) k ++ [x % 256] := by
  unfold be
  rw [List.range_succ, List.map_append]
  congr 1
  · apply List.map_congr_left
    intro j hj
    rw [List.mem_range] at hj
    have e : 8 * (k + 1 - 1 - j) = 8 + 8 * (k - 1 - j) := by omega
    rw [e, Nat.pow_add, ← Nat.div_div_eq_div_mul]
  · simp
theorem val_be (x : Nat) : ∀ k, x < 256 ^ k → val (be x k) = x := by
  intro k
  induction k generalizing x with
  | zero => intro h; have : x = 0 := by simpa using h
            subst this; rfl
  | succ k ih =>
    intro h
    rw [be_succ, val_snoc, ih (x / 256) (by rw [Nat.pow_succ] at h; omega)]
    omega
theorem p88 : (256 : Nat) ^ 8 = 18446744073709551616 := by decide
theorem toNat_lt64 (x : Int) : (x % 18446744073709551616).toNat < 256 ^ 8 := by rw [p88]; omega
theorem wthere64 (x : Int) (h : T6 x) : wrap64 (((x % 18446744073709551616).toNat : Nat) : Int) = x := by unfold T6 at h; unfold wrap64; omega
theorem tk_in {xs : List Nat} {m : Nat} (h : m ≤ xs.length) : tkXs xs 0 m = xs.take m ∧ tkRest xs 0 m = xs.drop m ∧ tkE xs 0 m = 0 := by
  have ok : tkOk xs 0 m = true := by
    unfold tkOk
    simp
    omega
  refine ⟨?_, ?_, ?_⟩
  · unfold tkXs; rw [if_pos ok]; rfl
  · unfold tkRest; rw [if_pos ok]; rfl
  · unfold tkE; rw [if_neg (fun h => h rfl), if_pos ok]
/-- a number of eight bytes -/
theorem rd64 {x : Int} (hx : T6 x) (r : List Nat) : rdI (be64 x ++ r) 0 = x ∧ tkRest (be64 x ++ r) 0 8 = r ∧ tkE (be64 x ++ r) 0 8 = 0 := by
  have hl := be64_len x
  have h := tk_in (xs := be64 x ++ r) (m := 8) (by rw [List.length_append, hl]; omega)
  refine ⟨?_, h.2.1.trans (List.drop_left' hl), h.2.2⟩
  unfold rdI rdN
  rw [show ((8 : Nat) : Int) = 8 from rfl] at *
  rw [h.1, List.take_left' hl]
  unfold be64
  rw [val_be _ 8 (toNat_lt64 x), wthere64 x hx]
theorem rd8 {n : Nat} (hn : n < 256) (r : List Nat) : rdN (be n 1 ++ r) 0 1 = (n : Int) ∧ tkRest (be n 1 ++ r) 0 1 = r ∧ tkE (be n 1 ++ r) 0 1 = 0 := by
  have hl := be_length n 1
  have h := tk_in (xs := be n 1 ++ r) (m := 1) (by rw [List.length_append, hl]; omega)
  refine ⟨?_, h.2.1.trans (List.drop_left' hl), h.2.2⟩
  unfold rdN
  rw [show ((1 : Nat) : Int) = 1 from rfl] at *
  rw [h.1, List.take_left' hl, val_be n 1 (by omega)]
theorem ru8_any (F : Nat → Prop) (p : Nat) (xs : List Nat) (e : Int) (w : World) (h : Rd w F p xs e) :
    Calls Tryz.prog 51 #[.pointer (some ⟨p, 0, none⟩)] w fun ex w' => ex = .returned (.int .i64 (rdN xs e 1)) ∧ RdDid F p (tkRest xs e 1) (tkE xs e 1) w w' := by
  have cc : Calls Tryz.prog 65 #[.pointer (some ⟨p, 0, none⟩), .int .i64 1] w fun ex w' => ex = .returned (.int .u64 (rdN xs e 1)) ∧ RdDid F p (tkRest xs e 1) (tkE xs e 1) w w' := rnumber_any F p xs e 1 w h (by omega)
  have hb := rdN_lt e 1 h.lt
  obtain ⟨x, hx⟩ : ∃ x, x = rdN xs e 1 := ⟨_, rfl⟩
  rw [← hx] at cc hb ⊢
  have e1 : IntKind.i64.wrap x = x := by rw [IntKind.wrap_i64]; omega
  clear h hb hx
  go_enter Tryz.func51, Tryz.ntmps51
  go_wp2_with (go_at_call 65; refine cc.mono ?_; rintro ex w1 ⟨rfl, hd⟩)
  go_ret
  exact ⟨rfl, hd⟩
theorem wdB_cons (x : Int) (d : List Int) : wdB (x :: d) = be64 x ++ wdB d := by simp [wdB]
theorem drop_cons {α : Type} {l : List α} {k : Nat} {x : α} (h : l[k]? = some x) : l.drop k = x :: l.drop (k + 1) := by
  obtain ⟨hk, rfl⟩ := List.getElem?_eq_some_iff.1 h
  exact List.drop_eq_getElem_cons hk
def TkR (F : Nat → Prop) (p : Nat) (rs : List Nat) (z : Int) (wr : World) (u : Value) (W : World) : Prop := u = .int .i64 z ∧ Rd W F p rs 0 ∧ Kept (fun j => j = p) wr W
theorem gv_pb {wr W w5 : World} {B pb p k gg cc yc : Nat} {ya : Option Addr} {z : Int} {A : Array Value} {us vs : List Value} (hpb : wr.heap[pb]? = some (.cells A 25)) (hpp : pb ≠ p) (own : wr.ownsRow B 2 1 (.slice ya k yc) k us) (kW : Kept (fun j => j = p) wr W) (kk : Kept (fun j => (Value.slice ya k yc).ownBlock = some j) (W.alloc (.cells #[.int .i64 z] 2)) w5) (own5 : w5.ownsRow B 2 1 (.slice (some ⟨gg, 0, none⟩) (k + 1) cc) (k + 1) vs) : w5.heap[pb]? = some (.cells A 25) ∧ gg ≠ pb := by
  have b5 : w5.heap[pb]? = some (.cells A 25) := kk.at' ((kW.alloc _).at' hpb hpp) (fun e => by
    obtain ⟨_, cs, q2⟩ := owns_blk own e
    exact absurd (two_tags q2 hpb) (by decide))
  refine ⟨b5, fun e => ?_⟩
  obtain ⟨_, cs, q2⟩ := owns_blk own5 (g := gg) rfl
  rw [e] at q2
  exact absurd (two_tags q2 b5) (by decide)
theorem gv_next {wr W w5 w2 : World} {F : Nat → Prop} {p pb k gg cc yc : Nat} {ya : Option Addr} {n0 n1 n2 n3 n4 n5 z : Int} {zs : List Int} {rs : List Nat} (kr : Kept (fun j => j = p ∨ j = pb) w2 wr) (rd : Rd W F p rs 0) (hF : ∀ j, F j → j < pb) (kW : Kept (fun j => j = p) wr W) (kk : Kept (fun j => (Value.slice ya k yc).ownBlock = some j) (W.alloc (.cells #[.int .i64 z] 2)) w5) (own5 : w5.ownsRow w2.heap.size 2 1 (.slice (some ⟨gg, 0, none⟩) (k + 1) cc) (k + 1) ((zs.take k).map iv ++ [.int .i64 z])) (b5 : w5.heap[pb]? = some (.cells (R7 n0 n1 n2 n3 n4 n5 (.slice ya k yc)) 25)) (hne : gg ≠ pb) (hpl : pb < w2.heap.size) (own : wr.ownsRow w2.heap.size 2 1 (.slice ya k yc) k ((zs.take k).map iv)) (hzt : (zs.take (k + 1)).map iv = (zs.take k).map iv ++ [.int .i64 z]) :
    (w5.setCell ⟨pb, 0 + 6, none⟩ (.slice (some ⟨gg, 0, none⟩) (k + 1) cc)).heap[pb]? = some (.cells (R7 n0 n1 n2 n3 n4 n5 (.slice (some ⟨gg, 0, none⟩) (k + 1) cc)) 25) ∧ (w5.setCell ⟨pb, 0 + 6, none⟩ (.slice (some ⟨gg, 0, none⟩) (k + 1) cc)).ownsRow w2.heap.size 2 1 (.slice (some ⟨gg, 0, none⟩) (k + 1) cc) (k + 1) ((zs.take (k + 1)).map iv) ∧ Rd (w5.setCell ⟨pb, 0 + 6, none⟩ (.slice (some ⟨gg, 0, none⟩) (k + 1) cc)) F p rs 0 ∧ Kept (fun j => j = p ∨ j = pb) w2 (w5.setCell ⟨pb, 0 + 6, none⟩ (.slice (some ⟨gg, 0, none⟩) (k + 1) cc)) := by
  have ks : Kept (fun j => j = pb) w5 (w5.setCell ⟨pb, 0 + 6, none⟩ (.slice (some ⟨gg, 0, none⟩) (k + 1) cc)) := (Kept.refl (fun j => j = pb) w5).setCell (p := ⟨pb, 0 + 6, none⟩) (.inl rfl) _
  refine ⟨set_blk b5 6 _, ?_, ?_, ?_⟩
  · rw [hzt]
    exact ks.owns own5 (fun j e1 e2 => hne (by injection e1 with e1; exact e1.trans e2))
  · exact ((rd.kept ((Kept.refl No W).alloc _) (fun _ _ e => e)).kept kk (fun j hj e => by have h1 := (owns_blk own e).1; have h2 := hF j hj; omega)).kept ks (fun j hj e => by have h2 := hF j hj; have e' : j = pb := e; omega)
  · exact (((kr.trans kW (fun _ e => .inl (.inl e))).alloc _).trans kk (fun j e => .inr (owns_blk own e).1)).trans ks (fun j e => .inl (.inr e))
theorem er_cRI {w : World} {a : Act} {o : Oper} (x : Operand) (t : TypeId) (ho : o.op = .call { callee := .value (.func 50), args := #[x], argTypes := #[t] }) (v : Value) (hx : a.eval x = v) : (execOp a.eval o).run Tryz.prog w = .ok (.enter 50 #[v]) w := by
  subst hx
  simp [execOp, ho, go_sem, Act.eval]
set_option maxHeartbeats 16000000 in
theorem getEvent_yes (F : Nat → Prop) (p : Nat) (x : Ev) (r : List Nat) (w : World) (h : Rd w F p (evB x ++ r) 0) (hF : ∀ k, F k → k < w.heap.size) (hg : x.Go) (hf : x.Fit) :
    Calls Tryz.prog 28 #[.pointer (some ⟨p, 0, none⟩)] w fun ex w' => ∃ a c, ex = .returned (.agg (x.val a c)) ∧ w'.ownsRow w.heap.size 2 1 (.slice a x.d.length c) x.d.length (x.d.map iv) ∧ Rd w' F p r 0 ∧ Kept (fun k => k = p) w w' := by
  obtain ⟨w2, e2⟩ : ∃ w2, w2 = (w.alloc (.cells #[.int .i64 0, .int .i64 0, .int .i64 0, .int .i64 0, .int .i64 0, .int .i64 0, .slice none 0 0] 25)).alloc (.cells #[.int .i64 0, .int .i64 0, .int .i64 0, .int .i64 0, .int .i64 0, .int .i64 0, .slice none 0 0] 25) := ⟨_, rfl⟩
  have K2 : Kept No w w2 := by rw [e2]; exact ((Kept.refl No w).alloc _).alloc _
  have BA : w2.heap[w.heap.size]? = some (.cells #[.int .i64 0, .int .i64 0, .int .i64 0, .int .i64 0, .int .i64 0, .int .i64 0, .slice none 0 0] 25) := by rw [e2]; exact ((Kept.refl No _).alloc _).at' (alloc_new w _) (fun e => e)
  have BR : w2.heap[w.heap.size + 1]? = some (.cells #[.int .i64 0, .int .i64 0, .int .i64 0, .int .i64 0, .int .i64 0, .int .i64 0, .slice none 0 0] 25) := by
    have := alloc_new (w.alloc (.cells #[.int .i64 0, .int .i64 0, .int .i64 0, .int .i64 0, .int .i64 0, .int .i64 0, .slice none 0 0] 25)) (.cells #[.int .i64 0, .int .i64 0, .int .i64 0, .int .i64 0, .int .i64 0, .int .i64 0, .slice none 0 0] 25)
    rw [World.size_alloc] at this
    rw [e2]; exact this
  have S2 : Hid (w2.heap.size = w.heap.size + 2) := by show w2.heap.size = w.heap.size + 2; rw [e2]; simp
  have hp : p < w.heap.size := hF p (by obtain ⟨a, n, c, hv⟩ := h; exact hv.fp)
  have r0 : Rd w2 F p (be64 x.tk ++ (be x.pt.toNat 1 ++ (be x.kd.toNat 1 ++ (be x.pr.toNat 1 ++ (be64 x.ea ++ (be64 x.eb ++ (be x.d.length 1 ++ (wdB x.d ++ r)))))))) 0 := by
    have := h.kept K2 (fun _ _ e => e)
    simpa [evB, hdB] using this
  have R0 := hid r0
  clear r0
  obtain ⟨g0, g1, g2, g3, g4, g5, g6, g7, g8⟩ := hg
  have hd16 : x.d.length ≤ 16 := by omega
  have T0 : T6 x.tk := ⟨by omega, by omega⟩
  have N1 : x.pt.toNat < 256 ∧ ((x.pt.toNat : Nat) : Int) = x.pt := ⟨by omega, by omega⟩
  have N2 : x.kd.toNat < 256 ∧ ((x.kd.toNat : Nat) : Int) = x.kd := ⟨by omega, by omega⟩
  have N3 : x.pr.toNat < 256 ∧ ((x.pr.toNat : Nat) : Int) = x.pr := ⟨by omega, by omega⟩
  have HN := hid (And.intro T0 (And.intro N1 (And.intro N2 (And.intro N3 hf))))
  have HH := hid (And.intro K2 (And.intro BA (And.intro hF hp)))
  have B0 := hid BR
  have Q0 : Hid (Kept (fun k => k = p ∨ k = w.heap.size + 1) w2 w2) := Kept.refl _ _
  clear K2 BA BR h hF hp T0 N1 N2 N3 hf g0 g1 g2 g3 g4 g5 g6 g7 g8
  go_enter Tryz.func28, Tryz.ntmps28
  go_upto_region 2 with fail
  rw [← e2]
  clear e2
  have c0 := ri64_any F p _ 0 w2 R0.out
  have q0 := rd64 HN.out.1 (be x.pt.toNat 1 ++ (be x.kd.toNat 1 ++ (be x.pr.toNat 1 ++ (be64 x.ea ++ (be64 x.eb ++ (be x.d.length 1 ++ (wdB x.d ++ r)))))))
  rw [q0.1, q0.2.1, q0.2.2] at c0
  clear q0
  go_upto_region 3 with (go_at_call 50; refine c0.mono ?_; rintro ex v0 ⟨rfl, hd⟩; have bb := hd.2.at' B0.out (fun e => by have h1 := HH.out.2.2.2; have e' : w.heap.size + 1 = p := e; omega); have y := (cell_blk bb 0).trans rfl; have f := fz_blk bb 0; have H := hid (And.intro hd bb); clear hd bb c0)
  obtain ⟨u1, eu⟩ : ∃ u1, u1 = v0.setCell ⟨w.heap.size + 1, 0, none⟩ (.int .i64 x.tk) := ⟨_, rfl⟩
  rw [← eu]
  have KS : Kept (fun k => k = w.heap.size + 1) v0 u1 := by rw [eu]; exact (Kept.refl (fun k => k = w.heap.size + 1) v0).setCell (p := ⟨w.heap.size + 1, 0, none⟩) (.inl rfl) _
  have B1 : Hid (u1.heap[w.heap.size + 1]? = some (.cells #[.int .i64 x.tk, .int .i64 0, .int .i64 0, .int .i64 0, .int .i64 0, .int .i64 0, .slice none 0 0] 25)) := by show u1.heap[_]? = _; rw [eu]; exact set_blk H.out.2 0 _
  have R1 := hid (H.out.1.1.kept KS (fun b hb e => by have h1 := HH.out.2.2.1 b hb; have e' : b = w.heap.size + 1 := e; omega))
  have Q1 : Hid (Kept (fun k => k = p ∨ k = w.heap.size + 1) w2 u1) := (Q0.out.trans H.out.1.2 (fun k e => .inl (.inl e))).trans KS (fun k e => .inl (.inr e))
  clear eu KS y f H Q0 B0 R0
  have c1 := ru8_any F p _ 0 u1 R1.out
  have q1 := rd8 HN.out.2.1.1 (be x.kd.toNat 1 ++ (be x.pr.toNat 1 ++ (be64 x.ea ++ (be64 x.eb ++ (be x.d.length 1 ++ (wdB x.d ++ r))))))
  rw [q1.1, q1.2.1, q1.2.2, HN.out.2.1.2] at c1
  clear q1
  go_upto_region 4 with (go_at_call 51; refine c1.mono ?_; rintro ex v1 ⟨rfl, hd⟩; have bb := hd.2.at' B1.out (fun e => by have h1 := HH.out.2.2.2; have e' : w.heap.size + 1 = p := e; omega); have y := (cell_blk bb 1).trans rfl; have f := fz_blk bb 1; have H := hid (And.intro hd bb); clear hd bb c1)
  obtain ⟨u2, eu⟩ : ∃ u2, u2 = v1.setCell ⟨w.heap.size + 1, 1, none⟩ (.int .i64 x.pt) := ⟨_, rfl⟩
  rw [← eu]
  have KS : Kept (fun k => k = w.heap.size + 1) v1 u2 := by rw [eu]; exact (Kept.refl (fun k => k = w.heap.size + 1) v1).setCell (p := ⟨w.heap.size + 1, 1, none⟩) (.inl rfl) _
  have B2 : Hid (u2.heap[w.heap.size + 1]? = some (.cells #[.int .i64 x.tk, .int .i64 x.pt, .int .i64 0, .int .i64 0, .int .i64 0, .int .i64 0, .slice none 0 0] 25)) := by show u2.heap[_]? = _; rw [eu]; exact set_blk H.out.2 1 _
  have R2 := hid (H.out.1.1.kept KS (fun b hb e => by have h1 := HH.out.2.2.1 b hb; have e' : b = w.heap.size + 1 := e; omega))
  have Q2 : Hid (Kept (fun k => k = p ∨ k = w.heap.size + 1) w2 u2) := (Q1.out.trans H.out.1.2 (fun k e => .inl (.inl e))).trans KS (fun k e => .inl (.inr e))
  clear eu KS y f H Q1 B1 R1
  have c2 := ru8_any F p _ 0 u2 R2.out
  have q2 := rd8 HN.out.2.2.1.1 (be x.pr.toNat 1 ++ (be64 x.ea ++ (be64 x.eb ++ (be x.d.length 1 ++ (wdB x.d ++ r)))))
  rw [q2.1, q2.2.1, q2.2.2, HN.out.2.2.1.2] at c2
  clear q2
  go_upto_region 5 with (go_at_call 51; refine c2.mono ?_; rintro ex v2 ⟨rfl, hd⟩; have bb := hd.2.at' B2.out (fun e => by have h1 := HH.out.2.2.2; have e' : w.heap.size + 1 = p := e; omega); have y := (cell_blk bb 2).trans rfl; have f := fz_blk bb 2; have H := hid (And.intro hd bb); clear hd bb c2)
  obtain ⟨u3, eu⟩ : ∃ u3, u3 = v2.setCell ⟨w.heap.size + 1, 2, none⟩ (.int .i64 x.kd) := ⟨_, rfl⟩
  rw [← eu]
  have KS : Kept (fun k => k = w.heap.size + 1) v2 u3 := by rw [eu]; exact (Kept.refl (fun k => k = w.heap.size + 1) v2).setCell (p := ⟨w.heap.size + 1, 2, none⟩) (.inl rfl) _
  have B3 : Hid (u3.heap[w.heap.size + 1]? = some (.cells #[.int .i64 x.tk, .int .i64 x.pt, .int .i64 x.kd, .int .i64 0, .int .i64 0, .int .i64 0, .slice none 0 0] 25)) := by show u3.heap[_]? = _; rw [eu]; exact set_blk H.out.2 2 _
  have R3 := hid (H.out.1.1.kept KS (fun b hb e => by have h1 := HH.out.2.2.1 b hb; have e' : b = w.heap.size + 1 := e; omega))
  have Q3 : Hid (Kept (fun k => k = p ∨ k = w.heap.size + 1) w2 u3) := (Q2.out.trans H.out.1.2 (fun k e => .inl (.inl e))).trans KS (fun k e => .inl (.inr e))
  clear eu KS y f H Q2 B2 R2
  have c3 := ru8_any F p _ 0 u3 R3.out
  have q3 := rd8 HN.out.2.2.2.1.1 (be64 x.ea ++ (be64 x.eb ++ (be x.d.length 1 ++ (wdB x.d ++ r))))
  rw [q3.1, q3.2.1, q3.2.2, HN.out.2.2.2.1.2] at c3
  clear q3
  go_upto_region 6 with (go_at_call 51; refine c3.mono ?_; rintro ex v3 ⟨rfl, hd⟩; have bb := hd.2.at' B3.out (fun e => by have h1 := HH.out.2.2.2; have e' : w.heap.size + 1 = p := e; omega); have y := (cell_blk bb 3).trans rfl; have f := fz_blk bb 3; have H := hid (And.intro hd bb); clear hd bb c3)
  obtain ⟨u4, eu⟩ : ∃ u4, u4 = v3.setCell ⟨w.heap.size + 1, 3, none⟩ (.int .i64 x.pr) := ⟨_, rfl⟩
  rw [← eu]
  have KS : Kept (fun k => k = w.heap.size + 1) v3 u4 := by rw [eu]; exact (Kept.refl (fun k => k = w.heap.size + 1) v3).setCell (p := ⟨w.heap.size + 1, 3, none⟩) (.inl rfl) _
  have B4 : Hid (u4.heap[w.heap.size + 1]? = some (.cells #[.int .i64 x.tk, .int .i64 x.pt, .int .i64 x.kd, .int .i64 x.pr, .int .i64 0, .int .i64 0, .slice none 0 0] 25)) := by show u4.heap[_]? = _; rw [eu]; exact set_blk H.out.2 3 _
  have R4 := hid (H.out.1.1.kept KS (fun b hb e => by have h1 := HH.out.2.2.1 b hb; have e' : b = w.heap.size + 1 := e; omega))
  have Q4 : Hid (Kept (fun k => k = p ∨ k = w.heap.size + 1) w2 u4) := (Q3.out.trans H.out.1.2 (fun k e => .inl (.inl e))).trans KS (fun k e => .inl (.inr e))
  clear eu KS y f H Q3 B3 R3
  have c4 := ri64_any F p _ 0 u4 R4.out
  have q4 := rd64 HN.out.2.2.2.2.1 (be64 x.eb ++ (be x.d.length 1 ++ (wdB x.d ++ r)))
  rw [q4.1, q4.2.1, q4.2.2] at c4
  clear q4
  go_upto_region 7 with (go_at_call 50; refine c4.mono ?_; rintro ex v4 ⟨rfl, hd⟩; have bb := hd.2.at' B4.out (fun e => by have h1 := HH.out.2.2.2; have e' : w.heap.size + 1 = p := e; omega); have y := (cell_blk bb 4).trans rfl; have f := fz_blk bb 4; have H := hid (And.intro hd bb); clear hd bb c4)
  obtain ⟨u5, eu⟩ : ∃ u5, u5 = v4.setCell ⟨w.heap.size + 1, 4, none⟩ (.int .i64 x.ea) := ⟨_, rfl⟩
  rw [← eu]
  have KS : Kept (fun k => k = w.heap.size + 1) v4 u5 := by rw [eu]; exact (Kept.refl (fun k => k = w.heap.size + 1) v4).setCell (p := ⟨w.heap.size + 1, 4, none⟩) (.inl rfl) _
  have B5 : Hid (u5.heap[w.heap.size + 1]? = some (.cells #[.int .i64 x.tk, .int .i64 x.pt, .int .i64 x.kd, .int .i64 x.pr, .int .i64 x.ea, .int .i64 0, .slice none 0 0] 25)) := by show u5.heap[_]? = _; rw [eu]; exact set_blk H.out.2 4 _
  have R5 := hid (H.out.1.1.kept KS (fun b hb e => by have h1 := HH.out.2.2.1 b hb; have e' : b = w.heap.size + 1 := e; omega))
  have Q5 : Hid (Kept (fun k => k = p ∨ k = w.heap.size + 1) w2 u5) := (Q4.out.trans H.out.1.2 (fun k e => .inl (.inl e))).trans KS (fun k e => .inl (.inr e))
  clear eu KS y f H Q4 B4 R4
  have c5 := ri64_any F p _ 0 u5 R5.out
  have q5 := rd64 HN.out.2.2.2.2.2.1 (be x.d.length 1 ++ (wdB x.d ++ r))
  rw [q5.1, q5.2.1, q5.2.2] at c5
  clear q5
  go_upto_region 8 with (go_at_call 50; refine c5.mono ?_; rintro ex v5 ⟨rfl, hd⟩; have bb := hd.2.at' B5.out (fun e => by have h1 := HH.out.2.2.2; have e' : w.heap.size + 1 = p := e; omega); have y := (cell_blk bb 5).trans rfl; have f := fz_blk bb 5; have H := hid (And.intro hd bb); clear hd bb c5)
  obtain ⟨u6, eu⟩ : ∃ u6, u6 = v5.setCell ⟨w.heap.size + 1, 5, none⟩ (.int .i64 x.eb) := ⟨_, rfl⟩
  rw [← eu]
  have KS : Kept (fun k => k = w.heap.size + 1) v5 u6 := by rw [eu]; exact (Kept.refl (fun k => k = w.heap.size + 1) v5).setCell (p := ⟨w.heap.size + 1, 5, none⟩) (.inl rfl) _
  have B6 : Hid (u6.heap[w.heap.size + 1]? = some (.cells #[.int .i64 x.tk, .int .i64 x.pt, .int .i64 x.kd, .int .i64 x.pr, .int .i64 x.ea, .int .i64 x.eb, .slice none 0 0] 25)) := by show u6.heap[_]? = _; rw [eu]; exact set_blk H.out.2 5 _
  have R6 := hid (H.out.1.1.kept KS (fun b hb e => by have h1 := HH.out.2.2.1 b hb; have e' : b = w.heap.size + 1 := e; omega))
  have Q6 : Hid (Kept (fun k => k = p ∨ k = w.heap.size + 1) w2 u6) := (Q5.out.trans H.out.1.2 (fun k e => .inl (.inl e))).trans KS (fun k e => .inl (.inr e))
  clear eu KS y f H Q5 B5 R5
  have c6 := ru8_any F p _ 0 u6 R6.out
  have q6 := rd8 (n := x.d.length) (by omega) (wdB x.d ++ r)
  rw [q6.1, q6.2.1, q6.2.2] at c6
  clear q6
  go_wp2_with (go_at_call 51; refine c6.mono ?_; rintro ex w7 ⟨rfl, hd7⟩; have H7 := hid hd7; clear hd7 c6)
  have hs2 := S2.out
  go_loopw [24] (fun u24 wr => ∃ (k : Nat) (ya : Option Addr) (yc : Nat), k ≤ x.d.length ∧ u24 = .int .i64 (k : Int) ∧ wr.heap[w.heap.size + 1]? = some (.cells (R7 x.tk x.pt x.kd x.pr x.ea x.eb (.slice ya k yc)) 25) ∧ wr.ownsRow w2.heap.size 2 1 (.slice ya k yc) k ((x.d.take k).map iv) ∧ Rd wr F p (wdB (x.d.drop k) ++ r) 0 ∧ Kept (fun j => j = p ∨ j = w.heap.size + 1) w2 wr) (fun u24 _ => x.d.length - (intOf u24).toNat)
  case atStart => exact ⟨0, none, 0, by omega, rfl, H7.out.2.at' B6.out (fun e => by have h1 := HH.out.2.2.2; have e' : w.heap.size + 1 = p := e; omega), World.ownsRow_nil _ _ _ _, H7.out.1, Q6.out.trans H7.out.2 (fun k e => .inl (.inl e))⟩
  case round =>
    obtain ⟨k, ya, yc, hk, rfl, hpb, own, rd, kr⟩ := hrel
    by_cases hlt : k < x.d.length
    · have hltz : (k : Int) < (x.d.length : Int) := by omega
      have hzk : x.d[k]? = some (x.d.getD k 0) := by rw [List.getD, List.getElem?_eq_getElem hlt]; rfl
      have hz6 : T6 (x.d.getD k 0) := HN.out.2.2.2.2.2.2 _ (List.mem_of_getElem? hzk)
      rw [drop_cons hzk, wdB_cons, List.append_assoc] at rd
      have hq := rd64 hz6 (wdB (x.d.drop (k + 1)) ++ r)
      have hzt : (x.d.take (k + 1)).map iv = (x.d.take k).map iv ++ [.int .i64 (x.d.getD k 0)] := by rw [take_snoc hzk, List.map_append]; rfl
      have HZT := hid hzt
      have cI := ri64_any F p _ 0 wr.drew (rd.kept (Kept.refl No wr).drew (fun _ _ e => e))
      rw [hq.1, hq.2.1, hq.2.2] at cI
      have HCL : Hid (Calls Tryz.prog 50 #[.pointer (some ⟨p, 0, none⟩)] wr.drew fun e w'' => ∃ u, e = .returned u ∧ True ∧ TkR F p (wdB (x.d.drop (k + 1)) ++ r) (x.d.getD k 0) wr u w'') := cI.mono (fun e w'' h => ⟨_, h.1, trivial, rfl, h.2.1, (((Kept.refl No wr).drew).mono (fun _ e => e.elim)).trans h.2.2 (fun _ e => .inl e)⟩)
      have HC6 : Hid (wr.cell? ⟨w.heap.size + 1, 0 + 6, none⟩ = some (.slice ya k yc)) := (cell_blk hpb 6).trans rfl
      have HR := hid (And.intro hpb (And.intro own kr))
      have HPN : Hid (w.heap.size + 1 ≠ p) := fun e => by have h1 := HH.out.2.2.2; omega
      clear hpb own kr hq hzt cI rd hzk hz6 H7
      generalize x.d.getD k 0 = z at *
      go_upto_region 10 with fail
      refine wp_region_held_drew (S := fun _ => True) (by kernel_rfl) trivial (fun hS => ?_)
      refine d_take 0 26 rfl rfl (by kernel_rfl) (by kernel_rfl) (by kernel_rfl) (fun _ _ _ h => h) rfl (fun w' hw' => er_fD _ rfl (w.heap.size + 1) 0 rfl) trivial ?_
      simp only [Act.put, List.setIfInBounds_toArray, List.set_cons_zero, List.set_cons_succ]
      refine d_take 2 28 rfl rfl (by kernel_rfl) (by kernel_rfl) (by kernel_rfl) (fun _ _ _ h => h) rfl (fun w' hw' => er_mv _ rfl (.pointer (some ⟨p, 0, none⟩)) rfl) trivial ?_
      simp only [Act.put, List.setIfInBounds_toArray, List.set_cons_zero, List.set_cons_succ]
      refine d_rc (TkR F p (wdB (x.d.drop (k + 1)) ++ r) z wr) 1 27 3 29 (by kernel_rfl) rfl rfl rfl rfl rfl rfl (er_ldL _ rfl (w.heap.size + 1) (0 + 6) (.slice ya k yc) rfl HC6.out) (er_cRI _ _ rfl (.pointer (some ⟨p, 0, none⟩)) rfl) HCL.out trivial ?_ (fun u W _ hT => ?_)
      · simp only [Act.put, List.setIfInBounds_toArray, List.set_cons_zero, List.set_cons_succ]
        refine d_callN (TkR F p (wdB (x.d.drop (k + 1)) ++ r) z wr) 3 29 (by kernel_rfl) rfl rfl rfl (er_cRI _ _ rfl (.pointer (some ⟨p, 0, none⟩)) rfl) HCL.out (fun u W _ hT => ?_)
        obtain ⟨rfl, rdW, kW⟩ := hT
        simp only [Act.put, List.setIfInBounds_toArray, List.set_cons_zero, List.set_cons_succ]
        refine d_make 4 30 (by kernel_rfl) rfl rfl rfl (er_bs1 _ rfl z rfl) trivial ?_
        simp only [Act.put, List.setIfInBounds_toArray, List.set_cons_zero, List.set_cons_succ]
        have hrow : ∀ j, (Value.slice ya k yc).ownBlock = some j → j ≠ p := fun j e e' => by have h1 := (owns_blk HR.out.2.1 e).1; have h2 := HH.out.2.2.2; omega
        obtain ⟨gg, cc, w5, hrun, own5, kk5⟩ := apK_run (w := W.alloc (.cells #[.int .i64 z] 2)) 23 2 w2.heap.size (.int .i64 0) 1 8 Tryz.underlying23 Tryz.infoW rfl (by decide) (.slice ya k yc) k ((x.d.take k).map iv) ((kW.alloc _).owns HR.out.2.1 hrow) (by rw [World.size_alloc]; have h1 := kW.size; have h2 := HR.out.2.2.size; omega) ⟨W.heap.size, 0, none⟩ 1 1 [.int .i64 z] rfl (cell_one_new _ _ _) (one_one _ _) (by omega) (by omega) (by decide)
        refine d_make 5 31 (by kernel_rfl) rfl rfl rfl (er_appW _ _ rfl (.slice ya k yc) (.slice (some ⟨W.heap.size, 0, none⟩) 1 1) rfl rfl _ _ rfl hrun) trivial ?_
        simp only [Act.put, List.setIfInBounds_toArray, List.set_cons_zero, List.set_cons_succ]
        refine d_take 6 32 rfl rfl (by kernel_rfl) (by kernel_rfl) (by kernel_rfl) (fun _ _ _ h => h) rfl (fun w' hw' => er_fD _ rfl (w.heap.size + 1) 0 rfl) trivial ?_
        simp only [Act.put, List.setIfInBounds_toArray, List.set_cons_zero, List.set_cons_succ]
        obtain ⟨b5, hpne⟩ : w5.heap[w.heap.size + 1]? = some (.cells (R7 x.tk x.pt x.kd x.pr x.ea x.eb (.slice ya k yc)) 25) ∧ gg ≠ w.heap.size + 1 := gv_pb HR.out.1 HPN.out HR.out.2.1 kW kk5 own5
        refine d_turn 7 (by kernel_rfl) rfl rfl rfl (er_stW _ _ rfl (w.heap.size + 1) (0 + 6) (some ⟨gg, 0, none⟩) (k + 1) cc (.slice ya k yc) rfl rfl ((cell_blk b5 6).trans rfl) (fz_blk b5 6)) trivial ?_
        refine wpAnyH_done (by kernel_rfl) ?_ _
        have HX := hid (gv_next (zs := x.d) (k := k) (z := z) HR.out.2.2 rdW (fun j hj => by have h1 := HH.out.2.2.1 j hj; omega) kW kk5 own5 b5 hpne (by omega) HR.out.2.1 HZT.out)
        clear hrun own5 kk5 b5 hpne kW rdW hrow
        go_wp2
        refine ⟨⟨k + 1, some ⟨gg, 0, none⟩, cc, by omega, by go_num, HX.out⟩, ?_⟩
        simp [intOf]; omega
      · obtain ⟨rfl, rdW, kW⟩ := hT
        simp only [Act.put, List.setIfInBounds_toArray, List.set_cons_zero, List.set_cons_succ]
        refine d_pair 1 27 4 30 (by kernel_rfl) rfl rfl rfl rfl rfl rfl (er_ldL _ rfl (w.heap.size + 1) (0 + 6) (.slice ya k yc) rfl (kW.cell HC6.out HPN.out)) (er_bs1 _ rfl z rfl) trivial trivial ?_ ?_
        · simp only [Act.put, List.setIfInBounds_toArray, List.set_cons_zero, List.set_cons_succ]
          refine d_make 4 30 (by kernel_rfl) rfl rfl rfl (er_bs1 _ rfl z rfl) trivial ?_
          simp only [Act.put, List.setIfInBounds_toArray, List.set_cons_zero, List.set_cons_succ]
          have hrow : ∀ j, (Value.slice ya k yc).ownBlock = some j → j ≠ p := fun j e e' => by have h1 := (owns_blk HR.out.2.1 e).1; have h2 := HH.out.2.2.2; omega
          obtain ⟨gg, cc, w5, hrun, own5, kk5⟩ := apK_run (w := W.alloc (.cells #[.int .i64 z] 2)) 23 2 w2.heap.size (.int .i64 0) 1 8 Tryz.underlying23 Tryz.infoW rfl (by decide) (.slice ya k yc) k ((x.d.take k).map iv) ((kW.alloc _).owns HR.out.2.1 hrow) (by rw [World.size_alloc]; have h1 := kW.size; have h2 := HR.out.2.2.size; omega) ⟨W.heap.size, 0, none⟩ 1 1 [.int .i64 z] rfl (cell_one_new _ _ _) (one_one _ _) (by omega) (by omega) (by decide)
          refine d_make 5 31 (by kernel_rfl) rfl rfl rfl (er_appW _ _ rfl (.slice ya k yc) (.slice (some ⟨W.heap.size, 0, none⟩) 1 1) rfl rfl _ _ rfl hrun) trivial ?_
          simp only [Act.put, List.setIfInBounds_toArray, List.set_cons_zero, List.set_cons_succ]
          refine d_take 6 32 rfl rfl (by kernel_rfl) (by kernel_rfl) (by kernel_rfl) (fun _ _ _ h => h) rfl (fun w' hw' => er_fD _ rfl (w.heap.size + 1) 0 rfl) trivial ?_
          simp only [Act.put, List.setIfInBounds_toArray, List.set_cons_zero, List.set_cons_succ]
          obtain ⟨b5, hpne⟩ : w5.heap[w.heap.size + 1]? = some (.cells (R7 x.tk x.pt x.kd x.pr x.ea x.eb (.slice ya k yc)) 25) ∧ gg ≠ w.heap.size + 1 := gv_pb HR.out.1 HPN.out HR.out.2.1 kW kk5 own5
          refine d_turn 7 (by kernel_rfl) rfl rfl rfl (er_stW _ _ rfl (w.heap.size + 1) (0 + 6) (some ⟨gg, 0, none⟩) (k + 1) cc (.slice ya k yc) rfl rfl ((cell_blk b5 6).trans rfl) (fz_blk b5 6)) trivial ?_
          refine wpAnyH_done (by kernel_rfl) ?_ _
          have HX := hid (gv_next (zs := x.d) (k := k) (z := z) HR.out.2.2 rdW (fun j hj => by have h1 := HH.out.2.2.1 j hj; omega) kW kk5 own5 b5 hpne (by omega) HR.out.2.1 HZT.out)
          clear hrun own5 kk5 b5 hpne kW rdW hrow
          go_wp2
          refine ⟨⟨k + 1, some ⟨gg, 0, none⟩, cc, by omega, by go_num, HX.out⟩, ?_⟩
          simp [intOf]; omega
        · simp only [Act.put, List.setIfInBounds_toArray, List.set_cons_zero, List.set_cons_succ]
          refine d_read 1 27 (by kernel_rfl) rfl rfl rfl (er_ldL _ rfl (w.heap.size + 1) (0 + 6) (.slice ya k yc) rfl ((kW.alloc _).cell HC6.out HPN.out)) trivial ?_
          simp only [Act.put, List.setIfInBounds_toArray, List.set_cons_zero, List.set_cons_succ]
          have hrow : ∀ j, (Value.slice ya k yc).ownBlock = some j → j ≠ p := fun j e e' => by have h1 := (owns_blk HR.out.2.1 e).1; have h2 := HH.out.2.2.2; omega
          obtain ⟨gg, cc, w5, hrun, own5, kk5⟩ := apK_run (w := W.alloc (.cells #[.int .i64 z] 2)) 23 2 w2.heap.size (.int .i64 0) 1 8 Tryz.underlying23 Tryz.infoW rfl (by decide) (.slice ya k yc) k ((x.d.take k).map iv) ((kW.alloc _).owns HR.out.2.1 hrow) (by rw [World.size_alloc]; have h1 := kW.size; have h2 := HR.out.2.2.size; omega) ⟨W.heap.size, 0, none⟩ 1 1 [.int .i64 z] rfl (cell_one_new _ _ _) (one_one _ _) (by omega) (by omega) (by decide)
          refine d_make 5 31 (by kernel_rfl) rfl rfl rfl (er_appW _ _ rfl (.slice ya k yc) (.slice (some ⟨W.heap.size, 0, none⟩) 1 1) rfl rfl _ _ rfl hrun) trivial ?_
          simp only [Act.put, List.setIfInBounds_toArray, List.set_cons_zero, List.set_cons_succ]
          refine d_take 6 32 rfl rfl (by kernel_rfl) (by kernel_rfl) (by kernel_rfl) (fun _ _ _ h => h) rfl (fun w' hw' => er_fD _ rfl (w.heap.size + 1) 0 rfl) trivial ?_
          simp only [Act.put, List.setIfInBounds_toArray, List.set_cons_zero, List.set_cons_succ]
          obtain ⟨b5, hpne⟩ : w5.heap[w.heap.size + 1]? = some (.cells (R7 x.tk x.pt x.kd x.pr x.ea x.eb (.slice ya k yc)) 25) ∧ gg ≠ w.heap.size + 1 := gv_pb HR.out.1 HPN.out HR.out.2.1 kW kk5 own5
          refine d_turn 7 (by kernel_rfl) rfl rfl rfl (er_stW _ _ rfl (w.heap.size + 1) (0 + 6) (some ⟨gg, 0, none⟩) (k + 1) cc (.slice ya k yc) rfl rfl ((cell_blk b5 6).trans rfl) (fz_blk b5 6)) trivial ?_
          refine wpAnyH_done (by kernel_rfl) ?_ _
          have HX := hid (gv_next (zs := x.d) (k := k) (z := z) HR.out.2.2 rdW (fun j hj => by have h1 := HH.out.2.2.1 j hj; omega) kW kk5 own5 b5 hpne (by omega) HR.out.2.1 HZT.out)
          clear hrun own5 kk5 b5 hpne kW rdW hrow
          go_wp2
          refine ⟨⟨k + 1, some ⟨gg, 0, none⟩, cc, by omega, by go_num, HX.out⟩, ?_⟩
          simp [intOf]; omega
    · have hltz : ¬ (k : Int) < (x.d.length : Int) := by omega
      obtain rfl : k = x.d.length := by omega
      rw [List.take_of_length_le (Nat.le_refl _)] at own
      rw [List.drop_eq_nil_of_le (Nat.le_refl _), wdB_nil, List.nil_append] at rd
      have LP := hid (ldSt (w := wr) (b := w.heap.size + 1) (o := 0) 25 _ (x.val ya yc) (fun j v hv => by rw [Nat.zero_add, cell_blk hpb, ← Array.getElem?_toList]; exact hv) Tryz.underlying25 rfl Tryz.infoI4)
      have H4 := hid (And.intro (kr.at' HH.out.2.1 (fun e => by have h1 := HH.out.2.2.2; rcases e with e | e <;> omega)) (And.intro own (And.intro rd kr)))
      clear hpb own kr rd H7
      go_wp2_with (first
        | (refine l_take 34 rfl rfl (er_ldX 25 (.tmp 3) rfl (.pointer (some ⟨w.heap.size + 1, 0, none⟩)) (.agg (x.val ya yc)) rfl LP.out) ?_)
        | (refine l_turn rfl rfl (er_stI _ _ rfl w.heap.size (x.val ya yc) _ rfl rfl H4.out.1 rfl rfl (x.val_one ya yc)) ?_))
      have hfin := setRow_heap _ _ _ (x.val ya yc) _ (0, 0) H4.out.1
      refine bodyPost_ret (results_cell_row rfl _ _ w.heap.size 25 (x.val ya yc) (0, 0) _ rfl hfin Tryz.underlying25 rfl (by kernel_rfl)) rfl ?_
      have KF : Kept (fun b => b = w.heap.size) wr (wr.setRow w.heap.size (x.val ya yc)) := (Kept.refl (fun b => b = w.heap.size) wr).setRow (.inl rfl) _
      refine ⟨ya, yc, rfl, owns_base (KF.owns H4.out.2.1 (fun g hg e => by have h1 := (owns_blk H4.out.2.1 hg).1; have e' : g = w.heap.size := e; omega)) (by omega), H4.out.2.2.1.kept KF (fun b hb e => by have h1 := HH.out.2.2.1 b hb; have e' : b = w.heap.size := e; omega), ?_⟩
      exact ((HH.out.1.mono (fun _ e => e.elim)).trans H4.out.2.2.2 (fun k e => by rcases e with e | e; exact .inl e; exact .inr (by omega))).trans KF (fun k e => .inr (by have e' : k = w.heap.size := e; omega))
end Go.Proofs.YtjhhldgbllbbhaaGreatDoor
