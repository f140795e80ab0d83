/-
  script.getInput of any bytes.
-/
import Derived.Test.YtfdcmhbpnadcpabDoorEAny
namespace Go.Proofs.YtfdcmhbpnadcpabDoor
open Go.RowKit
set_option linter.unusedVariables false
set_option linter.unusedSimpArgs false
set_option maxRecDepth 100000

/-- an input that was read -/
def Gx (w : World) (F : Nat → Prop) (p : Nat) (xs : List Nat) (e : Int) (x : Inp) (a : Option Addr) (c : Nat) (w' : World) : Prop :=
  ∃ rest e', w'.ownsRow w.heap.size 2 1 (.slice a x.d.length c) x.d.length (x.d.map iv) ∧ Rd w' F p rest e' ∧ Fl e' ∧ (e' = 0 → e = 0 ∧ xs = inB x ++ rest) ∧ Ok6 x ∧ x.d.length ≤ 524288 ∧ Kept (fun k => k = p) w w'
set_option maxHeartbeats 8000000 in
theorem getInput_any (F : Nat → Prop) (p : Nat) (xs : List Nat) (e : Int) (w : World) (h : Rd w F p xs e) (hF : ∀ k, F k → k < w.heap.size) (hs : xs.length ≤ 4194304) (hfl : Fl e) :
    Calls Tryd.prog 14 #[.pointer (some ⟨p, 0, none⟩)] w fun ex w' => ∃ x a c, ex = .returned (.agg (x.val a c)) ∧ Gx w F p xs e x a c w' := by
  obtain ⟨w2, ew2⟩ : ∃ w2, w2 = (w.alloc (.cells #[.int .i64 0, .int .i64 0, .int .i64 0, .slice none 0 0] 34)).alloc (.cells #[.int .i64 0, .int .i64 0, .int .i64 0, .slice none 0 0] 34) := ⟨_, rfl⟩
  have K2 : Kept No w w2 := by rw [ew2]; exact ((Kept.refl No w).alloc _).alloc _
  have BA : w2.heap[w.heap.size]? = some (.cells #[.int .i64 0, .int .i64 0, .int .i64 0, .slice none 0 0] 34) := by rw [ew2]; exact ((Kept.refl No _).alloc _).at' (alloc_new w _) (fun e => e)
  have BR : w2.heap[w.heap.size + 1]? = some (.cells #[.int .i64 0, .int .i64 0, .int .i64 0, .slice none 0 0] 34) := by
    have := alloc_new (w.alloc (.cells #[.int .i64 0, .int .i64 0, .int .i64 0, .slice none 0 0] 34)) (.cells #[.int .i64 0, .int .i64 0, .int .i64 0, .slice none 0 0] 34)
    rw [World.size_alloc] at this
    rw [ew2]; exact this
  have S2 : Hid (w2.heap.size = w.heap.size + 2) := by show w2.heap.size = w.heap.size + 2; rw [ew2]; simp
  have hp : p < w.heap.size := hF p (by obtain ⟨a, n, c, hv⟩ := h; exact hv.fp)
  have r2 : Rd w2 F p xs e := h.kept K2 (fun _ _ e => e)
  have hb := h.lt
  have c1 := ri64_any F p _ e w2 r2
  have T1 := hid (t6I xs e)
  have P1 := hid (fun h0 => back8 (e := e) hb h0)
  have L1 := hid (Nat.le_trans (tkRest_len xs e 8) hs)
  have F1 := hid (Fl.tk (xs := xs) (n := 8) hfl)
  generalize rdI xs e = x1 at *
  generalize tkRest xs e 8 = xs1 at *
  generalize tkE xs e 8 = e1 at *
  have HH := hid (And.intro K2 (And.intro BA (And.intro BR (And.intro hF hp))))
  clear K2 BA BR h r2 hF hp hb hfl hs
  go_enter Tryd.func14, Tryd.ntmps14
  go_upto_region 2 with fail
  rw [← ew2]
  clear ew2
  have B1 := hid HH.out.2.2.1
  have Q1 : Hid (Kept (fun k => k = p ∨ k = w.heap.size + 1) w2 w2) := Kept.refl _ _
  go_upto_region 3 with (go_at_call 28; refine c1.mono ?_; rintro ex v1 ⟨rfl, hd⟩; have bb := hd.2.at' B1.out (fun e => by have h1 := HH.out.2.2.2.2; have e' : w.heap.size + 1 = p := e; omega); have y := (cell_blk bb 0).trans rfl; have f := fz_blk bb 0; have H := hid (And.intro hd bb); clear hd bb c1)
  obtain ⟨u1, eu⟩ : ∃ u1, u1 = v1.setCell ⟨w.heap.size + 1, 0, none⟩ (.int .i64 x1) := ⟨_, rfl⟩
  rw [← eu]
  have KS : Kept (fun k => k = w.heap.size + 1) v1 u1 := by rw [eu]; exact (Kept.refl (fun k => k = w.heap.size + 1) v1).setCell (p := ⟨w.heap.size + 1, 0, none⟩) (.inl rfl) _
  have B2 : Hid (u1.heap[w.heap.size + 1]? = some (.cells #[.int .i64 x1, .int .i64 0, .int .i64 0, .slice none 0 0] 34)) := by show u1.heap[_]? = _; rw [eu]; exact set_blk H.out.2 0 _
  have R2 := hid (H.out.1.1.kept KS (fun b hb e => by have h1 := HH.out.2.2.2.1 b hb; have e' : b = w.heap.size + 1 := e; omega))
  have Q2 : Hid (Kept (fun k => k = p ∨ k = w.heap.size + 1) w2 u1) := (Q1.out.trans H.out.1.2 (fun k e => .inl (.inl e))).trans KS (fun k e => .inl (.inr e))
  clear eu KS y f H Q1 B1
  have c2 := ri64_any F p _ e1 u1 R2.out
  have hb2 := R2.out.lt
  have T2 := hid (t6I xs1 e1)
  have P2 := hid (fun h0 => back8 (e := e1) hb2 h0)
  have L2 := hid (Nat.le_trans (tkRest_len xs1 e1 8) L1.out)
  have F2 := hid (Fl.tk (xs := xs1) (n := 8) F1.out)
  generalize rdI xs1 e1 = x2 at *
  generalize tkRest xs1 e1 8 = xs2 at *
  generalize tkE xs1 e1 8 = e2 at *
  clear hb2
  go_upto_region 4 with (go_at_call 28; refine c2.mono ?_; rintro ex v2 ⟨rfl, hd⟩; have bb := hd.2.at' B2.out (fun e => by have h1 := HH.out.2.2.2.2; have e' : w.heap.size + 1 = p := e; omega); have y := (cell_blk bb 1).trans rfl; have f := fz_blk bb 1; have H := hid (And.intro hd bb); clear hd bb c2)
  obtain ⟨u2, eu⟩ : ∃ u2, u2 = v2.setCell ⟨w.heap.size + 1, 1, none⟩ (.int .i64 x2) := ⟨_, rfl⟩
  rw [← eu]
  have KS : Kept (fun k => k = w.heap.size + 1) v2 u2 := by rw [eu]; exact (Kept.refl (fun k => k = w.heap.size + 1) v2).setCell (p := ⟨w.heap.size + 1, 1, none⟩) (.inl rfl) _
  have B3 : Hid (u2.heap[w.heap.size + 1]? = some (.cells #[.int .i64 x1, .int .i64 x2, .int .i64 0, .slice none 0 0] 34)) := by show u2.heap[_]? = _; rw [eu]; exact set_blk H.out.2 1 _
  have R3 := hid (H.out.1.1.kept KS (fun b hb e => by have h1 := HH.out.2.2.2.1 b hb; have e' : b = w.heap.size + 1 := e; omega))
  have Q3 : Hid (Kept (fun k => k = p ∨ k = w.heap.size + 1) w2 u2) := (Q2.out.trans H.out.1.2 (fun k e => .inl (.inl e))).trans KS (fun k e => .inl (.inr e))
  clear eu KS y f H Q2 B2
  have c3 := ri64_any F p _ e2 u2 R3.out
  have hb3 := R3.out.lt
  have T3 := hid (t6I xs2 e2)
  have P3 := hid (fun h0 => back8 (e := e2) hb3 h0)
  have L3 := hid (Nat.le_trans (tkRest_len xs2 e2 8) L2.out)
  have F3 := hid (Fl.tk (xs := xs2) (n := 8) F2.out)
  generalize rdI xs2 e2 = x3 at *
  generalize tkRest xs2 e2 8 = xs3 at *
  generalize tkE xs2 e2 8 = e3 at *
  clear hb3
  go_upto_region 5 with (go_at_call 28; refine c3.mono ?_; rintro ex v3 ⟨rfl, hd⟩; have bb := hd.2.at' B3.out (fun e => by have h1 := HH.out.2.2.2.2; have e' : w.heap.size + 1 = p := e; omega); have y := (cell_blk bb 2).trans rfl; have f := fz_blk bb 2; have H := hid (And.intro hd bb); clear hd bb c3)
  obtain ⟨u3, eu⟩ : ∃ u3, u3 = v3.setCell ⟨w.heap.size + 1, 2, none⟩ (.int .i64 x3) := ⟨_, rfl⟩
  rw [← eu]
  have KS : Kept (fun k => k = w.heap.size + 1) v3 u3 := by rw [eu]; exact (Kept.refl (fun k => k = w.heap.size + 1) v3).setCell (p := ⟨w.heap.size + 1, 2, none⟩) (.inl rfl) _
  have B4 : Hid (u3.heap[w.heap.size + 1]? = some (.cells #[.int .i64 x1, .int .i64 x2, .int .i64 x3, .slice none 0 0] 34)) := by show u3.heap[_]? = _; rw [eu]; exact set_blk H.out.2 2 _
  have R4 := hid (H.out.1.1.kept KS (fun b hb e => by have h1 := HH.out.2.2.2.1 b hb; have e' : b = w.heap.size + 1 := e; omega))
  have Q4 : Hid (Kept (fun k => k = p ∨ k = w.heap.size + 1) w2 u3) := (Q3.out.trans H.out.1.2 (fun k e => .inl (.inl e))).trans KS (fun k e => .inl (.inr e))
  clear eu KS y f H Q3 B3
  have s2 := S2.out
  have c4 := getWords_any F p xs3 e3 u3 R4.out (fun k hk => by have h1 := HH.out.2.2.2.1 k hk; have h2 := Q4.out.size; omega) L3.out F3.out
  have hsz3 : w.heap.size + 2 ≤ u3.heap.size := by have := Q4.out.size; omega
  go_upto_region 6 with (go_at_call 29; refine c4.mono ?_; rintro ex v4 ⟨da, dm, dc, rfl, ys, rest, e4, hyl, o4, r4, f4e, p4, t4, m4, k4⟩; have W4 := hid (And.intro hyl (And.intro f4e (And.intro p4 (And.intro t4 m4)))); clear f4e p4 t4 m4; have b4 := k4.at' B4.out (fun e => by have h1 := HH.out.2.2.2.2; have e' : w.heap.size + 1 = p := e; omega); have y4 := (cell_blk b4 3).trans rfl; have f4 := fz_blk b4 3; have H4 := hid (And.intro o4 (And.intro r4 (And.intro k4 b4))); clear o4 r4 k4 b4 c4)
  obtain ⟨u4, eu⟩ : ∃ u4, u4 = v4.setCell ⟨w.heap.size + 1, 3, none⟩ (.slice da dm dc) := ⟨_, rfl⟩
  rw [← eu]
  have KS : Kept (fun k => k = w.heap.size + 1) v4 u4 := by rw [eu]; exact (Kept.refl (fun k => k = w.heap.size + 1) v4).setCell (p := ⟨w.heap.size + 1, 3, none⟩) (.inl rfl) _
  have B5 : u4.heap[w.heap.size + 1]? = some (.cells #[.int .i64 x1, .int .i64 x2, .int .i64 x3, .slice da dm dc] 34) := by rw [eu]; exact set_blk H4.out.2.2.2 3 _
  have R5 := H4.out.2.1.kept KS (fun b hb e => by have h1 := HH.out.2.2.2.1 b hb; have e' : b = w.heap.size + 1 := e; omega)
  have Q5 : Kept (fun k => k = p ∨ k = w.heap.size + 1) w2 u4 := (Q4.out.trans H4.out.2.2.1 (fun k e => .inl (.inl e))).trans KS (fun k e => .inl (.inr e))
  have O5 := KS.owns H4.out.1 (fun g hg e => by have h1 := (owns_blk H4.out.1 hg).1; have e' : g = w.heap.size + 1 := e; omega)
  have BA5 : u4.heap[w.heap.size]? = some (.cells #[.int .i64 0, .int .i64 0, .int .i64 0, .slice none 0 0] 34) := Q5.at' HH.out.2.1 (fun e => by have h1 := HH.out.2.2.2.2; rcases e with e | e <;> omega)
  subst hyl
  obtain ⟨x, ex⟩ : ∃ x : Inp, x = ⟨x1, x2, x3, ys⟩ := ⟨_, rfl⟩
  have EV : x.val da dc = #[.int .i64 x1, .int .i64 x2, .int .i64 x3, .slice da ys.length dc] := by rw [ex]; rfl
  rw [← EV] at B5
  have EX := hid ex
  clear ex EV
  have LX : Hid ((Instr.loadAt 34 (.pointer (some ⟨w.heap.size + 1, 0, none⟩))).run Tryd.prog u4 = .ok (.agg (x.val da dc)) u4) := ldI (fun j v hv => by rw [Nat.zero_add, cell_blk B5, ← Array.getElem?_toList]; exact hv)
  have H5 := hid (And.intro R5 (And.intro Q5 (And.intro O5 BA5)))
  clear eu KS y4 f4 H4 Q4 B4 R5 Q5 O5 BA5 B5
  go_wp2_with (first
    | (refine l_take 16 rfl rfl (er_ldX 34 _ rfl (.pointer (some ⟨w.heap.size + 1, 0, none⟩)) (.agg (x.val da dc)) rfl LX.out) ?_)
    | (refine l_turn rfl rfl (er_stI _ _ rfl w.heap.size (x.val da dc) _ rfl rfl H5.out.2.2.2 rfl rfl (x.val_one da dc)) ?_))
  have hfin := setRow_heap u4 w.heap.size _ (x.val da dc) 34 (0, 0) H5.out.2.2.2
  refine bodyPost_ret (results_cell_row rfl _ _ w.heap.size 34 (x.val da dc) (0, 0) _ rfl hfin Tryd.underlying34 rfl (by kernel_rfl)) rfl ?_
  have KF : Kept (fun k => k = w.heap.size) u4 (u4.setRow w.heap.size (x.val da dc)) := (Kept.refl (fun k => k = w.heap.size) u4).setRow (.inl rfl) _
  have ed : x.d = ys := by rw [EX.out]
  refine ⟨x, da, dc, rfl, rest, e4, by rw [ed]; exact owns_base (KF.owns H5.out.2.2.1 (fun g hg e => by have h1 := (owns_blk H5.out.2.2.1 hg).1; have e' : g = w.heap.size := e; omega)) (by omega), H5.out.1.kept KF (fun b hb e => by have h1 := HH.out.2.2.2.1 b hb; have e' : b = w.heap.size := e; omega), W4.out.2.1, fun h0 => ?_, by rw [EX.out]; exact ⟨T1.out, T2.out, T3.out, W4.out.2.2.2.1⟩, by rw [ed]; exact W4.out.2.2.2.2, ?_⟩
  · have q4 := W4.out.2.2.1 h0
    have q3 := P3.out q4.1
    have q2 := P2.out q3.1
    have q1 := P1.out q2.1
    refine ⟨q1.1, ?_⟩
    rw [EX.out]
    unfold inB hdB
    rw [q1.2, q2.2, q3.2, q4.2]
    simp
  exact ((HH.out.1.mono (fun _ e => e.elim)).trans H5.out.2.1 (fun k e => by rcases e with e | e; exact .inl e; exact .inr (by omega))).trans KF (fun k e => .inr (by have e' : k = w.heap.size := e; omega))
end Go.Proofs.YtfdcmhbpnadcpabDoor
