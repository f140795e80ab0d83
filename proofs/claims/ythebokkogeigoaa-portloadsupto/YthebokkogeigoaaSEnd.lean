/-
  port: load of one port.
-/
import Derived.Test.YthebokkogeigoaaSCpy
import Derived.Test.YthebokkogeigoaaSRef
import Derived.Deep.DeepCutAuto
namespace Go.Proofs.Ythebokkogeigoaa
open Go.RowKit
set_option linter.unusedVariables false
set_option linter.unusedSimpArgs false
set_option maxRecDepth 100000

/-- an empty port -/
def En.empty (e : En) : Prop := e.it = .slice none 0 0 ∧ e.ms = [] ∧ e.xs = [] ∧ e.has = false ∧ e.tk = 0 ∧ e.sv = .slice none 0 0 ∧ e.sx = []
def En.sLost (e : En) (x : Int) : En := { e with lost := x }
def En.sSmp (e : En) (has : Bool) (tk : Int) (sv : Value) (sx : List Int) : En := { e with has := has, tk := tk, sv := sv, sx := sx }
theorem did_lost {w : World} {B : Nat} {e : En} (h : Ep w B e) (x : Int) : Did w (w.setCell ⟨e.eb, 10, none⟩ (.int .i64 x)) B e (e.sLost x) := by
  have K : Kept (fun k => k = e.eb) w (w.setCell ⟨e.eb, 10, none⟩ (.int .i64 x)) := (Kept.refl (fun k => k = e.eb) w).setCell (.inl rfl) _
  have nq : ∀ {v : Value} {y : List Value} {n : Nat}, w.ownsRow B 2 1 v n y → ∀ g, v.ownBlock = some g → ¬ g = e.eb := fun ho g hg e' => by
    obtain ⟨_, cs, h2⟩ := owns_blk ho hg
    rw [e'] at h2
    exact absurd (two_tags h2 h.box) (by decide)
  refine ⟨⟨set_blk h.box 10 _, h.low, h.que.kept K (fun g hg e' => h.it_ne (by rw [← e']; exact hg)), h.len, fun j v y hv hy => K.owns (h.msg j v y hv hy) (nq (h.msg j v y hv hy)), h.far, K.owns h.smp (nq h.smp), h.sfar⟩, K.mono (fun k e => .inl e), rfl, fun k hk => .inl hk⟩
theorem did_smp {w w1 : World} {B : Nat} {e : En} (h : Ep w B e) (he : e.ms = []) (K1 : Kept No w w1) (has : Bool) (tk : Int) {sv : Value} {sx : List Int} (ho : w1.ownsRow w.heap.size 2 1 sv sx.length (sx.map iv)) : Did w (((w1.setCell ⟨e.eb, 7, none⟩ (.bool has)).setCell ⟨e.eb, 8, none⟩ (.int .i64 tk)).setCell ⟨e.eb, 9, none⟩ sv) B e (e.sSmp has tk sv sx) := by
  have h1 := h.keep K1
  have K : Kept (fun k => k = e.eb) w1 (((w1.setCell ⟨e.eb, 7, none⟩ (.bool has)).setCell ⟨e.eb, 8, none⟩ (.int .i64 tk)).setCell ⟨e.eb, 9, none⟩ sv) := (((Kept.refl (fun k => k = e.eb) w1).setCell (p := ⟨e.eb, 7, none⟩) (.inl rfl) _).setCell (p := ⟨e.eb, 8, none⟩) (.inl rfl) _).setCell (p := ⟨e.eb, 9, none⟩) (.inl rfl) _
  have hB := h.B_le
  have hlt := heap_lt h.box
  refine ⟨⟨set_blk (set_blk (set_blk h1.box 7 _) 8 _) 9 _, h.low, h1.que.kept K (fun g hg e' => h.it_ne (by rw [← e']; exact hg)), h.len, fun j v y hv => (by rw [show (e.sSmp has tk sv sx).ms = e.ms from rfl, he] at hv; cases hv), h.far, owns_base (K.owns ho (fun g hg e' => by have := (owns_blk ho hg).1; omega)) hB, fun v hv => (by rw [show (e.sSmp has tk sv sx).ms = e.ms from rfl, he] at hv; cases hv)⟩, (K1.mono (fun _ e => e.elim)).trans K (fun k e => .inl (.inl e)), rfl, fun k hk => ?_⟩
  rcases hk with hk | (⟨v, hv, hk⟩ | hk)
  · exact .inl (.inl hk)
  · rw [show (e.sSmp has tk sv sx).ms = e.ms from rfl, he] at hv; cases hv
  · exact .inr (owns_blk ho hk).1
/-- what load answers -/
def Ldd (w w' : World) (B : Nat) (e : En) (s : Ps) (r : Ending) : Prop := r = .returned (.bool (fitS e.pr s)) ∧ ∃ e', Did w w' B e e' ∧ e'.pr = e.pr ∧ (fitS e.pr s = true → e'.ps = wantS e.pr e.pt s)
set_option maxHeartbeats 4000000 in
theorem endload_s {F : Nat → Prop} {A : Array Value} {s : Ps} {B : Nat} {e : En} (w : World) (h : Ep w B e) (hem : e.empty) (hk : e.kd = 0) (hv : Vr w F A s) (hF : ∀ k, F k → k < B) :
    Calls Try.prog 55 #[.pointer (some ⟨e.eb, 0, none⟩), .agg A] w fun r w' => Ldd w w' B e s r := by
  obtain ⟨qa, qn, qc, da, dn, dc, rfl, hm, hz, hs⟩ := hv
  simp only [Ps.val]
  have K1 : Kept No w (w.alloc (.cells #[.slice qa qn qc, .bool s.has, .int .i64 s.tk, .slice da dn dc, .int .i64 s.lost] 61)) := (Kept.refl No w).alloc _
  have B1 := alloc_new w (.cells #[.slice qa qn qc, .bool s.has, .int .i64 s.tk, .slice da dn dc, .int .i64 s.lost] 61)
  have h1 := h.keep K1
  have hlt := heap_lt h.box
  have d2 := did_lost h1 s.lost
  have t4 : (w.alloc (.cells #[.slice qa qn qc, .bool s.has, .int .i64 s.tk, .slice da dn dc, .int .i64 s.lost] 61)).cell? ⟨w.heap.size, 4, none⟩ = some (.int .i64 s.lost) := (cell_blk B1 4).trans rfl
  have e10 : (w.alloc (.cells #[.slice qa qn qc, .bool s.has, .int .i64 s.tk, .slice da dn dc, .int .i64 s.lost] 61)).cell? ⟨e.eb, 10, none⟩ = some (.int .i64 e.lost) := (h1.cell 10).trans rfl
  have f10 := h1.fz 10
  have H0 := hid (Did.pre K1 d2)
  have K2 : Kept (fun k => k = e.eb) (w.alloc (.cells #[.slice qa qn qc, .bool s.has, .int .i64 s.tk, .slice da dn dc, .int .i64 s.lost] 61)) ((w.alloc (.cells #[.slice qa qn qc, .bool s.has, .int .i64 s.tk, .slice da dn dc, .int .i64 s.lost] 61)).setCell ⟨e.eb, 10, none⟩ (.int .i64 s.lost)) := (Kept.refl (fun k => k = e.eb) _).setCell (.inl rfl) _
  have e1 : ((w.alloc (.cells #[.slice qa qn qc, .bool s.has, .int .i64 s.tk, .slice da dn dc, .int .i64 s.lost] 61)).setCell ⟨e.eb, 10, none⟩ (.int .i64 s.lost)).cell? ⟨e.eb, 1, none⟩ = some (.int .i64 0) := (d2.ep.cell 1).trans (by show some (Value.int .i64 e.kd) = _; rw [hk])
  have B2 := K2.at' B1 (fun q => by omega)
  have t0 : ((w.alloc (.cells #[.slice qa qn qc, .bool s.has, .int .i64 s.tk, .slice da dn dc, .int .i64 s.lost] 61)).setCell ⟨e.eb, 10, none⟩ (.int .i64 s.lost)).cell? ⟨w.heap.size, 0, none⟩ = some (.slice qa qn qc) := (cell_blk B2 0).trans rfl
  have t1 : ((w.alloc (.cells #[.slice qa qn qc, .bool s.has, .int .i64 s.tk, .slice da dn dc, .int .i64 s.lost] 61)).setCell ⟨e.eb, 10, none⟩ (.int .i64 s.lost)).cell? ⟨w.heap.size, 1, none⟩ = some (.bool s.has) := (cell_blk B2 1).trans rfl
  have t2 : ((w.alloc (.cells #[.slice qa qn qc, .bool s.has, .int .i64 s.tk, .slice da dn dc, .int .i64 s.lost] 61)).setCell ⟨e.eb, 10, none⟩ (.int .i64 s.lost)).cell? ⟨w.heap.size, 2, none⟩ = some (.int .i64 s.tk) := (cell_blk B2 2).trans rfl
  have t3 : ((w.alloc (.cells #[.slice qa qn qc, .bool s.has, .int .i64 s.tk, .slice da dn dc, .int .i64 s.lost] 61)).setCell ⟨e.eb, 10, none⟩ (.int .i64 s.lost)).cell? ⟨w.heap.size, 3, none⟩ = some (.slice da dn dc) := (cell_blk B2 3).trans rfl
  have K3 : Kept (Ew e) w ((w.alloc (.cells #[.slice qa qn qc, .bool s.has, .int .i64 s.tk, .slice da dn dc, .int .i64 s.lost] 61)).setCell ⟨e.eb, 10, none⟩ (.int .i64 s.lost)) := (Did.pre K1 d2).kept
  have nF : ∀ k, F k → ¬ Ew e k := fun k hf q => by have := (h.ew_blk q).1; have := hF k hf; omega
  have HD := hid (And.intro h (And.intro d2.ep (And.intro hem (And.intro hk (And.intro B2 nF)))))
  have HZ := hid (And.intro (hm.kept K3 nF) (And.intro (hz.kept K3 nF) (And.intro hs hF)))
  have hz1 := hz.len
  have hz2 := hz.cap
  have hz3 := hz.max
  have hm1 := hm.cap
  have hm2 := hm.max
  have hm3 := hm.sm
  have hm0 := hm.len
  have hne : Hid (e.eb < w.heap.size) := hlt
  clear K1 B1 h1 d2 K2 B2 K3 nF h hem hk hm hz hF hlt hs
  go_enter Try.func55, Try.ntmps55
  go_upto_region 2 with fail
  clear t4 e10 f10
  generalize (w.alloc (.cells #[.slice qa qn qc, .bool s.has, .int .i64 s.tk, .slice da dn dc, .int .i64 s.lost] 61)).setCell ⟨e.eb, 10, none⟩ (.int .i64 s.lost) = w3 at *
  have FE : Hid (fitS e.pr s = (!s.has || decide ((dn : Int) = e.sz))) := by
    show fitS e.pr s = _
    unfold fitS
    rw [if_pos (show e.pr.kd = 0 from HD.out.2.2.2.1), hz1]
    rfl
  have HW : Hid (wantS e.pr e.pt s = { q := [], has := s.has, tk := if s.has = false then 0 else s.tk, d := if s.has = false then [] else s.d, lost := s.lost }) := by
    show wantS e.pr e.pt s = _
    have k0 : e.pr.kd = 0 := HD.out.2.2.2.1
    unfold wantS
    rw [if_pos (show e.pr.pt = e.pt from rfl), if_pos k0, k0]
    simp
  have HX : Hid (s.d.length = dn) := hz1
  clear hz1 hm0 t0
  cases hh : s.has
  · rw [hh] at t1
    have HH := hid hh
    clear hh
    go_wp2
    go_ret
    refine ⟨by rw [FE.out, HH.out]; rfl, e.sLost s.lost, H0.out, rfl, fun _ => ?_⟩
    rw [HW.out, HH.out]
    obtain ⟨q1, q2, q3, q4, q5, q6, q7⟩ := HD.out.2.2.1
    show (⟨e.xs, e.has, e.tk, e.sx, s.lost⟩ : Ps) = _
    rw [q3, q4, q5, q7]
    rfl
  · rw [hh] at t1
    have HH := hid hh
    clear hh
    have cs := copySample_any w3 true s.tk HZ.out.2.1 HZ.out.2.2.1
    go_upto_region 14 with (go_at_call 59; refine cs.mono ?_; rintro r w4 ⟨ya, yc, rfl, o4, k4⟩; have E4 := HD.out.2.1.keep k4; have x7 : w4.cell? ⟨e.eb, 7, none⟩ = some (.bool e.has) := (E4.cell 7).trans rfl; have x8 : w4.cell? ⟨e.eb, 8, none⟩ = some (.int .i64 e.tk) := (E4.cell 8).trans rfl; have x9 : w4.cell? ⟨e.eb, 9, none⟩ = some e.sv := (E4.cell 9).trans rfl; have f7 : w4.frozen? ⟨e.eb, 7, none⟩ = false := E4.fz 7; have f8 : w4.frozen? ⟨e.eb, 8, none⟩ = false := E4.fz 8; have f9 : w4.frozen? ⟨e.eb, 9, none⟩ = false := E4.fz 9; have O4 := hid (And.intro o4 k4); clear o4 k4 E4 cs)
    have k5 : Kept (fun k => k = e.eb) w4 (((w4.setCell ⟨e.eb, 7, none⟩ (.bool true)).setCell ⟨e.eb, 8, none⟩ (.int .i64 s.tk)).setCell ⟨e.eb, 9, none⟩ (.slice ya dn yc)) := (((Kept.refl (fun k => k = e.eb) w4).setCell (p := ⟨e.eb, 7, none⟩) (.inl rfl) _).setCell (p := ⟨e.eb, 8, none⟩) (.inl rfl) _).setCell (p := ⟨e.eb, 9, none⟩) (.inl rfl) _
    have y3 : (((w4.setCell ⟨e.eb, 7, none⟩ (.bool true)).setCell ⟨e.eb, 8, none⟩ (.int .i64 s.tk)).setCell ⟨e.eb, 9, none⟩ (.slice ya dn yc)).cell? ⟨w.heap.size, 3, none⟩ = some (.slice da dn dc) := k5.cell (O4.out.2.cell t3 (fun e => e)) (fun q => by have := hne.out; have q' : w.heap.size = e.eb := q; omega)
    have D5 : Did w3 (((w4.setCell ⟨e.eb, 7, none⟩ (.bool true)).setCell ⟨e.eb, 8, none⟩ (.int .i64 s.tk)).setCell ⟨e.eb, 9, none⟩ (.slice ya dn yc)) B (e.sLost s.lost) ((e.sLost s.lost).sSmp true s.tk (.slice ya dn yc) s.d) := did_smp HD.out.2.1 HD.out.2.2.1.2.1 O4.out.2 true s.tk (by rw [HX.out]; exact O4.out.1)
    have ft := fits_any _ D5.ep da dn dc
    have HD5 := hid D5
    clear k5 D5 t1 t2 t3 x7 x8 x9 f7 f8 f9 O4 e1
    generalize ((w4.setCell ⟨e.eb, 7, none⟩ (.bool true)).setCell ⟨e.eb, 8, none⟩ (.int .i64 s.tk)).setCell ⟨e.eb, 9, none⟩ (.slice ya dn yc) = w5 at *
    go_wp2_with (go_at_call 32; refine ft.mono ?_; rintro r w6 ⟨rfl, e6⟩; subst e6; clear ft)
    go_ret
    have hb : ((dn : Int) == e.sz) = decide ((dn : Int) = e.sz) := by by_cases h : (dn : Int) = e.sz <;> simp [h]
    refine ⟨by rw [FE.out, HH.out, Bool.not_true, Bool.false_or, ← hb]; rfl, _, Did.trans HD.out.1 H0.out HD5.out, rfl, fun _ => ?_⟩
    rw [HW.out, HH.out]
    obtain ⟨q1, q2, q3, q4, q5, q6, q7⟩ := HD.out.2.2.1
    show (⟨e.xs, true, s.tk, s.d, s.lost⟩ : Ps) = _
    rw [q3]
    rfl
set_option maxHeartbeats 4000000 in
theorem endload_q {F : Nat → Prop} {A : Array Value} {s : Ps} {B : Nat} {e : En} (w : World) (h : Ep w B e) (hem : e.empty) (hk : e.kd = 1) (hdp : 0 ≤ e.dp) (hv : Vr w F A s) (hF : ∀ k, F k → k < B) :
    Calls Try.prog 55 #[.pointer (some ⟨e.eb, 0, none⟩), .agg A] w fun r w' => Ldd w w' B e s r := by
  obtain ⟨qa, qn, qc, da, dn, dc, rfl, hm, hz, hs⟩ := hv
  simp only [Ps.val]
  have K1 : Kept No w (w.alloc (.cells #[.slice qa qn qc, .bool s.has, .int .i64 s.tk, .slice da dn dc, .int .i64 s.lost] 61)) := (Kept.refl No w).alloc _
  have B1 := alloc_new w (.cells #[.slice qa qn qc, .bool s.has, .int .i64 s.tk, .slice da dn dc, .int .i64 s.lost] 61)
  have h1 := h.keep K1
  have hlt := heap_lt h.box
  have d2 := did_lost h1 s.lost
  have t4 : (w.alloc (.cells #[.slice qa qn qc, .bool s.has, .int .i64 s.tk, .slice da dn dc, .int .i64 s.lost] 61)).cell? ⟨w.heap.size, 4, none⟩ = some (.int .i64 s.lost) := (cell_blk B1 4).trans rfl
  have e10 : (w.alloc (.cells #[.slice qa qn qc, .bool s.has, .int .i64 s.tk, .slice da dn dc, .int .i64 s.lost] 61)).cell? ⟨e.eb, 10, none⟩ = some (.int .i64 e.lost) := (h1.cell 10).trans rfl
  have f10 := h1.fz 10
  have H0 := hid (Did.pre K1 d2)
  have K2 : Kept (fun k => k = e.eb) (w.alloc (.cells #[.slice qa qn qc, .bool s.has, .int .i64 s.tk, .slice da dn dc, .int .i64 s.lost] 61)) ((w.alloc (.cells #[.slice qa qn qc, .bool s.has, .int .i64 s.tk, .slice da dn dc, .int .i64 s.lost] 61)).setCell ⟨e.eb, 10, none⟩ (.int .i64 s.lost)) := (Kept.refl (fun k => k = e.eb) _).setCell (.inl rfl) _
  have e1 : ((w.alloc (.cells #[.slice qa qn qc, .bool s.has, .int .i64 s.tk, .slice da dn dc, .int .i64 s.lost] 61)).setCell ⟨e.eb, 10, none⟩ (.int .i64 s.lost)).cell? ⟨e.eb, 1, none⟩ = some (.int .i64 1) := (d2.ep.cell 1).trans (by show some (Value.int .i64 e.kd) = _; rw [hk])
  have B2 := K2.at' B1 (fun q => by omega)
  have t0 : ((w.alloc (.cells #[.slice qa qn qc, .bool s.has, .int .i64 s.tk, .slice da dn dc, .int .i64 s.lost] 61)).setCell ⟨e.eb, 10, none⟩ (.int .i64 s.lost)).cell? ⟨w.heap.size, 0, none⟩ = some (.slice qa qn qc) := (cell_blk B2 0).trans rfl
  have t1 : ((w.alloc (.cells #[.slice qa qn qc, .bool s.has, .int .i64 s.tk, .slice da dn dc, .int .i64 s.lost] 61)).setCell ⟨e.eb, 10, none⟩ (.int .i64 s.lost)).cell? ⟨w.heap.size, 1, none⟩ = some (.bool s.has) := (cell_blk B2 1).trans rfl
  have t2 : ((w.alloc (.cells #[.slice qa qn qc, .bool s.has, .int .i64 s.tk, .slice da dn dc, .int .i64 s.lost] 61)).setCell ⟨e.eb, 10, none⟩ (.int .i64 s.lost)).cell? ⟨w.heap.size, 2, none⟩ = some (.int .i64 s.tk) := (cell_blk B2 2).trans rfl
  have t3 : ((w.alloc (.cells #[.slice qa qn qc, .bool s.has, .int .i64 s.tk, .slice da dn dc, .int .i64 s.lost] 61)).setCell ⟨e.eb, 10, none⟩ (.int .i64 s.lost)).cell? ⟨w.heap.size, 3, none⟩ = some (.slice da dn dc) := (cell_blk B2 3).trans rfl
  have K3 : Kept (Ew e) w ((w.alloc (.cells #[.slice qa qn qc, .bool s.has, .int .i64 s.tk, .slice da dn dc, .int .i64 s.lost] 61)).setCell ⟨e.eb, 10, none⟩ (.int .i64 s.lost)) := (Did.pre K1 d2).kept
  have nF : ∀ k, F k → ¬ Ew e k := fun k hf q => by have := (h.ew_blk q).1; have := hF k hf; omega
  have HD := hid (And.intro h (And.intro d2.ep (And.intro hem (And.intro hk (And.intro B2 nF)))))
  have HZ := hid (And.intro (hm.kept K3 nF) (And.intro (hz.kept K3 nF) (And.intro hs hF)))
  have HM := hid hm
  have hz1 := hz.len
  have hz2 := hz.cap
  have hz3 := hz.max
  have hm1 := hm.cap
  have hm2 := hm.max
  have hm3 := hm.sm
  have hm0 := hm.len
  have hne : Hid (e.eb < w.heap.size) := hlt
  clear K1 B1 h1 d2 K2 B2 K3 nF h hem hk hm hz hF hlt hs
  go_enter Try.func55, Try.ntmps55
  go_upto_region 2 with fail
  clear t4 e10 f10
  generalize (w.alloc (.cells #[.slice qa qn qc, .bool s.has, .int .i64 s.tk, .slice da dn dc, .int .i64 s.lost] 61)).setCell ⟨e.eb, 10, none⟩ (.int .i64 s.lost) = w3 at *
  have FE : Hid (fitS e.pr s = (s.q.all (fun x => decide ((x.length : Int) = e.sz)) && decide ((s.q.length : Int) ≤ e.dp))) := by
    show fitS e.pr s = _
    unfold fitS
    rw [if_neg (show ¬ e.pr.kd = 0 by rw [show e.pr.kd = 1 from HD.out.2.2.2.1]; decide)]
    rfl
  have HW : Hid (wantS e.pr e.pt s = { q := s.q, has := false, tk := 0, d := [], lost := s.lost }) := by
    show wantS e.pr e.pt s = _
    have k0 : e.pr.kd = 1 := HD.out.2.2.2.1
    unfold wantS
    rw [if_pos (show e.pr.pt = e.pt from rfl), k0]
    simp
  have HX : Hid (s.q.length = qn) := hm0
  clear hz1 hm0 t1 t2 t3
  go_wp2
  clear t0 e1
  go_loopw [23] (fun i wr => ∃ (k : Nat) (g : En), k ≤ qn ∧ i = .int .i64 k ∧ Did w wr B e g ∧ g.pr = e.pr ∧ g.ps = { q := s.q.take k, has := false, tk := 0, d := [], lost := s.lost } ∧ (∀ j, j < k → ((s.q.getD j []).length : Int) = e.sz) ∧ (k : Int) ≤ e.dp) (fun i _ => qn - (intOf i).toNat)
  case atStart =>
    refine ⟨0, e.sLost s.lost, Nat.zero_le _, rfl, H0.out, rfl, ?_, fun j hj => by omega, by omega⟩
    obtain ⟨q1, q2, q3, q4, q5, q6, q7⟩ := HD.out.2.2.1
    show (⟨e.xs, e.has, e.tk, e.sx, s.lost⟩ : Ps) = _
    rw [q3, q4, q5, q7]
    rfl
  case round =>
    obtain ⟨k, g, hk, rfl, dg, hpr, hps, hall, hkd⟩ := hrel
    have hgl : g.ms.length = k := by
      have h1 : g.xs = s.q.take k := congrArg Ps.q hps
      rw [← dg.ep.len, h1, List.length_take, HX.out]
      omega
    by_cases hlt : k < qn
    · have hltz : (k : Int) < (qn : Int) := by omega
      obtain ⟨qb, qo, ea, en, ec, rfl, hqb, hqc, hqz, hen⟩ := HM.out.at' k hlt
      have nf := HD.out.2.2.2.2.2
      have cz := dg.kept.cell hqc (nf qb hqb)
      have zz := hqz.kept dg.kept nf
      have hsz : g.sz = e.sz := congrArg Pr.sz hpr
      have hdp' : g.dp = e.dp := congrArg Pr.dp hpr
      have ft := fits_any wr dg.ep ea en ec
      rw [dg.eb, hsz] at ft
      have zl := hqz.len
      have z2 := hqz.cap
      have z3 := hqz.max
      by_cases hfs : (en : Int) = e.sz
      · have h1 : ((en : Int) == e.sz) = true := by simp [hfs]
        rw [h1] at ft
        by_cases hrm : (k : Int) < e.dp
        · have pu := push_yes wr dg.ep (by rw [hgl, hdp']; exact hrm) zz (by rw [hgl]; omega) (by omega)
          rw [dg.eb] at pu
          have AL : Hid (∀ j, j < k + 1 → ((s.q.getD j []).length : Int) = e.sz) := fun j hj => by
            by_cases h9 : j < k
            · exact hall j h9
            · obtain rfl : j = k := by omega
              rw [zl]; exact hfs
          have TK : Hid (s.q.take (k + 1) = s.q.take k ++ [s.q.getD k []]) := by
            show s.q.take (k + 1) = s.q.take k ++ [s.q.getD k []]
            rw [List.take_add_one, List.getD_eq_getElem?_getD, List.getElem?_eq_getElem (by rw [HX.out]; exact hlt)]
            rfl
          have DG := hid (And.intro dg (And.intro hpr hps))
          clear dg hpr hps hall hqc hqz zz nf hsz hdp' zl hfs h1
          go_wp2_with (first
            | (go_at_call 32; refine ft.mono ?_; rintro r w6 ⟨rfl, e6⟩; subst e6; clear ft)
            | (go_at_call 34; refine pu.mono ?_; rintro r w6 ⟨rfl, it, m, d6⟩; have D6 := hid d6; clear d6 pu))
          refine ⟨⟨k + 1, _, by omega, by go_num, Did.trans HD.out.1 DG.out.1 D6.out, ?_, ?_, AL.out, by omega⟩, ?_⟩
          · exact DG.out.2.1
          · show (⟨g.xs ++ [s.q.getD k []], g.has, g.tk, g.sx, g.lost⟩ : Ps) = _
            have hp := DG.out.2.2
            rw [show g.xs = s.q.take k from congrArg Ps.q hp, show g.has = false from congrArg Ps.has hp, show g.tk = 0 from congrArg Ps.tk hp, show g.sx = [] from congrArg Ps.d hp, show g.lost = s.lost from congrArg Ps.lost hp, TK.out]
          · simp [intOf]; omega
        · have pu := push_full wr dg.ep (by rw [hgl, hdp']; omega) ea en ec
          rw [dg.eb] at pu
          have HR : Hid (fitS e.pr s = false) := by
            show fitS e.pr s = false
            rw [FE.out, decide_eq_false (show ¬ (s.q.length : Int) ≤ e.dp by rw [HX.out]; omega), Bool.and_false]
          have DG := hid (And.intro dg hpr)
          clear dg hpr hps hall hqc hqz zz nf hsz hdp' zl hfs h1
          go_wp2_with (first
            | (go_at_call 32; refine ft.mono ?_; rintro r w6 ⟨rfl, e6⟩; subst e6; clear ft)
            | (go_at_call 34; refine pu.mono ?_; rintro r w6 ⟨rfl, k6⟩; have K6 := hid k6; clear k6 pu))
          go_ret
          exact ⟨by rw [HR.out]; rfl, g, DG.out.1.post K6.out, DG.out.2, fun q => by rw [HR.out] at q; cases q⟩
      · have h1 : ((en : Int) == e.sz) = false := by simp [hfs]
        rw [h1] at ft
        have HR : Hid (fitS e.pr s = false) := by
          show fitS e.pr s = false
          have : s.q.all (fun x => decide ((x.length : Int) = e.sz)) = false := by
            rw [← Bool.not_eq_true]
            exact fun H => hfs (by rw [← zl]; exact of_decide_eq_true ((all_getD HX.out).1 H k hlt))
          rw [FE.out, this, Bool.false_and]
        have DG := hid (And.intro dg hpr)
        clear dg hpr hps hall hqc hqz zz nf hsz hdp' zl hfs h1
        go_wp2_with (go_at_call 32; refine ft.mono ?_; rintro r w6 ⟨rfl, e6⟩; subst e6; clear ft)
        go_ret
        exact ⟨by rw [HR.out]; rfl, g, DG.out.1, DG.out.2, fun q => by rw [HR.out] at q; cases q⟩
    · have hltz : ¬ (k : Int) < (qn : Int) := by omega
      obtain rfl : k = qn := by omega
      have DG := hid dg
      have HP := hid (And.intro hpr (And.intro hps (And.intro hall hkd)))
      clear dg hpr hps hall hkd hgl
      go_wp2
      go_ret
      have HR : fitS e.pr s = true := by
        rw [FE.out, (all_getD HX.out).2 (fun j hj => decide_eq_true (HP.out.2.2.1 j hj)), decide_eq_true (show (s.q.length : Int) ≤ e.dp by rw [HX.out]; exact HP.out.2.2.2)]
        rfl
      refine ⟨by rw [HR]; rfl, g, DG.out, HP.out.1, fun _ => ?_⟩
      rw [HW.out, HP.out.2.1, List.take_of_length_le (by rw [HX.out]; exact Nat.le_refl _)]
theorem endload_any {F : Nat → Prop} {A : Array Value} {s : Ps} {B : Nat} {e : En} (w : World) (h : Ep w B e) (hem : e.empty) (hk : e.kd = 0 ∨ e.kd = 1 ∧ 0 ≤ e.dp) (hv : Vr w F A s) (hF : ∀ k, F k → k < B) :
    Calls Try.prog 55 #[.pointer (some ⟨e.eb, 0, none⟩), .agg A] w fun r w' => Ldd w w' B e s r := by
  rcases hk with hk | ⟨hk, hd⟩
  · exact endload_s w h hem hk hv hF
  · exact endload_q w h hem hk hd hv hF
end Go.Proofs.Ythebokkogeigoaa
