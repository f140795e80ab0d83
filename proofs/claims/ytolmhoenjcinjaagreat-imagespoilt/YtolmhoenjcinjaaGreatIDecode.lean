/-
  Decode and Sections.
-/
import Derived.Test.YtolmhoenjcinjaaGreatIRead
namespace Go.Proofs.YtolmhoenjcinjaaGreat
open Go.RowKit
set_option linter.unusedVariables false
set_option maxRecDepth 100000

theorem results_c2 {fn : Func} {p u : Tmp} {ty : TypeId} (h : fn.results = #[.cell p ty, .tmp u]) (tmps : Array Value) (P : Program) (w : World) :
    (results fn tmps).run P w =
      ((asAddr (tmps.getD p undef)).run P w).andThen fun a w₁ => ((loadVar ty a).run P w₁).andThen fun v w₂ => .ok (.tuple #[v, tmps.getD u undef]) w₂ := by
  simp only [results, h]
  simp [Sem.run_bind, Result.andThen]

/-- what Decode answers -/
def Dans (w : World) (bs : List Nat) (ex : Ending) (w' : World) : Prop :=
  Kept No w w' ∧ ((imgOf bs = none ∧ ex = .returned (.tuple #[.agg #[.slice none 0 0, .slice none 0 0, .slice none 0 0], .int .i64 (rdErr bs)])) ∨
    ∃ x a0 n0 c0 a1 n1 c1 a2 n2 c2, imgOf bs = some x ∧ ex = .returned (.tuple #[.agg #[.slice a0 n0 c0, .slice a1 n1 c1, .slice a2 n2 c2], .int .i64 0]) ∧
      OwPn w' w.heap.size (.slice a0 n0 c0) x.parts ∧ OwPo w' w.heap.size (.slice a1 n1 c1) x.ports ∧ OwCh w' w.heap.size (.slice a2 n2 c2) x.chans)
theorem rans_two {w w0 w1 : World} {bs : List Nat} {ex : Ending} (h : Rans w0 bs ex w1) : ∃ (a0 : Option Addr) (n0 c0 : Nat) (a1 : Option Addr) (n1 c1 : Nat) (a2 : Option Addr) (n2 c2 : Nat) (pa : Option Addr) (pn pc : Nat) (e : Int), ex = .returned (.tuple #[.agg #[.slice a0 n0 c0, .slice a1 n1 c1, .slice a2 n2 c2], .slice pa pn pc, .int .i64 e]) ∧ Hid (Rans w0 bs (.returned (.tuple #[.agg #[.slice a0 n0 c0, .slice a1 n1 c1, .slice a2 n2 c2], .slice pa pn pc, .int .i64 e])) w1) := by
  rcases h with ⟨hk, ⟨h1, rfl⟩ | ⟨x, a0, n0, c0, a1, n1, c1, a2, n2, c2, pa, pn, pc, h1, rfl, h2⟩⟩
  · exact ⟨_, _, _, _, _, _, _, _, _, _, _, _, _, rfl, hk, .inl ⟨h1, rfl⟩⟩
  · exact ⟨_, _, _, _, _, _, _, _, _, _, _, _, _, rfl, hk, .inr ⟨x, a0, n0, c0, a1, n1, c1, a2, n2, c2, pa, pn, pc, h1, rfl, h2⟩⟩

set_option maxHeartbeats 2000000 in
theorem decode_img (G : Nat → Prop) (a : Option Addr) (n c : Nat) (bs : List Nat) (w : World) (h : Bs w G a n c bs) : Calls Tryz.prog 11 #[.slice a n c] w (Dans w bs) := by
  have hk0 : Kept No w (w.alloc (.cells #[.slice none 0 0, .slice none 0 0, .slice none 0 0] 26)) := (Kept.refl No w).alloc _
  have HK : Hid (Kept No w (w.alloc (.cells #[.slice none 0 0, .slice none 0 0, .slice none 0 0] 26))) := hk0
  have HBH : Hid (Bk (w.alloc (.cells #[.slice none 0 0, .slice none 0 0, .slice none 0 0] 26)) w.heap.size [.slice none 0 0, .slice none 0 0, .slice none 0 0] 26) := heap_alloc_new w _
  have cr := read_any G a n c bs _ (h.kept hk0 (fun _ _ h => h))
  clear h hk0
  go_enter Tryz.func11, Tryz.ntmps11
  go_upto_region 1 with fail
  generalize w.alloc (.cells #[.slice none 0 0, .slice none 0 0, .slice none 0 0] 26) = w0 at *
  go_upto_region 2 with (go_at_call 27; refine cr.mono ?_; intro ex w1 hr; obtain ⟨a0, n0, c0, a1, n1, c1, a2, n2, c2, pa, pn, pc, e, rfl, HR⟩ := rans_two (w := w) hr; clear hr)
  have hk1 : Kept No w0 w1 := HR.out.1
  have hk2 : Kept No w1 (w1.alloc (.cells #[.slice a0 n0 c0, .slice a1 n1 c1, .slice a2 n2 c2] 26)) := (Kept.refl No w1).alloc _
  have HB2 : Hid (Bk (w1.alloc (.cells #[.slice a0 n0 c0, .slice a1 n1 c1, .slice a2 n2 c2] 26)) w.heap.size [.slice none 0 0, .slice none 0 0, .slice none 0 0] 26 ∧ Bk (w1.alloc (.cells #[.slice a0 n0 c0, .slice a1 n1 c1, .slice a2 n2 c2] 26)) w1.heap.size [.slice a0 n0 c0, .slice a1 n1 c1, .slice a2 n2 c2] 26 ∧ Kept No w1 (w1.alloc (.cells #[.slice a0 n0 c0, .slice a1 n1 c1, .slice a2 n2 c2] 26))) := ⟨(HBH.out.kept hk1 (fun h => h)).kept hk2 (fun h => h), heap_alloc_new w1 _, hk2⟩
  clear hk1 hk2 cr
  generalize w1.alloc (.cells #[.slice a0 n0 c0, .slice a1 n1 c1, .slice a2 n2 c2] 26) = w2 at *
  have g0 := HB2.out.1.cell (j := 0) rfl
  have g1 := HB2.out.1.cell (j := 1) rfl
  have g2 := HB2.out.1.cell (j := 2) rfl
  have z0 := HB2.out.1.fz 0
  have z1 := HB2.out.1.fz 1
  have z2 := HB2.out.1.fz 2
  have y0 := HB2.out.2.1.cell (j := 0) rfl
  have y1 := HB2.out.2.1.cell (j := 1) rfl
  have y2 := HB2.out.2.1.cell (j := 2) rfl
  go_wp2
  have hld := ldIm (set3 HB2.out.1 (.slice a0 n0 c0) (.slice a1 n1 c1) (.slice a2 n2 c2))
  refine bodyPost_ret (v := .tuple #[.agg #[.slice a0 n0 c0, .slice a1 n1 c1, .slice a2 n2 c2], .int .i64 e]) ?_ rfl ?_
  · rw [results_c2 rfl]
    simp [asAddr, Result.andThen, hld]
  · have ks := setK3 w2 w.heap.size (.slice a0 n0 c0) (.slice a1 n1 c1) (.slice a2 n2 c2)
    have k12 : Kept (fun k => k = w.heap.size) w1 (((w2.setCell ⟨w.heap.size, 0, none⟩ (.slice a0 n0 c0)).setCell ⟨w.heap.size, 1, none⟩ (.slice a1 n1 c1)).setCell ⟨w.heap.size, 2, none⟩ (.slice a2 n2 c2)) := (HB2.out.2.2.mono (G := fun k => k = w.heap.size) (fun _ h => h.elim)).trans ks (fun _ h => .inl h)
    have hw0 : w.heap.size < w0.heap.size := HBH.out.lt
    obtain ⟨hk, hor⟩ := HR.out
    refine ⟨(HK.out.trans hk (fun _ h => h.elim)).trans k12 (fun k e => .inr (by omega)), ?_⟩
    rcases hor with ⟨h1, h2⟩ | ⟨x, b0, m0, d0, b1, m1, d1, b2, m2, d2, qa, qn, qc, h1, h2, o1, o2, o3, o4⟩
    · left
      simp at h2
      obtain ⟨⟨⟨rfl, rfl, rfl⟩, ⟨rfl, rfl, rfl⟩, rfl, rfl, rfl⟩, _, rfl⟩ := h2
      exact ⟨h1, rfl⟩
    · right
      simp at h2
      obtain ⟨⟨⟨rfl, rfl, rfl⟩, ⟨rfl, rfl, rfl⟩, rfl, rfl, rfl⟩, _, rfl⟩ := h2
      exact ⟨x, a0, n0, c0, a1, n1, c1, a2, n2, c2, h1, rfl, (o1.kept k12 (fun g hg e => by omega)).base (Nat.le_of_lt hw0), (o2.kept k12 (fun g hg e => by omega)).base (Nat.le_of_lt hw0), (o3.kept k12 (fun g hg e => by omega)).base (Nat.le_of_lt hw0)⟩

/-- what Sections answers -/
def Sans (w : World) (bs : List Nat) (ex : Ending) (w' : World) : Prop :=
  Kept No w w' ∧ ((imgOf bs = none ∧ ex = .returned (.tuple #[.slice none 0 0, .int .i64 (rdErr bs)])) ∨
    ∃ x pa pn pc, imgOf bs = some x ∧ ex = .returned (.tuple #[.slice pa pn pc, .int .i64 0]) ∧ w'.ownsRow w.heap.size 3 1 (.slice pa pn pc) (places x).length ((places x).map iv))
set_option maxHeartbeats 2000000 in
theorem sections_any (G : Nat → Prop) (a : Option Addr) (n c : Nat) (bs : List Nat) (w : World) (h : Bs w G a n c bs) : Calls Tryz.prog 14 #[.slice a n c] w (Sans w bs) := by
  have cr := read_any G a n c bs w h
  clear h
  go_enter Tryz.func14, Tryz.ntmps14
  go_upto_region 2 with (go_at_call 27; refine cr.mono ?_; intro ex w1 hr; obtain ⟨a0, n0, c0, a1, n1, c1, a2, n2, c2, pa, pn, pc, e, rfl, HR⟩ := rans_two (w := w) hr; clear hr)
  clear cr
  have HK2 : Hid (Kept No w1 (w1.alloc (.cells #[.slice a0 n0 c0, .slice a1 n1 c1, .slice a2 n2 c2] 26))) := (Kept.refl No w1).alloc _
  generalize w1.alloc (.cells #[.slice a0 n0 c0, .slice a1 n1 c1, .slice a2 n2 c2] 26) = w2 at *
  go_wp2
  go_ret2
  obtain ⟨hk, hor⟩ := HR.out
  refine ⟨hk.trans HK2.out (fun _ h => h.elim), ?_⟩
  rcases hor with ⟨h1, h2⟩ | ⟨x, b0, m0, d0, b1, m1, d1, b2, m2, d2, qa, qn, qc, h1, h2, o1, o2, o3, o4⟩
  · left
    simp at h2
    obtain ⟨_, ⟨rfl, rfl, rfl⟩, rfl⟩ := h2
    exact ⟨h1, rfl⟩
  · right
    simp at h2
    obtain ⟨_, ⟨rfl, rfl, rfl⟩, rfl⟩ := h2
    exact ⟨x, pa, pn, pc, h1, rfl, HK2.out.owns o4 (fun _ _ h => h)⟩

end Go.Proofs.YtolmhoenjcinjaaGreat
