/-
  'unread'.
-/
import Derived.Test.YtakdfpenpodplaaUnNew
namespace Go.Proofs.Ytakdfpenpodplaa
open Go.RowKit
set_option linter.unusedVariables false

namespace Un
variable {w0 w w' : World} {P : UnP} {Fs : Nat → Prop} {xr xq xx xy : List Nat} {er eq ex ey : Int} {es : List En} {is : List Ei}
theorem keepR (h : Un w0 P Fs xr er xq eq xx ex xy ey es is w) {xr' : List Nat} {er' : Int} (d : RdDid P.Fr P.pr xr' er' w w') {v wv : Value} {B' : Nat} {zs : List Nat} (ov : w'.ownsRow w.heap.size 5 1 v zs.length (zs.map bv)) (ow : w.ownsRow B' 5 1 wv zs.length (zs.map bv)) (ho : ∀ k, B' ≤ k → ¬ P.Fr k) (hz : ∀ z ∈ zs, z < 256) (hl : zs.length ≤ 140737488351232) :
    Calls Try.prog 56 #[.pointer (some ⟨P.s, 0, none⟩), v, wv] w' fun ex' w'' => ex' = .returned (.tuple #[]) ∧ ∃ Fs' es', Un w0 P Fs' xr' er' xq eq xx ex xy ey es' is w'' ∧ Kept Fs w' w'' :=
  (h.dr d).keep h.off d.2.size ov (d.2.owns ow (fun k e e2 => ho k (ow.lt k e).1 (e2 ▸ h.r.fp))) hz hl
theorem keepQ (h : Un w0 P Fs xr er xq eq xx ex xy ey es is w) {xr' : List Nat} {er' : Int} (d : RdDid P.Fq P.pq xr' er' w w') {v wv : Value} {B' : Nat} {zs : List Nat} (ov : w'.ownsRow w.heap.size 5 1 v zs.length (zs.map bv)) (ow : w.ownsRow B' 5 1 wv zs.length (zs.map bv)) (ho : ∀ k, B' ≤ k → ¬ P.Fq k) (hz : ∀ z ∈ zs, z < 256) (hl : zs.length ≤ 140737488351232) :
    Calls Try.prog 56 #[.pointer (some ⟨P.s, 0, none⟩), v, wv] w' fun ex' w'' => ex' = .returned (.tuple #[]) ∧ ∃ Fs' es', Un w0 P Fs' xr er xr' er' xx ex xy ey es' is w'' ∧ Kept Fs w' w'' :=
  (h.dq d).keep h.off d.2.size ov (d.2.owns ow (fun k e e2 => ho k (ow.lt k e).1 (e2 ▸ h.q.fp))) hz hl
theorem keepIntsR (h : Un w0 P Fs xr er xq eq xx ex xy ey es is w) {xr' : List Nat} {er' : Int} (d : RdDid P.Fr P.pr xr' er' w w') {v wv : Value} {B' : Nat} {zs : List Int} (ov : w'.ownsRow w.heap.size 3 1 v zs.length (zs.map iv)) (ow : w.ownsRow B' 3 1 wv zs.length (zs.map iv)) (ho : ∀ k, B' ≤ k → ¬ P.Fr k) (hl : zs.length ≤ 10000000000) :
    Calls Try.prog 77 #[.pointer (some ⟨P.s, 0, none⟩), v, wv] w' fun ex' w'' => ex' = .returned (.tuple #[]) ∧ ∃ Fs' is', Un w0 P Fs' xr' er' xq eq xx ex xy ey es is' w'' ∧ Kept Fs w' w'' :=
  (h.dr d).keepInts h.off d.2.size ov (d.2.owns ow (fun k e e2 => ho k (ow.lt k e).1 (e2 ▸ h.r.fp))) hl
theorem keepIntsQ (h : Un w0 P Fs xr er xq eq xx ex xy ey es is w) {xr' : List Nat} {er' : Int} (d : RdDid P.Fq P.pq xr' er' w w') {v wv : Value} {B' : Nat} {zs : List Int} (ov : w'.ownsRow w.heap.size 3 1 v zs.length (zs.map iv)) (ow : w.ownsRow B' 3 1 wv zs.length (zs.map iv)) (ho : ∀ k, B' ≤ k → ¬ P.Fq k) (hl : zs.length ≤ 10000000000) :
    Calls Try.prog 77 #[.pointer (some ⟨P.s, 0, none⟩), v, wv] w' fun ex' w'' => ex' = .returned (.tuple #[]) ∧ ∃ Fs' is', Un w0 P Fs' xr er xr' er' xx ex xy ey es is' w'' ∧ Kept Fs w' w'' :=
  (h.dq d).keepInts h.off d.2.size ov (d.2.owns ow (fun k e e2 => ho k (ow.lt k e).1 (e2 ▸ h.q.fp))) hl
end Un

set_option maxRecDepth 100000 in
set_option maxHeartbeats 4000000 in
theorem unread_any (G : Nat → Prop) (a a' : Option Addr) (n c m c' : Nat) (b0 : List Nat) (w : World) (hb : Bs w G a n c b0) (hs : Sc w a' m) (hn : n ≤ 140737488351232) (hm : m ≤ 9223372036854775807) (hmc : m ≤ c') :
    Calls Try.prog 42 #[.slice a n c, .slice a' m c'] w fun e w' => e = .returned (.bool true) ∧ Below w.heap.size w w' := by
  have q2 : ∀ (w : World) (a : Addr), (binOp .eql 37 (.pointer (some a)) (.pointer none)).run Try.prog w = .ok (.bool false) w := fun w a => by first | rfl | simp
  have hb' : Bs w (fun b => b < w.heap.size) a n c b0 := ⟨hb.len, hb.cap, hb.max, hb.nil, fun i hi => by obtain ⟨b, o, e, _, hc⟩ := hb.at' i hi; exact ⟨b, o, e, cell_lt hc, hc⟩, hb.lt⟩
  have HB : Hid (Bs w (fun b => b < w.heap.size) a n c b0) := hb'
  have HS : Hid (Sc w a' m) := hs
  have c22 := newReader_any _ a n c b0 w hb' (by omega)
  clear hb hs hb'
  go_enter Try.func42, Try.ntmps42
  go_upto_region 2 with (go_at_call 22; refine c22.mono ?_; rintro ex w1 ⟨pr, rfl, hr1, k1⟩)
  clear c22
  have c22 := newReader_any _ a n c b0 w1 (HB.out.kept (Kept.of_below (F := No) k1) (fun _ _ h => h)) (by omega)
  have HR1 : Hid (Rd w1 (fun k => w.heap.size ≤ k ∧ k < w1.heap.size) pr b0 0 ∧ Below w.heap.size w w1) := ⟨hr1, k1⟩
  clear hr1 k1
  go_upto_region 3 with (go_at_call 22; refine c22.mono ?_; rintro ex w2 ⟨pq, rfl, hr2, k2⟩)
  clear c22
  obtain ⟨Fr, Fq, Fx, Fy, Fs, hun⟩ := un_new HB.out hn HR1.out.1 HR1.out.2 hr2 k2
  have HUN : Hid (Un w ⟨Fr, Fq, Fx, Fy, pr, pq, w2.heap.size, w2.heap.size + 1, w2.heap.size + 1 + 1⟩ Fs b0 0 b0 0 b0 0 b0 0 [] [] (((w2.alloc (.cells #[.slice a n c, .int .i64 0, .int .i64 0] 57)).alloc (.cells #[.slice a n c, .int .i64 0, .int .i64 0] 57)).alloc (.cells #[.slice none 0 0, .slice none 0 0, .slice none 0 0, .slice none 0 0] 78))) := hun
  clear hun hr2 k2 HR1 HB
  go_upto_region 9 with fail
  generalize (((w2.alloc (.cells #[.slice a n c, .int .i64 0, .int .i64 0] 57)).alloc (.cells #[.slice a n c, .int .i64 0, .int .i64 0] 57)).alloc (.cells #[.slice none 0 0, .slice none 0 0, .slice none 0 0, .slice none 0 0] 78)) = W0 at HUN ⊢
  generalize w2.heap.size + 1 + 1 = s at HUN ⊢
  generalize w2.heap.size + 1 = py at HUN ⊢
  generalize w2.heap.size = px at HUN ⊢
  go_loopw [10] (fun i wr => ∃ k : Nat, k ≤ m ∧ i = .int .i64 k ∧ ∃ Fs xs e es is, Un w ⟨Fr, Fq, Fx, Fy, pr, pq, px, py, s⟩ Fs xs e xs e xs e xs e es is wr) (fun i _ => m - (intOf i).toNat)
  case atStart => exact ⟨0, by omega, rfl, Fs, b0, 0, [], [], HUN.out⟩
  case round =>
    clear HUN
    obtain ⟨k, hk, rfl, Fs, xs, e, es, is, hun⟩ := hrel
    have HU : Hid (Un w ⟨Fr, Fq, Fx, Fy, pr, pq, px, py, s⟩ Fs xs e xs e xs e xs e es is wr) := hun
    by_cases hlt : k < m
    · obtain ⟨sb, so, K, N, Wd, Fl, ba, bn, bc, la, ln, lc, M, rfl, hN, hop0⟩ := HS.out k hlt
      have hop := hop0.below hun.bel
      obtain ⟨o0, o1, o2, o3, o4, o5, o6⟩ := hop
      clear hop0 hun
      go_upto_region 12 with fail
      clear o0 o1 o2 o3 o4 o5 o6
      have HQ1 : Hid (OpBlk (wr.alloc (.cells #[.int .i64 K, .int .i64 N, .int .i64 Wd, .bool Fl, .slice ba bn bc, .slice la ln lc, .int .i64 M] 43)) wr.heap.size K N Wd Fl ba bn bc la ln lc M) := heap_alloc_new _ _
      have HU1 : Hid (Un w ⟨Fr, Fq, Fx, Fy, pr, pq, px, py, s⟩ Fs xs e xs e xs e xs e es is (wr.alloc (.cells #[.int .i64 K, .int .i64 N, .int .i64 Wd, .bool Fl, .slice ba bn bc, .slice la ln lc, .int .i64 M] 43))) := HU.out.no ((Kept.refl No wr).alloc _)
      have HOF : Hid (Off w ⟨Fr, Fq, Fx, Fy, pr, pq, px, py, s⟩ Fs wr.heap.size) := HU.out.off
      generalize wr.alloc (.cells #[.int .i64 K, .int .i64 N, .int .i64 Wd, .bool Fl, .slice ba bn bc, .slice la ln lc, .int .i64 M] 43) = W1 at HQ1 HU1 ⊢
      generalize wr.heap.size = q at HQ1 HOF ⊢
      have HNE : Hid (q ≠ px ∧ q ≠ py ∧ q ≠ pr ∧ q ≠ pq ∧ ¬ Fs q) := by
        have ho := HOF.out q (Nat.le_refl _)
        exact ⟨fun h => ho.2.2.1 (h ▸ HU1.out.x.fp), fun h => ho.2.2.2.1 (h ▸ HU1.out.y.fp), fun h => ho.1 (h ▸ HU1.out.r.fp), fun h => ho.2.1 (h ▸ HU1.out.q.fp), ho.2.2.2.2.1⟩
      clear HU HOF
      obtain ⟨o0, o1, o2, o3, o4, o5, o6⟩ := HQ1.out.at'
      by_cases h6 : K = 6
      · subst h6
        have HZ : Hid (∀ z ∈ tkXs xs e N, z < 256) := tk_lt e N HU1.out.x.lt
        have HLZ : Hid ((tkXs xs e N).length ≤ 140737488351232) := Nat.le_trans (tk_le xs e N) HU1.out.x.le
        have HLE : Hid (xs.length ≤ 140737488351232) := HU1.out.x.le
        have HOF1 : Hid (Off w ⟨Fr, Fq, Fx, Fy, pr, pq, px, py, s⟩ Fs W1.heap.size) := HU1.out.off
        have c1 := inBytes_any Fx px xs e N W1 HU1.out.x
        go_upto_region 17 with (go_at_call 73; refine c1.mono ?_; rintro ex w3 ⟨v1, rfl, own1, d1⟩)
        clear c1 o0 o1 o2 o3 o4 o5 o6
        have HU2 : Hid (Un w ⟨Fr, Fq, Fx, Fy, pr, pq, px, py, s⟩ Fs xs e xs e (tkRest xs e N) (tkE xs e N) xs e es is w3) := HU1.out.dx d1
        have b1 : OpBlk w3 q 6 N Wd Fl ba bn bc la ln lc M := d1.2.1.at' HQ1.out (fun h => HNE.out.1 h)
        have HQ2 : Hid (OpBlk w3 q 6 N Wd Fl ba bn bc la ln lc M) := b1
        have HO1 : Hid (w3.ownsRow W1.heap.size 5 1 v1 (tkXs xs e N).length ((tkXs xs e N).map bv)) := own1
        obtain ⟨o0, o1, o2, o3, o4, o5, o6⟩ := b1.at'
        have c1 := inBytes_any Fy py xs e N w3 HU2.out.y
        clear b1 d1 own1 HU1 HQ1
        go_upto_region 18 with (go_at_call 73; refine c1.mono ?_; rintro ex w4 ⟨v2, rfl, own2, d2⟩)
        clear c1 o0 o1 o2 o3 o4 o5 o6 own2
        have HU3 : Hid (Un w ⟨Fr, Fq, Fx, Fy, pr, pq, px, py, s⟩ Fs xs e xs e (tkRest xs e N) (tkE xs e N) (tkRest xs e N) (tkE xs e N) es is w4) := HU2.out.dy d2
        have b1 : OpBlk w4 q 6 N Wd Fl ba bn bc la ln lc M := d2.2.1.at' HQ2.out (fun h => HNE.out.2.1 h)
        have HQ3 : Hid (OpBlk w4 q 6 N Wd Fl ba bn bc la ln lc M) := b1
        have HO2 : Hid (w4.ownsRow W1.heap.size 5 1 v1 (tkXs xs e N).length ((tkXs xs e N).map bv)) := d2.2.1.owns HO1.out (fun k h h2 => (HOF1.out k (HO1.out.lt k h).1).2.2.2.1 (h2 ▸ HU2.out.y.fp))
        obtain ⟨o0, o1, o2, o3, o4, o5, o6⟩ := b1.at'
        have c1 := rbytes_any Fr pr xs e N w4 HU3.out.r (by have := HLE.out; omega)
        clear b1 d2 HU2 HQ2 HO1
        go_upto_region 19 with (first | (go_at_call 29; refine c1.mono ?_; rintro ex w5 ⟨v3, rfl, own3, d3⟩; have D3 : Hid (RdDid Fr pr (tkRest xs e N) (tkE xs e N) w4 w5) := d3; have c2 : Calls Try.prog 56 #[.pointer (some ⟨s, 0, none⟩), v3, v1] w5 _ := HU3.out.keepR d3 own3 HO2.out (fun k h => (HOF1.out k h).1) HZ.out HLZ.out; clear d3 own3) | (go_at_call 56; refine c2.mono ?_; rintro ex w6 ⟨rfl, Fs2, es2, hu6, kp6⟩))
        clear c1 c2 o0 o1 o2 o3 o4 o5 o6
        have HU6 : Hid (Un w ⟨Fr, Fq, Fx, Fy, pr, pq, px, py, s⟩ Fs2 (tkRest xs e N) (tkE xs e N) xs e (tkRest xs e N) (tkE xs e N) (tkRest xs e N) (tkE xs e N) es2 is w6) := hu6
        have b1 : OpBlk w6 q 6 N Wd Fl ba bn bc la ln lc M := kp6.at' (D3.out.2.at' HQ3.out (fun h => HNE.out.2.2.1 h)) HNE.out.2.2.2.2
        have HO3 : Hid (w6.ownsRow W1.heap.size 5 1 v1 (tkXs xs e N).length ((tkXs xs e N).map bv)) := kp6.owns (D3.out.2.owns HO2.out (fun k h h2 => (HOF1.out k (HO2.out.lt k h).1).1 (h2 ▸ HU3.out.r.fp))) (fun k h => (HOF1.out k (HO2.out.lt k h).1).2.2.2.2.1)
        obtain ⟨o0, o1, o2, o3, o4, o5, o6⟩ := b1.at'
        have c1 := rbytes_any Fq pq xs e N w6 HU6.out.q (by have := HLE.out; omega)
        clear b1 kp6 hu6 D3 HU3 HQ3 HO2
        go_wp2_with (first | (go_at_call 29; refine c1.mono ?_; rintro ex w7 ⟨v5, rfl, own5, d5⟩; have c2 : Calls Try.prog 56 #[.pointer (some ⟨s, 0, none⟩), v5, v1] w7 _ := HU6.out.keepQ d5 own5 HO3.out (fun k h => (HOF1.out k h).2.1) HZ.out HLZ.out; clear d5 own5) | (go_at_call 56; refine c2.mono ?_; rintro ex w8 ⟨rfl, Fs3, es3, hu8, kp8⟩))
        go_roundw
        case rel => exact ⟨k + 1, by omega, by go_num, Fs3, _, _, es3, is, hu8⟩
        case measure => simp [intOf]; omega
      by_cases h7 : K = 7
      · subst h7
        have HZ : Hid (True) := trivial
        have HLZ : Hid ((glX xs e M).length ≤ 10000000000) := gl_small e M HU1.out.x.lt
        have HLE : Hid (xs.length ≤ 140737488351232) := HU1.out.x.le
        have HOF1 : Hid (Off w ⟨Fr, Fq, Fx, Fy, pr, pq, px, py, s⟩ Fs W1.heap.size) := HU1.out.off
        have c1 := listed_any Fx px xs e M W1 HU1.out.x HU1.out.xl (by have := HU1.out.x.le; omega)
        go_upto_region 22 with (go_at_call 76; refine c1.mono ?_; rintro ex w3 ⟨v1, rfl, own1, d1⟩)
        clear c1 o0 o1 o2 o3 o4 o5 o6
        have HU2 : Hid (Un w ⟨Fr, Fq, Fx, Fy, pr, pq, px, py, s⟩ Fs xs e xs e (glRest xs e M) (glE xs e M) xs e es is w3) := HU1.out.dx d1
        have b1 : OpBlk w3 q 7 N Wd Fl ba bn bc la ln lc M := d1.2.1.at' HQ1.out (fun h => HNE.out.1 h)
        have HQ2 : Hid (OpBlk w3 q 7 N Wd Fl ba bn bc la ln lc M) := b1
        have HO1 : Hid (w3.ownsRow W1.heap.size 3 1 v1 (glX xs e M).length ((glX xs e M).map iv)) := own1
        obtain ⟨o0, o1, o2, o3, o4, o5, o6⟩ := b1.at'
        have c1 := listed_any Fy py xs e M w3 HU2.out.y HU2.out.yl (by have := HLE.out; omega)
        clear b1 d1 own1 HU1 HQ1
        go_upto_region 23 with (go_at_call 76; refine c1.mono ?_; rintro ex w4 ⟨v2, rfl, own2, d2⟩)
        clear c1 o0 o1 o2 o3 o4 o5 o6 own2
        have HU3 : Hid (Un w ⟨Fr, Fq, Fx, Fy, pr, pq, px, py, s⟩ Fs xs e xs e (glRest xs e M) (glE xs e M) (glRest xs e M) (glE xs e M) es is w4) := HU2.out.dy d2
        have b1 : OpBlk w4 q 7 N Wd Fl ba bn bc la ln lc M := d2.2.1.at' HQ2.out (fun h => HNE.out.2.1 h)
        have HQ3 : Hid (OpBlk w4 q 7 N Wd Fl ba bn bc la ln lc M) := b1
        have HO2 : Hid (w4.ownsRow W1.heap.size 3 1 v1 (glX xs e M).length ((glX xs e M).map iv)) := d2.2.1.owns HO1.out (fun k h h2 => (HOF1.out k (HO1.out.lt k h).1).2.2.2.1 (h2 ▸ HU2.out.y.fp))
        obtain ⟨o0, o1, o2, o3, o4, o5, o6⟩ := b1.at'
        have c1 := getList78_any Fr pr xs e M w4 HU3.out.r (by have := HLE.out; omega)
        clear b1 d2 HU2 HQ2 HO1
        go_upto_region 24 with (first | (go_at_call 30; refine c1.mono ?_; rintro ex w5 ⟨v3, rfl, own3, d3⟩; have D3 : Hid (RdDid Fr pr (glRest xs e M) (glE xs e M) w4 w5) := d3; have c2 : Calls Try.prog 77 #[.pointer (some ⟨s, 0, none⟩), v3, v1] w5 _ := HU3.out.keepIntsR d3 own3 HO2.out (fun k h => (HOF1.out k h).1) HLZ.out; clear d3 own3) | (go_at_call 77; refine c2.mono ?_; rintro ex w6 ⟨rfl, Fs2, is2, hu6, kp6⟩))
        clear c1 c2 o0 o1 o2 o3 o4 o5 o6
        have HU6 : Hid (Un w ⟨Fr, Fq, Fx, Fy, pr, pq, px, py, s⟩ Fs2 (glRest xs e M) (glE xs e M) xs e (glRest xs e M) (glE xs e M) (glRest xs e M) (glE xs e M) es is2 w6) := hu6
        have b1 : OpBlk w6 q 7 N Wd Fl ba bn bc la ln lc M := kp6.at' (D3.out.2.at' HQ3.out (fun h => HNE.out.2.2.1 h)) HNE.out.2.2.2.2
        have HO3 : Hid (w6.ownsRow W1.heap.size 3 1 v1 (glX xs e M).length ((glX xs e M).map iv)) := kp6.owns (D3.out.2.owns HO2.out (fun k h h2 => (HOF1.out k (HO2.out.lt k h).1).1 (h2 ▸ HU3.out.r.fp))) (fun k h => (HOF1.out k (HO2.out.lt k h).1).2.2.2.2.1)
        obtain ⟨o0, o1, o2, o3, o4, o5, o6⟩ := b1.at'
        have c1 := getList79_any Fq pq xs e M w6 HU6.out.q (by have := HLE.out; omega)
        clear b1 kp6 hu6 D3 HU3 HQ3 HO2
        go_wp2_with (first | (go_at_call 30; refine c1.mono ?_; rintro ex w7 ⟨v5, rfl, own5, d5⟩; have c2 : Calls Try.prog 77 #[.pointer (some ⟨s, 0, none⟩), v5, v1] w7 _ := HU6.out.keepIntsQ d5 own5 HO3.out (fun k h => (HOF1.out k h).2.1) HLZ.out; clear d5 own5) | (go_at_call 77; refine c2.mono ?_; rintro ex w8 ⟨rfl, Fs3, is3, hu8, kp8⟩))
        go_roundw
        case rel => exact ⟨k + 1, by omega, by go_num, Fs3, _, _, es, is3, hu8⟩
        case measure => simp [intOf]; omega
      · have HD : Hid ((∀ k, Fr k → ¬ Fx k) ∧ (∀ k, Fq k → ¬ Fy k)) := ⟨HU1.out.rx, HU1.out.qy⟩
        have c1 := read_any Fr Fx pr px xs e K N Wd Fl ba bn bc la ln lc M W1 HU1.out.r HU1.out.x HD.out.1 HU1.out.x.le HU1.out.xl
        unfold opV at c1
        have t6 : (K == 6) = false := by simpa using h6
        have t7 : (K == 7) = false := by simpa using h7
        obtain ⟨xs2, hxs2⟩ : ∃ xs2, xs2 = (rO xs e K N M).1 := ⟨_, rfl⟩
        obtain ⟨e2, he2⟩ : ∃ e2, e2 = (rO xs e K N M).2 := ⟨_, rfl⟩
        rw [← hxs2, ← he2] at c1
        have c2 : ∀ w3, Both Fr Fx pr px xs2 e2 W1 w3 → Calls Try.prog 39 #[.pointer (some ⟨pq, 0, none⟩), .pointer (some ⟨py, 0, none⟩), opV K N Wd Fl ba bn bc la ln lc M] w3 fun ex w' => ex = .returned (.bool true) ∧ Both Fq Fy pq py xs2 e2 w3 w' := by
          intro w3 bo
          have hu := HU1.out.drx bo
          have := read_any Fq Fy pq py xs e K N Wd Fl ba bn bc la ln lc M w3 hu.q hu.y hu.qy hu.y.le hu.yl
          rw [← hxs2, ← he2] at this
          exact this
        unfold opV at c2
        clear hxs2 he2
        go_wp2_with (first | (go_at_call_of 39 (Value.pointer (some ⟨pr, 0, none⟩)); refine c1.mono ?_; rintro ex w3 ⟨rfl, bo1⟩; obtain ⟨p0, p1, p2, p3, p4, p5, p6⟩ := (show OpBlk w3 q K N Wd Fl ba bn bc la ln lc M from bo1.2.2.at' HQ1.out (fun h => h.elim HNE.out.2.2.1 HNE.out.1)).at'; have c3 := c2 w3 bo1; have BO1 : Hid (Both Fr Fx pr px xs2 e2 W1 w3) := bo1; clear bo1) | (go_at_call_of 39 (Value.pointer (some ⟨pq, 0, none⟩)); refine c3.mono ?_; rintro ex w4 ⟨rfl, bo2⟩))
        go_roundw
        case rel => exact ⟨k + 1, by omega, by go_num, Fs, xs2, e2, es, is, (HU1.out.drx BO1.out).dqy bo2⟩
        case measure => simp [intOf]; omega
    · have c57 := standsP_any Fs s es is wr hun.s hun.l1 hun.l2 hun.f1 hun.f2
      clear hun
      go_wp2_with (go_at_call 57; refine c57.mono ?_; rintro ex w3 ⟨rfl, kp3⟩)
      go_ret
      exact ⟨rfl, HU.out.bel.trans (kp3.below HU.out.hs HU.out.bel.size)⟩

end Go.Proofs.Ytakdfpenpodplaa
