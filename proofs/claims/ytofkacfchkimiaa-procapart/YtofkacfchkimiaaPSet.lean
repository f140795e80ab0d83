/-
  Set.
-/
import Derived.Test.YtofkacfchkimiaaPRest
namespace Go.Proofs.Ytofkacfchkimiaa
open Go.RowKit
set_option linter.unusedVariables false
set_option maxRecDepth 100000
def rg16 (f : Nat → Int) : Array Value := #[.int .i64 (f 0), .int .i64 (f 1), .int .i64 (f 2), .int .i64 (f 3), .int .i64 (f 4), .int .i64 (f 5), .int .i64 (f 6), .int .i64 (f 7), .int .i64 (f 8), .int .i64 (f 9), .int .i64 (f 10), .int .i64 (f 11), .int .i64 (f 12), .int .i64 (f 13), .int .i64 (f 14), .int .i64 (f 15)]
section
variable {b g cap : Nat} {T : Tt}
theorem bx16 {w : World} {k : Nat} {f : Nat → Int} (h : w.heap[k]? = some (.cells (rg16 f) 46)) : ∀ j, j < 16 → w.cell? ⟨k, j, none⟩ = some (.int .i64 (f j)) := by
  intro j hj
  simp only [World.cell?, h]
  have : j = 0 ∨ j = 1 ∨ j = 2 ∨ j = 3 ∨ j = 4 ∨ j = 5 ∨ j = 6 ∨ j = 7 ∨ j = 8 ∨ j = 9 ∨ j = 10 ∨ j = 11 ∨ j = 12 ∨ j = 13 ∨ j = 14 ∨ j = 15 := by omega
  rcases this with rfl | rfl | rfl | rfl | rfl | rfl | rfl | rfl | rfl | rfl | rfl | rfl | rfl | rfl | rfl | rfl <;> rfl
theorem set_no {v : Value} (w : World) (f : Nat → Int) (pc : Int) (fi : Calls Try.prog 49 #[.pointer (some ⟨b, 0, none⟩), v] (w.alloc (.cells #[.int .i64 (f 0), .int .i64 (f 1), .int .i64 (f 2), .int .i64 (f 3), .int .i64 (f 4), .int .i64 (f 5), .int .i64 (f 6), .int .i64 (f 7), .int .i64 (f 8), .int .i64 (f 9), .int .i64 (f 10), .int .i64 (f 11), .int .i64 (f 12), .int .i64 (f 13), .int .i64 (f 14), .int .i64 (f 15)] 46)) fun e w' => e = .returned (.pointer none) ∧ w' = (w.alloc (.cells #[.int .i64 (f 0), .int .i64 (f 1), .int .i64 (f 2), .int .i64 (f 3), .int .i64 (f 4), .int .i64 (f 5), .int .i64 (f 6), .int .i64 (f 7), .int .i64 (f 8), .int .i64 (f 9), .int .i64 (f 10), .int .i64 (f 11), .int .i64 (f 12), .int .i64 (f 13), .int .i64 (f 14), .int .i64 (f 15)] 46))) :
    Calls Try.prog 60 #[.pointer (some ⟨b, 0, none⟩), v, .agg #[.int .i64 (f 0), .int .i64 (f 1), .int .i64 (f 2), .int .i64 (f 3), .int .i64 (f 4), .int .i64 (f 5), .int .i64 (f 6), .int .i64 (f 7), .int .i64 (f 8), .int .i64 (f 9), .int .i64 (f 10), .int .i64 (f 11), .int .i64 (f 12), .int .i64 (f 13), .int .i64 (f 14), .int .i64 (f 15)], .int .i64 pc] w fun e w' => e = .returned (.bool false) ∧ Kept No w w' := by
  have HK : Hid (Kept No w (w.alloc (.cells #[.int .i64 (f 0), .int .i64 (f 1), .int .i64 (f 2), .int .i64 (f 3), .int .i64 (f 4), .int .i64 (f 5), .int .i64 (f 6), .int .i64 (f 7), .int .i64 (f 8), .int .i64 (f 9), .int .i64 (f 10), .int .i64 (f 11), .int .i64 (f 12), .int .i64 (f 13), .int .i64 (f 14), .int .i64 (f 15)] 46))) := (Kept.refl No w).alloc _
  go_enter Try.func60, Try.ntmps60
  go_wp2_with (go_at_call 49; refine fi.mono ?_; rintro e w1 ⟨rfl, e1⟩; subst e1; clear fi)
  go_ret
  exact ⟨rfl, HK.out⟩
theorem set_bad (w : World) (h : Tw w b g cap T) {i : Nat} (hi : i < T.n) (hn : T.n ≤ 1048576) (hs : (T.ps i).st = 1) (f : Nat → Int) (pc : Int) (hb : pc < 0 ∨ T.cd < pc) :
    Calls Try.prog 60 #[.pointer (some ⟨b, 0, none⟩), .int .i64 ((i : Int) + 1), .agg #[.int .i64 (f 0), .int .i64 (f 1), .int .i64 (f 2), .int .i64 (f 3), .int .i64 (f 4), .int .i64 (f 5), .int .i64 (f 6), .int .i64 (f 7), .int .i64 (f 8), .int .i64 (f 9), .int .i64 (f 10), .int .i64 (f 11), .int .i64 (f 12), .int .i64 (f 13), .int .i64 (f 14), .int .i64 (f 15)], .int .i64 pc] w fun e w' => e = .returned (.bool false) ∧ Kept No w w' := by
  have k1 : Kept No w (w.alloc (.cells #[.int .i64 (f 0), .int .i64 (f 1), .int .i64 (f 2), .int .i64 (f 3), .int .i64 (f 4), .int .i64 (f 5), .int .i64 (f 6), .int .i64 (f 7), .int .i64 (f 8), .int .i64 (f 9), .int .i64 (f 10), .int .i64 (f 11), .int .i64 (f 12), .int .i64 (f 13), .int .i64 (f 14), .int .i64 (f 15)] 46)) := (Kept.refl No w).alloc _
  have t1 := h.keep k1
  have fi := ready_yes _ t1 hi hn hs
  have cc := t1.cd
  have HK : Hid (Kept No w (w.alloc (.cells #[.int .i64 (f 0), .int .i64 (f 1), .int .i64 (f 2), .int .i64 (f 3), .int .i64 (f 4), .int .i64 (f 5), .int .i64 (f 6), .int .i64 (f 7), .int .i64 (f 8), .int .i64 (f 9), .int .i64 (f 10), .int .i64 (f 11), .int .i64 (f 12), .int .i64 (f 13), .int .i64 (f 14), .int .i64 (f 15)] 46))) := k1
  clear h t1 k1 hs
  generalize T.cd = C at *
  by_cases h0 : pc < 0
  · clear hb
    go_enter Try.func60, Try.ntmps60
    go_wp2_with (go_at_call 49; refine fi.mono ?_; rintro e w1 ⟨rfl, e1⟩; subst e1; clear fi)
    go_ret
    exact ⟨rfl, HK.out⟩
  · have h1 : C < pc := by omega
    clear hb
    go_enter Try.func60, Try.ntmps60
    go_wp2_with (go_at_call 49; refine fi.mono ?_; rintro e w1 ⟨rfl, e1⟩; subst e1; clear fi)
    go_ret
    exact ⟨rfl, HK.out⟩
/-- its registers and its place in the code -/
def Tt.set (T : Tt) (i : Nat) (f : Nat → Int) (pc : Int) : Tt := (T.at i (Pr.sRgs f)).at i (Pr.sPc pc)
set_option maxHeartbeats 4000000 in
theorem set_yes (w : World) (h : Tw w b g cap T) {i : Nat} (hi : i < T.n) (hn : T.n ≤ 1048576) (hs : (T.ps i).st = 1) (f : Nat → Int) (pc : Int) (h0 : 0 ≤ pc) (hc : pc ≤ T.cd) :
    Calls Try.prog 60 #[.pointer (some ⟨b, 0, none⟩), .int .i64 ((i : Int) + 1), .agg #[.int .i64 (f 0), .int .i64 (f 1), .int .i64 (f 2), .int .i64 (f 3), .int .i64 (f 4), .int .i64 (f 5), .int .i64 (f 6), .int .i64 (f 7), .int .i64 (f 8), .int .i64 (f 9), .int .i64 (f 10), .int .i64 (f 11), .int .i64 (f 12), .int .i64 (f 13), .int .i64 (f 14), .int .i64 (f 15)], .int .i64 pc] w fun e w' => e = .returned (.bool true) ∧ Tw w' b g cap (T.set i f pc) ∧ Kept (Bg b g) w w' := by
  have k1 : Kept No w (w.alloc (.cells #[.int .i64 (f 0), .int .i64 (f 1), .int .i64 (f 2), .int .i64 (f 3), .int .i64 (f 4), .int .i64 (f 5), .int .i64 (f 6), .int .i64 (f 7), .int .i64 (f 8), .int .i64 (f 9), .int .i64 (f 10), .int .i64 (f 11), .int .i64 (f 12), .int .i64 (f 13), .int .i64 (f 14), .int .i64 (f 15)] 46)) := (Kept.refl No w).alloc _
  have hB := alloc_new w (.cells #[.int .i64 (f 0), .int .i64 (f 1), .int .i64 (f 2), .int .i64 (f 3), .int .i64 (f 4), .int .i64 (f 5), .int .i64 (f 6), .int .i64 (f 7), .int .i64 (f 8), .int .i64 (f 9), .int .i64 (f 10), .int .i64 (f 11), .int .i64 (f 12), .int .i64 (f 13), .int .i64 (f 14), .int .i64 (f 15)] 46)
  have t1 := h.keep k1
  have fi := ready_yes _ t1 hi hn hs
  have cc := t1.cd
  have hlow := h.low
  have H : Hid (Tw (w.alloc (.cells #[.int .i64 (f 0), .int .i64 (f 1), .int .i64 (f 2), .int .i64 (f 3), .int .i64 (f 4), .int .i64 (f 5), .int .i64 (f 6), .int .i64 (f 7), .int .i64 (f 8), .int .i64 (f 9), .int .i64 (f 10), .int .i64 (f 11), .int .i64 (f 12), .int .i64 (f 13), .int .i64 (f 14), .int .i64 (f 15)] 46)) b g cap T ∧ Kept No w (w.alloc (.cells #[.int .i64 (f 0), .int .i64 (f 1), .int .i64 (f 2), .int .i64 (f 3), .int .i64 (f 4), .int .i64 (f 5), .int .i64 (f 6), .int .i64 (f 7), .int .i64 (f 8), .int .i64 (f 9), .int .i64 (f 10), .int .i64 (f 11), .int .i64 (f 12), .int .i64 (f 13), .int .i64 (f 14), .int .i64 (f 15)] 46)) ∧ (w.alloc (.cells #[.int .i64 (f 0), .int .i64 (f 1), .int .i64 (f 2), .int .i64 (f 3), .int .i64 (f 4), .int .i64 (f 5), .int .i64 (f 6), .int .i64 (f 7), .int .i64 (f 8), .int .i64 (f 9), .int .i64 (f 10), .int .i64 (f 11), .int .i64 (f 12), .int .i64 (f 13), .int .i64 (f 14), .int .i64 (f 15)] 46)).heap[w.heap.size]? = some (.cells (rg16 f) 46)) := ⟨t1, k1, hB⟩
  clear h t1 k1 hs hB
  go_enter Try.func60, Try.ntmps60
  go_upto_region 4 with (go_at_call 49; refine fi.mono ?_; rintro e w1 ⟨rfl, e1⟩; subst e1; clear fi)
  clear cc
  generalize (w.alloc (.cells #[.int .i64 (f 0), .int .i64 (f 1), .int .i64 (f 2), .int .i64 (f 3), .int .i64 (f 4), .int .i64 (f 5), .int .i64 (f 6), .int .i64 (f 7), .int .i64 (f 8), .int .i64 (f 9), .int .i64 (f 10), .int .i64 (f 11), .int .i64 (f 12), .int .i64 (f 13), .int .i64 (f 14), .int .i64 (f 15)] 46)) = w1 at *
  have t1 := H.out.1
  have bx := bx16 H.out.2.2
  have a0 := bx 0 (by omega)
  have a1 := bx 1 (by omega)
  have a2 := bx 2 (by omega)
  have a3 := bx 3 (by omega)
  have a4 := bx 4 (by omega)
  have a5 := bx 5 (by omega)
  have a6 := bx 6 (by omega)
  have a7 := bx 7 (by omega)
  have a8 := bx 8 (by omega)
  have a9 := bx 9 (by omega)
  have a10 := bx 10 (by omega)
  have a11 := bx 11 (by omega)
  have a12 := bx 12 (by omega)
  have a13 := bx 13 (by omega)
  have a14 := bx 14 (by omega)
  have a15 := bx 15 (by omega)
  have r3 : w1.cell? ⟨g, i * 32 + 3, none⟩ = some (.int .i64 ((T.ps i).rg 0)) := t1.at' i hi 3 (by omega)
  have f3 := t1.fg (i * 32 + 3)
  have r4 : w1.cell? ⟨g, i * 32 + 4, none⟩ = some (.int .i64 ((T.ps i).rg 1)) := t1.at' i hi 4 (by omega)
  have f4 := t1.fg (i * 32 + 4)
  have r5 : w1.cell? ⟨g, i * 32 + 5, none⟩ = some (.int .i64 ((T.ps i).rg 2)) := t1.at' i hi 5 (by omega)
  have f5 := t1.fg (i * 32 + 5)
  have r6 : w1.cell? ⟨g, i * 32 + 6, none⟩ = some (.int .i64 ((T.ps i).rg 3)) := t1.at' i hi 6 (by omega)
  have f6 := t1.fg (i * 32 + 6)
  have r7 : w1.cell? ⟨g, i * 32 + 7, none⟩ = some (.int .i64 ((T.ps i).rg 4)) := t1.at' i hi 7 (by omega)
  have f7 := t1.fg (i * 32 + 7)
  have r8 : w1.cell? ⟨g, i * 32 + 8, none⟩ = some (.int .i64 ((T.ps i).rg 5)) := t1.at' i hi 8 (by omega)
  have f8 := t1.fg (i * 32 + 8)
  have r9 : w1.cell? ⟨g, i * 32 + 9, none⟩ = some (.int .i64 ((T.ps i).rg 6)) := t1.at' i hi 9 (by omega)
  have f9 := t1.fg (i * 32 + 9)
  have r10 : w1.cell? ⟨g, i * 32 + 10, none⟩ = some (.int .i64 ((T.ps i).rg 7)) := t1.at' i hi 10 (by omega)
  have f10 := t1.fg (i * 32 + 10)
  have r11 : w1.cell? ⟨g, i * 32 + 11, none⟩ = some (.int .i64 ((T.ps i).rg 8)) := t1.at' i hi 11 (by omega)
  have f11 := t1.fg (i * 32 + 11)
  have r12 : w1.cell? ⟨g, i * 32 + 12, none⟩ = some (.int .i64 ((T.ps i).rg 9)) := t1.at' i hi 12 (by omega)
  have f12 := t1.fg (i * 32 + 12)
  have r13 : w1.cell? ⟨g, i * 32 + 13, none⟩ = some (.int .i64 ((T.ps i).rg 10)) := t1.at' i hi 13 (by omega)
  have f13 := t1.fg (i * 32 + 13)
  have r14 : w1.cell? ⟨g, i * 32 + 14, none⟩ = some (.int .i64 ((T.ps i).rg 11)) := t1.at' i hi 14 (by omega)
  have f14 := t1.fg (i * 32 + 14)
  have r15 : w1.cell? ⟨g, i * 32 + 15, none⟩ = some (.int .i64 ((T.ps i).rg 12)) := t1.at' i hi 15 (by omega)
  have f15 := t1.fg (i * 32 + 15)
  have r16 : w1.cell? ⟨g, i * 32 + 16, none⟩ = some (.int .i64 ((T.ps i).rg 13)) := t1.at' i hi 16 (by omega)
  have f16 := t1.fg (i * 32 + 16)
  have r17 : w1.cell? ⟨g, i * 32 + 17, none⟩ = some (.int .i64 ((T.ps i).rg 14)) := t1.at' i hi 17 (by omega)
  have f17 := t1.fg (i * 32 + 17)
  have r18 : w1.cell? ⟨g, i * 32 + 18, none⟩ = some (.int .i64 ((T.ps i).rg 15)) := t1.at' i hi 18 (by omega)
  have f18 := t1.fg (i * 32 + 18)
  have c19 : w1.cell? ⟨g, i * 32 + 19, none⟩ = some (.int .i64 (T.ps i).pc) := t1.at' i hi 19 (by omega)
  have f19 := t1.fg (i * 32 + 19)
  clear t1 bx
  go_upto_region 5 with fail
  have tq := H.out.1.sRgs hi f
  have kq := putN_kept g (i * 32) f (H.out.2.1.mono (fun _ e => e.elim)) (show Bg b g g from .inr rfl) 16
  have tz : Tw ((putN w1 g (i * 32) f 16).setCell ⟨g, i * 32 + 19, none⟩ (.int .i64 pc)) b g cap (T.set i f pc) := tq.sPc (show i < _ from hi) pc
  have HZ : Hid (Tw ((putN w1 g (i * 32) f 16).setCell ⟨g, i * 32 + 19, none⟩ (.int .i64 pc)) b g cap (T.set i f pc) ∧ Kept (Bg b g) w ((putN w1 g (i * 32) f 16).setCell ⟨g, i * 32 + 19, none⟩ (.int .i64 pc))) := ⟨tz, kq.setCell (.inl (.inr rfl)) _⟩
  clear tq kq tz a0 a1 a2 a3 a4 a5 a6 a7 a8 a9 a10 a11 a12 a13 a14 a15 r3 f3 r4 f4 r5 f5 r6 f6 r7 f7 r8 f8 r9 f9 r10 f10 r11 f11 r12 f12 r13 f13 r14 f14 r15 f15 r16 f16 r17 f17 r18 f18 c19 f19
  have ew : putN w1 g (i * 32) f 16 = ((((((((((((((((w1.setCell ⟨g, i * 32 + 3, none⟩ (.int .i64 (f 0))).setCell ⟨g, i * 32 + 3 + 1, none⟩ (.int .i64 (f 1))).setCell ⟨g, i * 32 + 3 + 2, none⟩ (.int .i64 (f 2))).setCell ⟨g, i * 32 + 3 + 3, none⟩ (.int .i64 (f 3))).setCell ⟨g, i * 32 + 3 + 4, none⟩ (.int .i64 (f 4))).setCell ⟨g, i * 32 + 3 + 5, none⟩ (.int .i64 (f 5))).setCell ⟨g, i * 32 + 3 + 6, none⟩ (.int .i64 (f 6))).setCell ⟨g, i * 32 + 3 + 7, none⟩ (.int .i64 (f 7))).setCell ⟨g, i * 32 + 3 + 8, none⟩ (.int .i64 (f 8))).setCell ⟨g, i * 32 + 3 + 9, none⟩ (.int .i64 (f 9))).setCell ⟨g, i * 32 + 3 + 10, none⟩ (.int .i64 (f 10))).setCell ⟨g, i * 32 + 3 + 11, none⟩ (.int .i64 (f 11))).setCell ⟨g, i * 32 + 3 + 12, none⟩ (.int .i64 (f 12))).setCell ⟨g, i * 32 + 3 + 13, none⟩ (.int .i64 (f 13))).setCell ⟨g, i * 32 + 3 + 14, none⟩ (.int .i64 (f 14))).setCell ⟨g, i * 32 + 3 + 15, none⟩ (.int .i64 (f 15))) := rfl
  rw [← ew]
  clear ew
  generalize (putN w1 g (i * 32) f 16).setCell ⟨g, i * 32 + 19, none⟩ (.int .i64 pc) = w3 at *
  go_wp2
  go_ret
  exact ⟨rfl, HZ.out⟩
end
end Go.Proofs.Ytofkacfchkimiaa
