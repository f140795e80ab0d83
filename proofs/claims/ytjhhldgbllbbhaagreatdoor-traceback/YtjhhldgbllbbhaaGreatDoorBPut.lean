/-
  trace.putEvent of an event that goes.
-/
import Derived.Test.YtjhhldgbllbbhaaGreatDoorCSeal
import Derived.Test.YtjhhldgbllbbhaaGreatDoorVGo
namespace Go.Proofs.YtjhhldgbllbbhaaGreatDoor
open Go.RowKit
set_option linter.unusedVariables false
set_option linter.unusedSimpArgs false
set_option maxRecDepth 100000

def wdB (d : List Int) : List Nat := (d.map be64).flatten
def hdB (x : Ev) : List Nat := be64 x.tk ++ be x.pt.toNat 1 ++ be x.kd.toNat 1 ++ be x.pr.toNat 1 ++ be64 x.ea ++ be64 x.eb ++ be x.d.length 1
def evB (x : Ev) : List Nat := hdB x ++ wdB x.d
def evsB (xs : List Ev) : List Nat := (xs.map evB).flatten
theorem be64_len (x : Int) : (be64 x).length = 8 := by unfold be64; rw [be_length]
theorem wdB_nil : wdB [] = [] := rfl
theorem wdB_snoc (d : List Int) (x : Int) : wdB (d ++ [x]) = wdB d ++ be64 x := by simp [wdB]
theorem wdB_len (d : List Int) : (wdB d).length = 8 * d.length := by
  induction d with
  | nil => rfl
  | cons x d ih => simp [wdB, be64_len] at ih ⊢; omega
theorem hdB_len (x : Ev) : (hdB x).length = 28 := by simp [hdB, be64_len, be_length]
theorem evB_len (x : Ev) : (evB x).length = 28 + 8 * x.d.length := by simp [evB, hdB_len, wdB_len]
theorem w64_yes (F : Nat → Prop) (p : Nat) (bs : List Nat) (x : Int) (w : World) (h : Wr w F p bs 0) (hsz : bs.length ≤ 140737488355300) :
    Calls Tryz.prog 42 #[.pointer (some ⟨p, 0, none⟩), .int .i64 x] w fun ex w' => ex = .returned (.tuple #[]) ∧ WrDid F p (bs ++ be64 x) 0 w w' := by
  have := i64_any F p bs 0 x w h hsz
  rw [show layBs bs 0 (be64 x) = bs ++ be64 x from by simp [layBs]] at this
  exact this
theorem w8_yes (F : Nat → Prop) (p : Nat) (bs : List Nat) (x : Int) (w : World) (h : Wr w F p bs 0) (hsz : bs.length ≤ 140737488355300) (h0 : 0 ≤ x) (h1 : x < 256) :
    Calls Tryz.prog 43 #[.pointer (some ⟨p, 0, none⟩), .int .i64 x] w fun ex w' => ex = .returned (.tuple #[]) ∧ WrDid F p (bs ++ be x.toNat 1) 0 w w' := by
  have := u8_any F p bs 0 x w h hsz (by omega)
  rw [show numBs bs 0 x 1 = bs ++ be x.toNat 1 from by unfold numBs; rw [if_neg (by simp), if_neg (by simp; omega)], show numE 0 x 1 = 0 from by unfold numE; rw [if_neg (by simp), if_neg (by simp; omega)]] at this
  exact this
set_option maxHeartbeats 8000000 in
theorem putEvent_yes (F G : Nat → Prop) (p : Nat) (bs : List Nat) (x : Ev) (da : Option Addr) (dc : Nat) (w : World) (h : Wr w F p bs 0) (hx : Ir w G x da dc) (hg : x.Go) (hGF : ∀ k, G k → ¬ F k ∧ k < w.heap.size) (hsz : bs.length ≤ 90000000) :
    Calls Tryz.prog 22 #[.pointer (some ⟨p, 0, none⟩), .agg (x.val da dc)] w fun ex w' => ex = .returned (.tuple #[]) ∧ WrDid F p (bs ++ evB x) 0 w w' := by
  obtain ⟨w0, e0⟩ : ∃ w0, w0 = w.alloc (.cells #[.int .i64 x.tk, .int .i64 x.pt, .int .i64 x.kd, .int .i64 x.pr, .int .i64 x.ea, .int .i64 x.eb, .slice da x.d.length dc] 25) := ⟨_, rfl⟩
  have K0 : Kept No w w0 := by rw [e0]; exact (Kept.refl No w).alloc _
  have BA : w0.heap[w.heap.size]? = some (.cells #[.int .i64 x.tk, .int .i64 x.pt, .int .i64 x.kd, .int .i64 x.pr, .int .i64 x.ea, .int .i64 x.eb, .slice da x.d.length dc] 25) := by rw [e0]; exact alloc_new w _
  have hflt : ∀ k, F k → k < w.heap.size := by obtain ⟨v, hv⟩ := h; exact hv.flt
  have hbF : ¬ F w.heap.size := fun hf => by have := hflt _ hf; omega
  have hw0 : Wr w0 F p bs 0 := h.kept K0 (fun _ _ e => e)
  have hd : x.d.length ≤ 16 := by have := hg.2.2.2.2.2.2.2.2; omega
  have hcd := hx.zs.cap
  have hcm := hx.zs.max
  have HG := hid hg
  have HH := hid (And.intro K0 (And.intro BA (And.intro hx (And.intro hGF hbF))))
  clear K0 BA h hx hGF hflt hbF hg
  show Calls Tryz.prog 22 #[.pointer (some ⟨p, 0, none⟩), .agg #[.int .i64 x.tk, .int .i64 x.pt, .int .i64 x.kd, .int .i64 x.pr, .int .i64 x.ea, .int .i64 x.eb, .slice da x.d.length dc]] w _
  have W0 : Hid (Went F w0 w0 F) := Went.refl F w0
  go_enter Tryz.func22, Tryz.ntmps22
  go_upto_region 1 with fail
  rw [← e0]
  clear e0
  have x0 : w0.cell? ⟨w.heap.size, 0, none⟩ = some (.int .i64 x.tk) := W0.out.1.cell ((cell_blk HH.out.2.1 0).trans rfl) HH.out.2.2.2.2
  have c0 := w64_yes F p bs x.tk w0 hw0 (by first | omega | (simp only [List.length_append, be64_len, be_length]; omega))
  go_upto_region 2 with (go_at_call 42; refine c0.mono ?_; rintro ex w1 ⟨rfl, hd1⟩)
  obtain ⟨F1, hw1, hwe1⟩ := hd1
  have W1 := hid (W0.out.trans hwe1)
  clear hwe1 c0 x0 hw0 W0
  have x1 : w1.cell? ⟨w.heap.size, 1, none⟩ = some (.int .i64 x.pt) := W1.out.1.cell ((cell_blk HH.out.2.1 1).trans rfl) HH.out.2.2.2.2
  have c1 := w8_yes F1 p (bs ++ be64 x.tk) x.pt w1 hw1 (by first | omega | (simp only [List.length_append, be64_len, be_length]; omega)) (by have := HG.out.2.2.1; omega) (by have := HG.out.2.2.2.1; omega)
  go_upto_region 3 with (go_at_call 43; refine c1.mono ?_; rintro ex w2 ⟨rfl, hd2⟩)
  obtain ⟨F2, hw2, hwe2⟩ := hd2
  have W2 := hid (W1.out.trans hwe2)
  clear hwe2 c1 x1 hw1 W1
  have x2 : w2.cell? ⟨w.heap.size, 2, none⟩ = some (.int .i64 x.kd) := W2.out.1.cell ((cell_blk HH.out.2.1 2).trans rfl) HH.out.2.2.2.2
  have c2 := w8_yes F2 p ((bs ++ be64 x.tk) ++ be x.pt.toNat 1) x.kd w2 hw2 (by first | omega | (simp only [List.length_append, be64_len, be_length]; omega)) (by have := HG.out.2.2.2.2.1; omega) (by have := HG.out.2.2.2.2.2.1; omega)
  go_upto_region 4 with (go_at_call 43; refine c2.mono ?_; rintro ex w3 ⟨rfl, hd3⟩)
  obtain ⟨F3, hw3, hwe3⟩ := hd3
  have W3 := hid (W2.out.trans hwe3)
  clear hwe3 c2 x2 hw2 W2
  have x3 : w3.cell? ⟨w.heap.size, 3, none⟩ = some (.int .i64 x.pr) := W3.out.1.cell ((cell_blk HH.out.2.1 3).trans rfl) HH.out.2.2.2.2
  have c3 := w8_yes F3 p (((bs ++ be64 x.tk) ++ be x.pt.toNat 1) ++ be x.kd.toNat 1) x.pr w3 hw3 (by first | omega | (simp only [List.length_append, be64_len, be_length]; omega)) (by have := HG.out.2.2.2.2.2.2.1; omega) (by have := HG.out.2.2.2.2.2.2.2.1; omega)
  go_upto_region 5 with (go_at_call 43; refine c3.mono ?_; rintro ex w4 ⟨rfl, hd4⟩)
  obtain ⟨F4, hw4, hwe4⟩ := hd4
  have W4 := hid (W3.out.trans hwe4)
  clear hwe4 c3 x3 hw3 W3
  have x4 : w4.cell? ⟨w.heap.size, 4, none⟩ = some (.int .i64 x.ea) := W4.out.1.cell ((cell_blk HH.out.2.1 4).trans rfl) HH.out.2.2.2.2
  have c4 := w64_yes F4 p ((((bs ++ be64 x.tk) ++ be x.pt.toNat 1) ++ be x.kd.toNat 1) ++ be x.pr.toNat 1) x.ea w4 hw4 (by first | omega | (simp only [List.length_append, be64_len, be_length]; omega))
  go_upto_region 6 with (go_at_call 42; refine c4.mono ?_; rintro ex w5 ⟨rfl, hd5⟩)
  obtain ⟨F5, hw5, hwe5⟩ := hd5
  have W5 := hid (W4.out.trans hwe5)
  clear hwe5 c4 x4 hw4 W4
  have x5 : w5.cell? ⟨w.heap.size, 5, none⟩ = some (.int .i64 x.eb) := W5.out.1.cell ((cell_blk HH.out.2.1 5).trans rfl) HH.out.2.2.2.2
  have c5 := w64_yes F5 p (((((bs ++ be64 x.tk) ++ be x.pt.toNat 1) ++ be x.kd.toNat 1) ++ be x.pr.toNat 1) ++ be64 x.ea) x.eb w5 hw5 (by first | omega | (simp only [List.length_append, be64_len, be_length]; omega))
  go_upto_region 7 with (go_at_call 42; refine c5.mono ?_; rintro ex w6 ⟨rfl, hd6⟩)
  obtain ⟨F6, hw6, hwe6⟩ := hd6
  have W6 := hid (W5.out.trans hwe6)
  clear hwe6 c5 x5 hw5 W5
  have x6 : w6.cell? ⟨w.heap.size, 6, none⟩ = some (.slice da x.d.length dc) := W6.out.1.cell ((cell_blk HH.out.2.1 6).trans rfl) HH.out.2.2.2.2
  have c6 := w8_yes F6 p ((((((bs ++ be64 x.tk) ++ be x.pt.toNat 1) ++ be x.kd.toNat 1) ++ be x.pr.toNat 1) ++ be64 x.ea) ++ be64 x.eb) (x.d.length : Int) w6 hw6 (by first | omega | (simp only [List.length_append, be64_len, be_length]; omega)) (by omega) (by omega)
  go_upto_region 8 with (go_at_call 43; refine c6.mono ?_; rintro ex w7 ⟨rfl, hd7⟩)
  obtain ⟨F7, hw7, hwe7⟩ := hd7
  have W7 := hid (W6.out.trans hwe7)
  clear hwe7 c6 x6 hw6 W6
  obtain ⟨b7, eb7⟩ : ∃ b7, b7 = bs ++ hdB x := ⟨_, rfl⟩
  rw [show (((((((bs ++ be64 x.tk) ++ be x.pt.toNat 1) ++ be x.kd.toNat 1) ++ be x.pr.toNat 1) ++ be64 x.ea) ++ be64 x.eb) ++ be (x.d.length : Int).toNat 1) = b7 from by rw [eb7]; simp [hdB]] at hw7
  have l7 : b7.length ≤ 90000028 := by rw [eb7, List.length_append, hdB_len]; omega
  have x6' : w7.cell? ⟨w.heap.size, 6, none⟩ = some (.slice da x.d.length dc) := W7.out.1.cell ((cell_blk HH.out.2.1 6).trans rfl) HH.out.2.2.2.2
  have HEB := hid eb7
  have HW7 := hid hw7
  clear eb7 hw7 l7
  go_wp2
  go_loopw [5, 38] (fun u5 u38 wr => ∃ (k : Nat) (Fk : Nat → Prop), k ≤ x.d.length ∧ u38 = .int .i64 (k : Int) ∧ Wr wr Fk p (b7 ++ wdB (x.d.take k)) 0 ∧ Went F w0 wr Fk) (fun _ u38 _ => x.d.length - (intOf u38).toNat)
  case atStart => exact ⟨0, F7, by omega, rfl, by rw [List.take_zero, wdB_nil, List.append_nil]; exact HW7.out, W7.out⟩
  case round =>
    obtain ⟨k, Fk, hk, rfl, hwk, wek⟩ := hrel
    by_cases hlt : k < x.d.length
    · have hltz : (k : Int) < (x.d.length : Int) := by omega
      obtain ⟨b1, o1, rfl, hb1, hc1⟩ := (HH.out.2.2.1.keep HH.out.1).zs.at' k hlt
      have hc2 := wek.1.cell hc1 (HH.out.2.2.2.1 b1 hb1).1
      have hcall := w64_yes Fk p _ (x.d.getD k 0) wr hwk (by rw [List.length_append, wdB_len, HEB.out, List.length_append, hdB_len, List.length_take]; omega)
      have HT0 : wdB (x.d.take (k + 1)) = wdB (x.d.take k) ++ be64 (x.d.getD k 0) := by rw [take_snoc (x := x.d.getD k 0) (by rw [List.getD, List.getElem?_eq_getElem hlt]; rfl), wdB_snoc]
      have HT := hid HT0
      clear HT0
      have HWE := hid wek
      clear hc1 wek hwk
      have hc3 : wr.cell? ⟨b1, o1 + k, none⟩ = some (.int .i64 (x.d.getD k 0)) := hc2
      clear hc2
      generalize x.d.getD k 0 = z at *
      go_wp2_with (go_at_call 42; refine hcall.mono ?_; rintro ex w8 ⟨rfl, hd8⟩)
      obtain ⟨F8, hw8, hwe8⟩ := hd8
      refine ⟨⟨k + 1, F8, by omega, by go_num, ?_, HWE.out.trans hwe8⟩, ?_⟩
      · rw [HT.out, ← List.append_assoc]; exact hw8
      · simp [intOf]; omega
    · have hltz : ¬ (k : Int) < (x.d.length : Int) := by omega
      obtain rfl : k = x.d.length := by omega
      have HF : Hid (WrDid F p (bs ++ evB x) 0 w0 wr) := by
        refine ⟨Fk, ?_, wek⟩
        rw [List.take_of_length_le (Nat.le_refl _), HEB.out] at hwk
        rw [evB, ← List.append_assoc]
        exact hwk
      clear hwk wek
      go_wp2
      go_end0
      exact ⟨rfl, HF.out.ahead HH.out.1⟩
end Go.Proofs.YtjhhldgbllbbhaaGreatDoor
