/-
  The statement (what it reads bounded) over the walk.
-/
import Derived.Test.YtakdfpenpodplaaUntold
import Derived.Test.YtakdfpenpodplaaRows
import Derived.Test.YtakdfpenpodplaaOpenScript
import Derived.WalkKit
import Derived.ProofKit
import Derived.OpenShut
import Derived.ShutString
import Derived.ChangeOld
import Derived.Below
import Derived.WalkSmall
import Derived.Deep.CondSized
namespace Go.Proofs.Ytakdfpenpodplaa
open Go.RowKit
set_option linter.unusedVariables false

/-- a Writer and the document's, apart -/
structure Ws (w0 : World) (Fp Fx : Nat → Prop) (p x : Nat) (bs : List Nat) (e : Int) (w : World) : Prop where
  p : Wr w Fp p bs e
  x : Ou w Fx x bs e
  d : ∀ k, Fp k → ¬ Fx k
  hp : ∀ k, Fp k → w0.heap.size ≤ k
  hx : ∀ k, Fx k → w0.heap.size ≤ k
  bel : Below w0.heap.size w0 w

theorem wsx_new (w : World) : ∃ Fp Fx, Ws w Fp Fx w.heap.size (w.heap.size + 1) [] 0 ((w.alloc (.cells #[.slice none 0 0, .int .i64 0] 69)).alloc (.cells #[.slice none 0 0, .int .i64 0] 61)) := by
  obtain ⟨Fw, Fx, h⟩ := lp_new w
  exact ⟨Fw, Fx, h.wr, h.ou, h.wx, h.hw, h.hx, h.bel⟩
theorem Ws.did {w0 w w' : World} {Fp Fx : Nat → Prop} {p x : Nat} {bs bs' : List Nat} {e e' : Int} (h : Ws w0 Fp Fx p x bs e w) (b : Bw Fp Fx p x bs' e' w w') : ∃ Fp' Fx', Ws w0 Fp' Fx' p x bs' e' w' := by
  obtain ⟨F', G', hw, ho, dd, k, hF, hG⟩ := b
  have hsz := h.bel.size
  exact ⟨F', G', hw, ho, dd, fun j hj => (hF j hj).elim (h.hp j) (fun q => Nat.le_trans hsz q), fun j hj => (hG j hj).elim (h.hx j) (fun q => Nat.le_trans hsz q), h.bel.trans (k.below (fun j q => q.elim (h.hp j) (h.hx j)) hsz)⟩

set_option maxRecDepth 100000 in
set_option maxHeartbeats 4000000 in
theorem codecWrites_walk (a' : Option Addr) (m c' : Nat) (os : List OpD) (w : World) (hos : Ow w a' os) (hol : os.length = m) (hmc : m ≤ c') (hsum : oSum os ≤ 1048576) (hm : m ≤ 1048576) :
    Calls Try.prog 8 #[.slice a' m c'] w fun e w' => e = .returned (.bool true) ∧ Below w.heap.size w w' := by
  have q2 : ∀ (w : World) (a : Addr), (binOp .eql 39 (.pointer (some a)) (.pointer none)).run Try.prog w = .ok (.bool false) w := fun w a => by first | rfl | simp
  obtain ⟨Fp, Fx, hws⟩ := wsx_new w
  have HWS : Hid (Ws w Fp Fx w.heap.size (w.heap.size + 1) [] 0 ((w.alloc (.cells #[.slice none 0 0, .int .i64 0] 69)).alloc (.cells #[.slice none 0 0, .int .i64 0] 61))) := hws
  have HOS : Hid (Ow w a' os) := hos
  have HOL : Hid (os.length = m) := hol
  have HSUM : Hid (oSum os ≤ 1048576) := hsum
  clear hos hol hsum hws
  go_enter Try.func8, Try.ntmps8
  go_upto_region 6 with (go_at_call 23; refine (newWriter_any w).mono ?_; rintro ex w1 ⟨rfl, rfl⟩)
  generalize (w.alloc (.cells #[.slice none 0 0, .int .i64 0] 69)).alloc (.cells #[.slice none 0 0, .int .i64 0] 61) = W0 at HWS ⊢
  generalize w.heap.size + 1 = x at HWS ⊢
  go_loopw [5] (fun i wr => ∃ k : Nat, k ≤ m ∧ i = .int .i64 k ∧ ∃ Fp Fx, Ws w Fp Fx w.heap.size x (wSt os k).1 (wSt os k).2 wr) (fun i _ => m - (intOf i).toNat)
  case atStart => exact ⟨0, by omega, rfl, Fp, Fx, HWS.out⟩
  case round =>
    clear HWS
    obtain ⟨k, hk, rfl, Fp, Fx, hws⟩ := hrel
    have WS : Hid (Ws w Fp Fx w.heap.size x (wSt os k).1 (wSt os k).2 wr) := hws
    have HLN : Hid ((wSt os k).1.length ≤ 12582912) := (show (wSt os k).1.length ≤ 12582912 by have := wSt_len os k; have := oSum_le os k; have := HSUM.out; omega)
    by_cases hlt : k < m
    · obtain ⟨d, hd⟩ : ∃ d, os[k]? = some d := ⟨_, List.getElem?_eq_getElem (by rw [HOL.out]; exact hlt)⟩
      obtain ⟨sb, so, rfl, hok⟩ := HOS.out k d hd
      obtain ⟨ba, bn, bc, la, ln, lc, hat, hB, hZ, hN, hW, hM, hzb⟩ := hok
      obtain ⟨o0, o1, o2, o3, o4, o5, o6⟩ := hat.below hws.bel
      have h1 := oSum_get os k d hd
      have h2 := hB.len
      have h3 := hZ.len
      have HST := wSt_next os k d hd
      obtain ⟨K, N, Wd, Fl, xs, zs, M⟩ := d
      dsimp only at o0 o1 o2 o3 o4 o5 o6 h1 h2 h3 hB hZ hN hzb
      have hb4 : bn ≤ 1000000000 := by have := HSUM.out; omega
      have hl4 : ln ≤ 1000000000 := by have := HSUM.out; omega
      have c1 := put_any Fp Fx (fun k => k < w.heap.size) (fun k => k < w.heap.size) w.heap.size x (wSt os k).1 (wSt os k).2 K N Wd Fl ba bn bc la ln lc M xs zs wr hws.p hws.x hws.d (by have := HLN.out; omega) hN.2
        (fun _ => ⟨hB.inW.kept (Kept.of_below (F := No) hws.bel) (fun _ _ h => h), fun k h h2 => by have := hws.hp k h2; omega, fun k h h2 => by have := hws.hx k h2; omega, fun k h => Nat.lt_of_lt_of_le h hws.bel.size, hb4⟩)
        (fun _ => ⟨hZ.inW.kept (Kept.of_below (F := No) hws.bel) (fun _ _ h => h), fun k h h2 => by have := hws.hp k h2; omega, fun k h h2 => by have := hws.hx k h2; omega, fun k h => Nat.lt_of_lt_of_le h hws.bel.size, fun z hz => (hzb z hz).2, hl4⟩)
      obtain ⟨S, hS⟩ : ∃ S, S = wSt os (k + 1) := ⟨_, rfl⟩
      have e1 : wOp (wSt os k).1 (wSt os k).2 K N Wd Fl xs zs M = S := by rw [hS, HST]; rfl
      rw [e1] at c1
      have HSS : Hid (S = wSt os (k + 1)) := hS
      unfold opV at c1
      clear hat hB hZ hN hW hM hzb h1 h2 h3 HST e1 hS hws hd
      go_wp2_with (go_at_call 43; refine c1.mono ?_; rintro ex w4 ⟨rfl, bo⟩)
      go_roundw
      case rel =>
        obtain ⟨Fp4, Fx4, h4⟩ := WS.out.did bo
        rw [HSS.out] at h4
        exact ⟨k + 1, by omega, by go_num, Fp4, Fx4, h4⟩
      case measure => simp [intOf]; omega
    · have c44 := told_any Fp Fx w.heap.size x (wSt os k).1 (wSt os k).2 wr hws.p hws.x hws.d (by have := HLN.out; omega)
      clear hws
      go_wp2_with (first
        | (go_at_call 44; refine c44.mono ?_; rintro ex wa ⟨rfl, hWa, hOa, ka⟩; have HBA : Hid (Below w.heap.size w wa) := WS.out.bel.trans (ka.below WS.out.hp WS.out.bel.size); have c45 := untold_any a' m c' os wa (HOS.out.below HBA.out) HOL.out HSUM.out hmc hm; clear hWa hOa ka)
        | (go_at_call 45; refine c45.mono ?_; rintro ex wb ⟨rfl, bb⟩))
      go_ret
      exact ⟨rfl, HBA.out.trans (bb.mono HBA.out.size)⟩

end Go.Proofs.Ytakdfpenpodplaa

namespace Go.Proofs.Ytakdfpenpodplaa.codecWrites
open Go.ChangeShapes Go.WideShapes Go.ChangeAt Go.RowKit
open Go.ChangeMaps (open_string shut_string)
set_option linter.unusedVariables false

theorem own : ownKnob Try.prog.godebug = none := by kernel_rfl
theorem laidOut : laidOutB Try.prog = true := by kernel_rfl

set_option maxRecDepth 100000 in
theorem contract (H : Type) (enc : TypeId × Value → H) (W : World) (base : Nat) (args : Array Value) (ds gs : List (DataW H)) (before : List MemPlace)
    (hval0 : ∀ (j : Nat) t v, Try.f8.params[j]? = some t → args[j]? = some v → Value.okWide Try.prog W .any base t v)
    (hW : DataW.Whole enc Try.prog Try.f8.params.toList Rows.codecWritesSpec.vars false W args.toList ds gs before) (hk0 : Rows.uptoSmall H (ds ++ gs) = true) :
    Calls Try.prog 8 args W fun e W' => ∃ v, e = .returned v ∧ Rows.codecWritesSpec.post enc Try.prog Try.f8 false true false false W args v W' := by
  have hval : ∀ (j : Nat) t v, Try.f8.params[j]? = some t → args[j]? = some v → Value.okWide Try.prog W .any base t v := hval0
  have hW' := hW
  obtain ⟨p, q, hA0, hV, rfl, hfz, hnd⟩ := hW
  have hA : DataW.TrodAll enc Try.prog W 0 (fun _ => true) true Try.f8.params.toList args.toList ds p := hA0
  rw [Try.params8] at hA hval
  obtain ⟨v0, vs0, d0, ds0, p0, q0, hargs, rfl, rfl, h0, r0⟩ := trodAll_cons hA
  obtain ⟨rfl, rfl, rfl⟩ := trodAll_nil r0
  obtain rfl : args = #[v0] := by cases args; simp_all
  obtain ⟨rfl, rfl⟩ := trodVars_none hV
  have k0 := h0
  have lt0 : ∀ x ∈ p0, x.block < W.heap.size := by obtain ⟨m, hm⟩ := k0; exact DataW.trod_lt m _ _ _ hm
  have hk : Rows.uptoBulkAll [d0] ≤ 1048576 := of_decide_eq_true hk0
  clear hA0 hval0
  obtain ⟨a', m, c', os, rfl, hmc, hol, hos, hsum⟩ := open_script (hval 0 36 v0 rfl rfl) h0
  simp only [Rows.uptoBulkAll] at hk
  have hm : m ≤ 1048576 := by
    have : os.length ≤ (os.map (fun d => d.xs.length + d.zs.length + 1)).sum := by
      clear hos hol hsum
      induction os with
      | nil => simp
      | cons d os ih => simp only [List.map, List.sum_cons, List.length_cons]; omega
    omega
  refine (codecWrites_walk a' m c' os W hos hol hmc (show (os.map (fun d => d.xs.length + d.zs.length + 1)).sum ≤ 1048576 by omega) hm).mono fun e W' ⟨he, bel⟩ => ?_
  subst he
  exact ⟨_, rfl, _, _, _, [], _, [], hW', trodAll_mk1 (shut_bool Try.underlying4 _), (trodAll_cons_mk (Below.trod laidOut (by kernel_rfl) (of_decide_eq_true (by kernel_rfl)) k0 bel lt0) trodAll_mk0), rfl, bel.frame _, fun h => by cases h⟩

set_option maxRecDepth 100000 in
theorem lifted (os : Os) (started : os.Started) (H : Type) (enc : TypeId × Value → H) (F : Stop.Interp) :
    ReturnsInHanded {} Try.checked os 8 .any ((Rows.OpenSpec.upto Rows.codecWritesSpec).pre6 enc Try.prog Try.f8 Rows.codecWritesUptoRow.domain false) (((Rows.OpenSpec.upto Rows.codecWritesSpec).at F).post enc Try.prog Try.f8 false true false false) := by
  refine returnsInHanded_of_cond (C := Try.checked) (s := Rows.OpenSpec.upto Rows.codecWritesSpec) (k := Rows.uptoSmall) rfl own started (by kernel_rfl) Try.func8
    (OpenSpec.witness (enc := enc) (C := Try.checked) (s := Rows.OpenSpec.upto Rows.codecWritesSpec) (k := Rows.uptoSmall) rfl false ⟨#[], #[.slice none 0 0], []⟩ 8 (by kernel_rfl) (by kernel_rfl) (by kernel_rfl)
      (x := ([.nil], [], [])) (by kernel_rfl) rfl (by kernel_rfl)) ?_
  intro W base args ds gs before hval hW _ hk _
  exact contract H enc W base args ds gs before hval hW hk

theorem proved : Rows.CodecWritesUptoSaid :=
  OpenClaim.holds_of_cond 8 Try.f8 rfl rfl rfl rfl rfl rfl rfl ⟨rfl, rfl, rfl, rfl, rfl⟩ rfl rfl rfl rfl rfl (by kernel_rfl) Try.func8 (by kernel_rfl)
    (of_decide_eq_true (by kernel_rfl)) (by unfold Func.isWrapper; first | (rw [if_pos (by decide +kernel)]; kernel_rfl) | (rw [if_neg (by decide +kernel)]; exact ⟨rfl, rfl⟩))
    (fun os started H enc _ F => lifted os started H enc F)
end Go.Proofs.Ytakdfpenpodplaa.codecWrites
namespace Go.Proofs.Ytakdfpenpodplaa
theorem codecWritesUpto_holds : Rows.CodecWritesUptoSaid := codecWrites.proved
#print axioms codecWritesUpto_holds
end Go.Proofs.Ytakdfpenpodplaa
