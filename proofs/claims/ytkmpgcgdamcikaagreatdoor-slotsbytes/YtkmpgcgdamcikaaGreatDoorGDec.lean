/-
  One text: SPut, SEnc, SGet, SDec, SBackP, SBackH, TPl, TDec, SApp.
-/
import Derived.Test.YtkmpgcgdamcikaaGreatDoorGLen
import Derived.Test.YtkmpgcgdamcikaaGreatDoorGRng
import Derived.Test.YtkmpgcgdamcikaaGreatDoorGCod
import Derived.Test.YtkmpgcgdamcikaaGreatDoorGMk
import Derived.Deep.DeepAppendWide
namespace Go.Proofs.YtkmpgcgdamcikaaGreatDoor
open Go.RowKit Go.Shelf
attribute [local go_sem] Oper.semAt_some
set_option linter.unusedVariables false
set_option maxRecDepth 100000

/-- slots as bytes -/
def enL (L : List (Int × Int)) : List Nat := L.flatMap (fun x => be x.1.toNat 4 ++ be x.2.toNat 1)
theorem enL_app (K L : List (Int × Int)) : enL (K ++ L) = enL K ++ enL L := by unfold enL; exact List.flatMap_append
theorem enL_one (x : Int × Int) : enL [x] = be x.1.toNat 4 ++ be x.2.toNat 1 := by simp [enL]
theorem enL_len : ∀ L : List (Int × Int), (enL L).length = 5 * L.length
  | [] => rfl
  | x :: r => by
    rw [show x :: r = [x] ++ r from rfl, enL_app, enL_one, List.length_append, List.length_append, be_length, be_length, enL_len r, List.length_append]
    simp
    omega
theorem enL_succ {L : List (Int × Int)} {q : Nat} (h : q < L.length) : enL (L.take (q + 1)) = (enL (L.take q) ++ be (Slt.gt L q).1.toNat 4) ++ be (Slt.gt L q).2.toNat 1 := by
  have e : L.take (q + 1) = L.take q ++ [Slt.gt L q] := by
    have hg := Slt.gt_some h
    rw [List.take_add_one, hg]
    rfl
  rw [e, enL_app, enL_one, List.append_assoc]

theorem Wr.same {W W' : World} {F : Nat → Prop} {p : Nat} {bs : List Nat} {e : Int} (h : Wr W F p bs e) (hs : W.heap.size ≤ W'.heap.size) (hk : ∀ k, F k → W'.heap[k]? = W.heap[k]?) : Wr W' F p bs e := by
  obtain ⟨v, hv⟩ := h
  refine ⟨v, (hk p hv.fp).trans hv.obj, ⟨hv.own.1, ?_⟩, hv.fp, hv.fv, fun k hF => Nat.lt_of_lt_of_le (hv.flt k hF) hs, hv.lt⟩
  rcases hv.own.2 with h1 | ⟨g, cap, cur, e1, hb, hg, r⟩
  · exact .inl h1
  · exact .inr ⟨g, cap, cur, e1, hb, (hk g (hv.fv g (by rw [e1]; rfl))).trans hg, r⟩
theorem Wr.flt {w : World} {F : Nat → Prop} {p : Nat} {bs : List Nat} {e : Int} (h : Wr w F p bs e) : ∀ k, F k → k < w.heap.size := by obtain ⟨v, hv⟩ := h; exact hv.flt

def AndB (F : Nat → Prop) (b : Nat) : Nat → Prop := fun k => F k ∨ k = b
def StP (p b : Nat) (bs : List Nat) (L : List (Int × Int)) : St := fun q W S => ∃ F', S = AndB F' b ∧ ¬ F' b ∧ Wr W F' p (bs ++ enL (L.take q)) 0 ∧ W.heap[b]? = some (.cells #[.pointer (some ⟨p, 0, none⟩)] 56)
theorem StP.hangs (p b : Nat) (bs : List Nat) (L : List (Int × Int)) : Hangs (StP p b bs L) := by
  refine ⟨?_, ?_⟩
  · rintro q W S ⟨F', rfl, h0, h1, h2⟩ k (hk | hk)
    · exact h1.flt k hk
    · subst hk; exact heap_lt h2
  · rintro q W W' S ⟨F', rfl, h0, h1, h2⟩ hs hk
    exact ⟨F', rfl, h0, h1.same hs (fun k h => hk k (.inl h)), (hk b (.inr rfl)).trans h2⟩
theorem num_in {bs : List Nat} {x : Int} {width : Nat} (h0 : 0 ≤ x) (h1 : x < 2 ^ (8 * width)) : numBs bs 0 x width = bs ++ be x.toNat width ∧ numE 0 x width = 0 := by
  unfold numBs numE
  have hn : ¬ (x < 0 ∨ 2 ^ (8 * width) ≤ x) := fun e => by
    rcases e with e | e
    · omega
    · exact absurd h1 (Int.not_lt.2 e)
  refine ⟨?_, ?_⟩
  · rw [if_neg (fun h => h rfl), if_neg hn]
  · rw [if_neg (fun h => h rfl), if_neg hn]

set_option maxHeartbeats 4000000 in
theorem putPart_any {F G : Nat → Prop} {a : Option Addr} {n c p : Nat} {bs : List Nat} {L : List (Int × Int)} (w : World) (h : Sl w G a n c L) (hG : ∀ k, G k → k < w.heap.size) (hg : Slt.Goes L) (hW : Wr w F p bs 0) (hd : ∀ k, G k → ¬ F k) (hsz : bs.length + 5 * n ≤ 140737488355300) :
    Calls Tryz.prog 29 #[.pointer (some ⟨p, 0, none⟩), .slice a n c] w fun e w' => e = .returned (.tuple #[]) ∧ WrDid F p (bs ++ enL L) 0 w w' := by
  have HS : Hid (Sl w G a n c L ∧ (∀ k, G k → k < w.heap.size) ∧ Slt.Goes L ∧ Wr w F p bs 0 ∧ (∀ k, G k → ¬ F k)) := ⟨h, hG, hg, hW, hd⟩
  clear h hG hg hW hd
  refine callsIn_wide (n := 9).1 ?_
  refine callsIn_of_wp_marks Tryz.func29 rfl trivial ?_ rfl
  simp only [Tryz.ntmps29, List.size_toArray, List.length_cons, List.length_nil, Nat.reduceAdd, Nat.reduceSub, Array.replicate_succ, Array.replicate_zero, List.push_toArray, List.append_toArray, List.nil_append, List.cons_append]
  gi_wp2_with ((try refine ⟨trivial, ?_⟩); gi_at_call 46; refine (callsIn_wide.2 (along_new a n c _)).mono ?_; rintro e w4 ⟨rfl, hw4⟩)
  clear hw4 w4
  have hI2 : StP p w.heap.size bs L 0 (w.alloc (.cells #[.pointer (some ⟨p, 0, none⟩)] 56)) (AndB F w.heap.size) := ⟨F, rfl, fun h => by have := HS.out.2.2.2.1.flt _ h; omega, by
    have := HS.out.2.2.2.1.kept ((Kept.refl No w).alloc (.cells #[.pointer (some ⟨p, 0, none⟩)] 56)) (fun _ _ h => h)
    rw [List.take_zero, show enL [] = [] from rfl, List.append_nil]
    exact this, World.alloc_heap_new _ _⟩
  have k2 : Kept No w (w.alloc (.cells #[.pointer (some ⟨p, 0, none⟩)] 56)) := (Kept.refl No w).alloc _
  have s2 : (w.alloc (.cells #[.pointer (some ⟨p, 0, none⟩)] 56)).heap.size = w.heap.size + 1 := by simp
  generalize w.alloc (.cells #[.pointer (some ⟨p, 0, none⟩)] 56) = w2 at *
  have hsl := HS.out.1.keep k2
  have hF2 : ∀ k, G k → k < w2.heap.size := fun k hk => by have := HS.out.2.1 k hk; omega
  have hgv := along_gives hsl hF2
  rw [s2] at hgv
  have hI3 := (StP.hangs p w.heap.size bs L).kept _ _ (w2.alloc (.cells #[.slice a n c] 23)) _ hI2 (by simp) (fun k hk => Below.heap_alloc _ _ _ ((StP.hangs p w.heap.size bs L).old _ _ _ hI2 k hk))
  have HK : Hid (Kept No w (w2.alloc (.cells #[.slice a n c] 23)) ∧ (w2.alloc (.cells #[.slice a n c] 23)).heap.size = w.heap.size + 2) := ⟨k2.alloc _, by simp [s2]⟩
  generalize w2.alloc (.cells #[.slice a n c] 23) = w3 at *
  have w3s := HK.out.2
  clear k2 hI2 hsl hF2 s2
  refine range_list (n := 9) (gf := 64) (lb := #[.pointer (some ⟨w.heap.size + 1, 0, none⟩)]) rfl (enters_of Tryz.func64 (by kernel_rfl) rfl) rfl (el := el L) (fun _ => rfl) hgv (Nat.le_refl _) (fun k hk => ⟨by rcases hk with hk | hk; have := HS.out.2.1 k hk; omega; omega, rfl⟩)
    (StP p w.heap.size bs L) (fun c q W S => False) (StP.hangs _ _ _ _) (fun _ => ⟨fun q W S hi => hi.elim, fun q W W' S hi hs hk => hi.elim⟩) hI3
    (fun k hk hs => by
      rcases hk with hk | hk
      · have := HS.out.2.1 k hk
        rcases hs with hs | hs
        · exact HS.out.2.2.2.2 k hk hs
        · omega
      · rcases hs with hs | hs
        · have := HS.out.2.2.2.1.flt k hs; omega
        · omega)
    (fun q => .cells #[.int .i64 (Slt.gt L q).1, .int .i64 (Slt.gt L q).2] 62)
    (fun q B1 => { tmps := #[.pointer (some ⟨p, 0, none⟩), .slice a n c, .pointer (some ⟨w.heap.size, 0, none⟩), undef, undef, .pointer (some ⟨B1, 0, none⟩), .slice a n c, .func (.func 64) #[] #[.pointer (some ⟨w.heap.size + 1, 0, none⟩)], .int .i64 (Slt.ah L q), .agg #[.int .i64 (Slt.gt L q).1, .int .i64 (Slt.gt L q).2], undef, undef, undef, undef, undef, undef, undef, undef], defers := [] }) ?assign ?body ?done ?stop
  case assign =>
    intro l q W K hq hK
    simp only [el]
    gi_wp2
    exact hK
  case body =>
    rintro l q B1 W S ⟨F', rfl, hnb, hwr, hbx⟩ hB1 hob hq
    have hqL : q < L.length := by rw [HS.out.1.len]; exact hq
    have hok := HS.out.2.2.1 q hqL
    have hA := Slt.pr_bd (Nat.le_of_lt hqL) (fun i hi => HS.out.2.2.1 i (by omega))
    have o1 := hok.1
    have o2 := hok.2.1
    have o3 := hok.2.2.1
    have o4 := hok.2.2.2.1
    have hlen : (bs ++ enL (L.take q)).length + 5 ≤ 140737488355300 := by
      rw [List.length_append, enL_len, List.length_take]
      have := HS.out.1.len
      omega
    have HSU : Hid (enL (L.take (q + 1)) = (enL (L.take q) ++ be (Slt.gt L q).1.toNat 4) ++ be (Slt.gt L q).2.toNat 1) := enL_succ hqL
    generalize (Slt.gt L q).1 = x1 at *
    generalize (Slt.gt L q).2 = x2 at *
    generalize enL (L.take q) = T at *
    obtain ⟨b0, b1⟩ := bx2 hob
    have d0 := bx1 hbx
    have c1 := u32_any F' p (bs ++ T) 0 x1 W hwr (by omega) (by omega)
    obtain ⟨e1, e2⟩ := num_in (bs := bs ++ T) (x := x1) (width := 4) (by omega) (by omega)
    rw [e1, e2] at c1
    have HB : Hid (¬ F' B1 ∧ ¬ F' w.heap.size ∧ W.heap[B1]? = some (.cells #[.int .i64 x1, .int .i64 x2] 62) ∧ W.heap[w.heap.size]? = some (.cells #[.pointer (some ⟨p, 0, none⟩)] 56)) := ⟨fun h => hB1 (.inl h), hnb, hob, hbx⟩
    clear hgv hI3 hB1 hob hbx hnb hwr hok e1 e2
    try dsimp only
    gi_wp2
    refine ⟨trivial, (CallsIn.inRound l (callsIn_wide.2 c1)).mono ?_⟩
    rintro e W1 ⟨rfl, F1, hw1, hwt1⟩
    clear c1 d0 b0 b1
    obtain ⟨b0, b1⟩ := bx2 (hwt1.1.at' HB.out.2.2.1 HB.out.1)
    have d0 := bx1 (hwt1.1.at' HB.out.2.2.2 HB.out.2.1)
    have c2 := u8_any F1 p _ 0 x2 W1 hw1 (by rw [List.length_append, be_length]; omega) (by omega)
    obtain ⟨e1, e2⟩ := num_in (bs := bs ++ T ++ be x1.toNat 4) (x := x2) (width := 1) (by omega) (by omega)
    rw [e1, e2] at c2
    clear e1 e2 hw1
    have HB1 : Hid (Went F' W W1 F1) := hwt1
    clear hwt1
    gi_wp2
    refine ⟨trivial, (CallsIn.inRound l (callsIn_wide.2 c2)).mono ?_⟩
    rintro e W2 ⟨rfl, F2, hw2, hwt2⟩
    clear c2 d0 b0 b1
    have hwt := HB1.out.trans hwt2
    have nF2 : ¬ F2 w.heap.size := fun h => by
      rcases hwt.2 _ h with h | h
      · exact HB.out.2.1 h
      · have := heap_lt HB.out.2.2.2
        omega
    have HF : Hid (∃ S', Kept (AndB F' w.heap.size) W W2 ∧ More (AndB F' w.heap.size) W S' ∧ StP p w.heap.size bs L (q + 1) W2 S') := ⟨AndB F2 w.heap.size, hwt.1.mono (fun _ h => .inl h), fun k hk => by
      rcases hk with hk | hk
      · rcases hwt.2 k hk with h | h
        · exact .inl (.inl h)
        · exact .inr h
      · exact .inl (.inr hk), F2, rfl, nF2, by rw [HSU.out, ← List.append_assoc, ← List.append_assoc]; exact hw2, hwt.1.at' HB.out.2.2.2 HB.out.2.1⟩
    clear hwt hwt2 hw2
    gi_wp2
    exact HF.out
  case done =>
    rintro D W S' hk hm ⟨F', rfl, hnb, hwr, hbx⟩ hD1 hD2 hD3
    rw [List.take_of_length_le (by rw [HS.out.1.len]; exact Nat.le_refl _)] at hwr
    have nD : ∀ k, F' k → k ≠ D := fun k h e => hD1 (.inl (e ▸ h))
    have kp : Kept (fun k => k = D) W (W.putObj D (.deferred none)) := kept_put (S := fun k => k = D) _ rfl
    have HF : Hid (WrDid F p (bs ++ enL L) 0 w (W.putObj D (.deferred none))) := by
      refine ⟨F', hwr.kept kp (fun k h e => nD k h e), ?_, fun k h => ?_⟩
      · have k1 : Kept F w W := (HK.out.1.mono (fun _ h => h.elim)).trans hk (fun k e => by
          rcases e with e | e
          · exact .inl e
          · exact .inr (by omega))
        exact k1.trans kp (fun k e => .inr (by omega))
      · rcases hm k (.inl h) with e | e
        · rcases e with e | e
          · exact .inl e
          · exact .inr (by omega)
        · exact .inr (by omega)
    clear hgv hI3 hm hk hwr hbx hnb nD kp
    gi_wp2
    refine ⟨by simp, .inl ⟨_, _, rfl, run_takeDeferred hD3, ?_⟩⟩
    exact ⟨_, results_none rfl _ _ _, rfl, HF.out⟩
  case stop =>
    rintro D c q W S' hk hm hf
    exact hf.elim
end Go.Proofs.YtkmpgcgdamcikaaGreatDoor

namespace Go.Proofs.YtkmpgcgdamcikaaGreatDoor
open Go.RowKit Go.Shelf
set_option linter.unusedVariables false
set_option maxRecDepth 100000

def bodyB (P C : List (Int × Int)) : List Nat := be P.length 4 ++ be C.length 4 ++ enL P ++ enL C
def encLong (P C : List (Int × Int)) : Prop := 4194304 < 20 + 5 * (P.length + C.length)
instance (P C : List (Int × Int)) : Decidable (encLong P C) := inferInstanceAs (Decidable (_ < _))
def encX (P C : List (Int × Int)) : List Nat := if hyF P C = 0 then [] else if encLong P C then [] else sealed 2 (bodyB P C)
def encE (P C : List (Int × Int)) : Int := if hyF P C = 0 then 20 else if encLong P C then 1 else 0
theorem bodyB_len (P C : List (Int × Int)) : (bodyB P C).length = 8 + 5 * (P.length + C.length) := by
  unfold bodyB
  rw [List.length_append, List.length_append, List.length_append, be_length, be_length, enL_len, enL_len]
  omega

theorem WS.putPart {w0 w : World} {G : Nat → Prop} {a : Option Addr} {n c p : Nat} {bs : List Nat} {L : List (Int × Int)} (hw : WS w0 p bs 0 w) (h : Sl w0 G a n c L) (hG : ∀ k, G k → k < w0.heap.size) (hg : Slt.Goes L) (hsz : bs.length + 5 * n ≤ 140737488355300) :
    Calls Tryz.prog 29 #[.pointer (some ⟨p, 0, none⟩), .slice a n c] w fun e w' => e = .returned (.tuple #[]) ∧ WS w0 p (bs ++ enL L) 0 w' := by
  obtain ⟨F, hF, hlo, hB⟩ := hw
  refine (putPart_any w (h.keep (Kept.of_below hB)) (fun k hk => Nat.lt_of_lt_of_le (hG k hk) hB.size) hg hF (fun k hk hk' => by have := hG k hk; have := hlo k hk'; omega) hsz).mono ?_
  rintro e w' ⟨rfl, hd⟩
  exact ⟨rfl, WS.of hlo hB hd⟩
theorem WS.u32 {w0 w : World} {p : Nat} {bs : List Nat} (hw : WS w0 p bs 0 w) (n : Nat) (hn : n < 4294967296) (hsz : bs.length ≤ 140737488355300) :
    Calls Tryz.prog 28 #[.pointer (some ⟨p, 0, none⟩), .int .i64 n] w fun e w' => e = .returned (.tuple #[]) ∧ WS w0 p (bs ++ be n 4) 0 w' := by
  obtain ⟨F, hF, hlo, hB⟩ := hw
  have c1 := u32_any F p bs 0 n w hF hsz (by omega)
  obtain ⟨e1, e2⟩ := num_in (bs := bs) (x := n) (width := 4) (by omega) (by omega)
  rw [e1, e2] at c1
  refine c1.mono ?_
  rintro e w' ⟨rfl, hd⟩
  exact ⟨rfl, WS.of hlo hB hd⟩
theorem WS.done {w0 w : World} {p : Nat} {bs : List Nat} (hw : WS w0 p bs 0 w) (hsz : bs.length ≤ 140737488355300) :
    Calls Tryz.prog 30 #[.pointer (some ⟨p, 0, none⟩)] w fun e w' => ∃ a c, e = .returned (.tuple #[.slice a bs.length c, .int .i64 0]) ∧ Bs w' (fun k => w0.heap.size ≤ k) a bs.length c bs ∧ Below w0.heap.size w0 w' := by
  have hlt := hw.lt
  obtain ⟨F, hF, hlo, hB⟩ := hw
  refine (done_any F p bs 0 w hF (by omega)).mono ?_
  rintro e w' ⟨a, n, c, rfl, _, hk, ho⟩
  rw [if_pos rfl] at ho
  obtain ⟨a', c', ev, hb⟩ := Bs.of_owns ho hlt
  injection ev with e1 e2 e3
  subst e1 e2 e3
  refine ⟨a, c, rfl, hb.mono (fun k e => Nat.le_trans hB.size (ho.lt k e).1), hB.trans ?_⟩
  exact (hk.below hlo hB.size)

set_option maxHeartbeats 4000000 in
theorem encode_any {F G : Nat → Prop} {a0 a1 : Option Addr} {n0 c0 n1 c1 : Nat} {P C : List (Int × Int)} (w : World) (h : Sl w F a0 n0 c0 P) (hF : ∀ k, F k → k < w.heap.size) (h' : Sl w G a1 n1 c1 C) (hG : ∀ k, G k → k < w.heap.size) :
    Calls Tryz.prog 9 #[.agg #[.slice a0 n0 c0, .slice a1 n1 c1]] w fun e w' => ∃ a c, e = .returned (.tuple #[.slice a (encX P C).length c, .int .i64 (encE P C)]) ∧ w'.ownsRow w.heap.size 5 1 (.slice a (encX P C).length c) (encX P C).length ((encX P C).map bv) ∧ Kept No w w' := by
  have k1 : Kept No w (w.alloc (.cells #[.slice a0 n0 c0, .slice a1 n1 c1] 25)) := (Kept.refl No w).alloc _
  have hF1 : ∀ k, F k → k < (w.alloc (.cells #[.slice a0 n0 c0, .slice a1 n1 c1] 25)).heap.size := fun k hk => Nat.lt_of_lt_of_le (hF k hk) k1.size
  have hG1 : ∀ k, G k → k < (w.alloc (.cells #[.slice a0 n0 c0, .slice a1 n1 c1] 25)).heap.size := fun k hk => Nat.lt_of_lt_of_le (hG k hk) k1.size
  have hl := hyperOf_any _ (h.keep k1) hF1 (h'.keep k1) hG1
  have hb := World.alloc_heap_new w (.cells #[.slice a0 n0 c0, .slice a1 n1 c1] 25)
  have hlen := h.len
  have hlen' := h'.len
  have HA : Hid (Sl (w.alloc (.cells #[.slice a0 n0 c0, .slice a1 n1 c1] 25)) F a0 n0 c0 P ∧ (∀ k, F k → k < (w.alloc (.cells #[.slice a0 n0 c0, .slice a1 n1 c1] 25)).heap.size) ∧ Sl (w.alloc (.cells #[.slice a0 n0 c0, .slice a1 n1 c1] 25)) G a1 n1 c1 C ∧ (∀ k, G k → k < (w.alloc (.cells #[.slice a0 n0 c0, .slice a1 n1 c1] 25)).heap.size) ∧ Kept No w (w.alloc (.cells #[.slice a0 n0 c0, .slice a1 n1 c1] 25)) ∧ (w.alloc (.cells #[.slice a0 n0 c0, .slice a1 n1 c1] 25)).heap[w.heap.size]? = some (.cells #[.slice a0 n0 c0, .slice a1 n1 c1] 25)) := ⟨h.keep k1, hF1, h'.keep k1, hG1, k1, hb⟩
  obtain ⟨b0, b1⟩ := bx2 hb
  clear h h' hF hG k1 hF1 hG1 hb
  by_cases hy : hyF P C = 0
  · have eX : encX P C = [] := if_pos hy
    have eE : encE P C = 20 := if_pos hy
    rw [eX, eE]
    rw [hy] at hl
    clear eX eE hy
    go_enter Tryz.func9, Tryz.ntmps9
    go_wp2_with (go_at_call 18; refine hl.mono ?_; rintro e w1 ⟨rfl, hk1⟩; have H1 : Hid (Kept No w w1) := HA.out.2.2.2.2.1.trans hk1 (fun _ h => h.elim); clear hk1 hl b0 b1)
    go_ret2
    exact ⟨none, 0, rfl, World.ownsRow_nil _ _ _ _, H1.out⟩
  · have hT := (hyF_tab hy).1
    have HT : Hid (Slt.Goes P ∧ Slt.Goes C) := ⟨hT.p, hT.c⟩
    have hn0 : n0 ≤ 1048576 := by
      have := Slt.pr_bd (q := P.length) (Nat.le_refl _) hT.p
      omega
    have hn1 : n1 ≤ 1048576 := by
      have := Slt.pr_bd (q := C.length) (Nat.le_refl _) hT.c
      omega
    have hyz : ¬ hyF P C = 0 := hy
    have HX : Hid (encX P C = if encLong P C then [] else sealed 2 (bodyB P C)) := if_neg hy
    have HE : Hid (encE P C = if encLong P C then 1 else 0) := if_neg hy
    have hdef : encLong P C ↔ 4194304 < 20 + 5 * (P.length + C.length) := Iff.rfl
    rw [hlen, hlen'] at hdef
    rw [HX.out, HE.out]
    clear hT hy
    generalize hyF P C = H at *
    by_cases hlg : encLong P C
    · have hlz : (4194304 : Int) < 20 + 5 * ((n0 : Int) + n1) := by have := hdef.1 hlg; omega
      rw [if_pos hlg, if_pos hlg]
      clear hlg hdef
      go_enter Tryz.func9, Tryz.ntmps9
      go_wp2_with (go_at_call 18; refine hl.mono ?_; rintro e w1 ⟨rfl, hk1⟩; have H1 : Hid (Kept No w w1) := HA.out.2.2.2.2.1.trans hk1 (fun _ h => h.elim); have e0 := hk1.cell b0 (fun h => h); have e1 := hk1.cell b1 (fun h => h); clear hk1 hl b0 b1)
      go_ret2
      exact ⟨none, 0, rfl, World.ownsRow_nil _ _ _ _, H1.out⟩
    · have hlz : ¬ (4194304 : Int) < 20 + 5 * ((n0 : Int) + n1) := fun e => hlg (hdef.2 (by omega))
      rw [if_neg hlg, if_neg hlg]
      have HB : Hid (bodyB P C = [] ++ be n0 4 ++ be n1 4 ++ enL P ++ enL C) := by show _ = _; unfold bodyB; rw [hlen, hlen']; rfl
      have hbl : (enL P).length = 5 * n0 := by rw [enL_len, hlen]
      have hbl' : (enL C).length = 5 * n1 := by rw [enL_len, hlen']
      clear hlg hdef
      go_enter Tryz.func9, Tryz.ntmps9
      go_upto_region 5 with (go_at_call 18; refine hl.mono ?_; rintro e w1 ⟨rfl, hk1⟩; have H1 : Hid (Kept No w w1 ∧ Sl w1 F a0 n0 c0 P ∧ (∀ k, F k → k < w1.heap.size) ∧ Sl w1 G a1 n1 c1 C ∧ (∀ k, G k → k < w1.heap.size) ∧ w1.heap[w.heap.size]? = some (.cells #[.slice a0 n0 c0, .slice a1 n1 c1] 25)) := ⟨HA.out.2.2.2.2.1.trans hk1 (fun _ h => h.elim), HA.out.1.keep hk1, (fun k h => Nat.lt_of_lt_of_le (HA.out.2.1 k h) hk1.size), HA.out.2.2.1.keep hk1, (fun k h => Nat.lt_of_lt_of_le (HA.out.2.2.2.1 k h) hk1.size), hk1.at' HA.out.2.2.2.2.2 (fun h => h)⟩; have e0 := hk1.cell b0 (fun h => h); have e1 := hk1.cell b1 (fun h => h); clear hk1 hl b0 b1)
      clear e0 e1 HA
      have HC : Hid (∀ bs W, WS w1 w1.heap.size bs 0 W → W.cell? ⟨w.heap.size, 0, none⟩ = some (.slice a0 n0 c0) ∧ W.cell? ⟨w.heap.size, 1, none⟩ = some (.slice a1 n1 c1)) := fun bs W h => bx2 ((Kept.of_below (F := No) h.below).at' H1.out.2.2.2.2.2 (fun h => h))
      have nw := newWriter_any w1
      go_upto_region 6 with (go_at_call 27; refine nw.mono ?_; rintro e w2 ⟨rfl, hw2⟩; have s2 : WS w1 w1.heap.size [] 0 w2 := (by rw [hw2]; exact ws_new w1); clear nw hw2)
      obtain ⟨d0, d1⟩ := HC.out _ _ s2
      have q1 := s2.u32 n0 (by omega) (by simp)
      go_upto_region 7 with (go_at_call 28; refine q1.mono ?_; rintro e w3 ⟨rfl, s3⟩; clear q1 d0 d1 s2)
      obtain ⟨d0, d1⟩ := HC.out _ _ s3
      have q1 := s3.u32 n1 (by omega) (by rw [List.length_append, be_length]; simp)
      go_upto_region 8 with (go_at_call 28; refine q1.mono ?_; rintro e w4 ⟨rfl, s4⟩; clear q1 d0 d1 s3)
      obtain ⟨d0, d1⟩ := HC.out _ _ s4
      have q1 := s4.putPart H1.out.2.1 H1.out.2.2.1 HT.out.1 (by rw [List.length_append, List.length_append, be_length, be_length]; simp; omega)
      go_upto_region 9 with (go_at_call 29; refine q1.mono ?_; rintro e w5 ⟨rfl, s5⟩; clear q1 d0 d1 s4)
      obtain ⟨d0, d1⟩ := HC.out _ _ s5
      have q1 := s5.putPart H1.out.2.2.2.1 H1.out.2.2.2.2.1 HT.out.2 (by rw [List.length_append, List.length_append, List.length_append, be_length, be_length]; simp; omega)
      go_upto_region 10 with (go_at_call 29; refine q1.mono ?_; rintro e w6 ⟨rfl, s6⟩; clear q1 d0 d1 s5)
      rw [← HB.out] at s6
      have hbb : (bodyB P C).length ≤ 4194304 := by rw [bodyB_len]; omega
      have q1 := s6.done (by omega)
      go_upto_region 11 with (go_at_call 30; refine q1.mono ?_; rintro e w7 ⟨a7, c7, rfl, hb7, hB7⟩; clear q1 s6)
      have q1 := seal_any _ 2 a7 _ c7 _ w7 (by decide) hb7
      have eX : sealX 2 (bodyB P C) = sealed 2 (bodyB P C) := if_neg (by omega)
      have eE : sealE (bodyB P C) = 0 := if_neg (by omega)
      rw [eX, eE] at q1
      have H7 : Hid (Kept No w w7) := H1.out.1.trans (Kept.of_below (F := No) hB7) (fun _ h => h.elim)
      clear hb7 hB7 eX eE
      obtain ⟨X, hX⟩ : ∃ X, sealed 2 (bodyB P C) = X := ⟨_, rfl⟩
      rw [hX] at q1
      have HXX : Hid (sealed 2 (bodyB P C) = X) := hX
      clear hX
      go_wp2_with (go_at_call 31; refine q1.mono ?_; rintro e w8 ⟨a8, n8, c8, rfl, ho8, hB8⟩; clear q1)
      obtain rfl : n8 = X.length := by
        rcases ho8.2 with ⟨e1, e2⟩ | ⟨g, cap, cur, e1, _⟩
        · injection e1 with _ e1 _
          omega
        · injection e1 with _ e1 _
      have H8 : Hid (w8.ownsRow w.heap.size 5 1 (.slice a8 X.length c8) X.length (X.map bv) ∧ Kept No w w8) := ⟨owns_base ho8 H7.out.size, H7.out.trans (Kept.of_below (F := No) hB8) (fun _ h => h.elim)⟩
      clear ho8 hB8
      go_ret2
      have e := HXX.out
      subst e
      exact ⟨a8, c8, rfl, H8.out⟩
end Go.Proofs.YtkmpgcgdamcikaaGreatDoor

namespace Go.Proofs.YtkmpgcgdamcikaaGreatDoor
open Go.RowKit Go.Shelf Plain
set_option linter.unusedVariables false
set_option maxRecDepth 100000

theorem ru8_any (F : Nat → Prop) (p : Nat) (xs : List Nat) (e : Int) (w : World) (h : Rd w F p xs e) :
    Calls Tryz.prog 35 #[.pointer (some ⟨p, 0, none⟩)] w fun ex w' => ex = .returned (.int .i64 (rdN xs e 1)) ∧ RdDid F p (tkRest xs e 1) (tkE xs e 1) w w' := by
  have cc : Calls Tryz.prog 34 #[.pointer (some ⟨p, 0, none⟩), .int .i64 1] w fun ex w' => ex = .returned (.int .u64 (rdN xs e 1)) ∧ RdDid F p (tkRest xs e 1) (tkE xs e 1) w w' := rnumber_any F p xs e 1 w h (by omega)
  have hb := rdN_lt e 1 h.lt
  obtain ⟨x, hx⟩ : ∃ x, x = rdN xs e 1 := ⟨_, rfl⟩
  rw [← hx] at cc hb ⊢
  have e1 : IntKind.i64.wrap x = x := by rw [IntKind.wrap_i64]; omega
  clear h hb hx
  go_enter Tryz.func35, Tryz.ntmps35
  go_wp2_with (go_at_call 34; refine cc.mono ?_; rintro ex w1 ⟨rfl, hd⟩)
  go_ret
  exact ⟨rfl, hd⟩
theorem tk_in {xs : List Nat} {m : Nat} (h : m ≤ xs.length) : tkXs xs 0 m = xs.take m ∧ tkRest xs 0 m = xs.drop m ∧ tkE xs 0 m = 0 := by
  have ok : tkOk xs 0 m = true := by
    unfold tkOk
    simp
    omega
  refine ⟨?_, ?_, ?_⟩
  · unfold tkXs; rw [if_pos ok]; rfl
  · unfold tkRest; rw [if_pos ok]; rfl
  · unfold tkE; rw [if_neg (fun h => h rfl), if_pos ok]
theorem tk4 {xs : List Nat} (h : 4 ≤ xs.length) : rdN xs 0 4 = ((val (xs.take 4) : Nat) : Int) ∧ tkRest xs 0 4 = xs.drop 4 ∧ tkE xs 0 4 = 0 := by
  obtain ⟨t1, t2, t3⟩ := tk_in (m := 4) h
  exact ⟨by unfold rdN; rw [t1], t2, t3⟩
theorem tk1 {xs : List Nat} (h : 1 ≤ xs.length) : rdN xs 0 1 = ((val (xs.take 1) : Nat) : Int) ∧ tkRest xs 0 1 = xs.drop 1 ∧ tkE xs 0 1 = 0 := by
  obtain ⟨t1, t2, t3⟩ := tk_in (m := 1) h
  exact ⟨by unfold rdN; rw [t1], t2, t3⟩
/-- the slot at a place of bytes -/
def gp (xs : List Nat) (i : Nat) : Nat × Nat := (val ((xs.drop (5 * i)).take 4), val ((xs.drop (5 * i + 4)).take 1))
def gpL (xs : List Nat) (n : Nat) : List (Nat × Nat) := (List.range n).map (gp xs)
theorem gpL_succ (xs : List Nat) (n : Nat) : gpL xs (n + 1) = gpL xs n ++ [gp xs n] := by simp [gpL, List.range_succ]
theorem gpL_len (xs : List Nat) (n : Nat) : (gpL xs n).length = n := by simp [gpL]
/-- a half of a table that is its holder's -/
def Hp (w : World) (base : Nat) (a : Option Addr) (L : List (Nat × Nat)) : Prop := (a = none ∧ L = []) ∨ ∃ g, a = some ⟨g, 0, none⟩ ∧ Pt w base g L

theorem handOut_nil (w : World) : Calls Tryz.prog 36 #[.slice none 0 0] w fun e w' => e = .returned (.slice none 0 0) ∧ w' = w := by
  go_enter Tryz.func36, Tryz.ntmps36
  go_wp2
  go_ret
  exact ⟨rfl, rfl⟩
/-- what 'handOut' hands out -/
theorem handOut_ow {w0 w : World} {base : Nat} {v : Value} {L : List (Nat × Nat)} (h : Ow w base v L) :
    Calls Tryz.prog 36 #[v] w fun e w' => ∃ a, e = .returned (.slice a L.length L.length) ∧ Hp w' base a L ∧ w' = w := by
  by_cases hL : L = []
  · obtain ⟨a, c, e, hs⟩ := h.sl
    have hv : v = .slice none 0 0 ∨ ∃ g c, v = .slice (some ⟨g, 0, none⟩) 0 c ∧ c ≤ 9223372036854775807 := by
      rcases h.2 with ⟨h1, _⟩ | ⟨g, cap, cur, h1, _, _, _, hm, _⟩
      · exact .inl h1
      · subst hL
        exact .inr ⟨g, cap, h1, hm⟩
    subst hL
    rcases hv with rfl | ⟨g, c', rfl, hc⟩
    · exact (handOut_nil w).mono (fun e w' ⟨h1, h2⟩ => ⟨none, h1, .inl ⟨rfl, rfl⟩, h2⟩)
    · obtain ⟨g', c'', e1, _⟩ : ∃ g' c'', Value.slice (some ⟨g, 0, none⟩) 0 c' = .slice (some ⟨g', 0, none⟩) 0 c'' ∧ True := ⟨g, c', rfl, trivial⟩
      refine (handOut_any g 0 c' w (Nat.zero_le _) hc).mono (fun e w' ⟨h1, h2⟩ => ⟨some ⟨g, 0, none⟩, h1, .inr ⟨g, rfl, ?_⟩, h2⟩)
      subst h2
      exact ⟨⟨c', h⟩, (h.lt g rfl).1, (h.lt g rfl).2⟩
  · obtain ⟨g, c, rfl, h1, h2, h3⟩ := ow_some h hL
    refine (handOut_any g L.length c w h1 h2).mono (fun e w' ⟨h4, h5⟩ => ⟨_, h4, .inr ⟨g, rfl, ?_⟩, h5⟩)
    subst h5
    exact h3

set_option maxHeartbeats 4000000 in
theorem getPart_any {F : Nat → Prop} {p n : Nat} {xs : List Nat} (w : World) (h : Rd w F p xs 0) (hF : ∀ k, F k → k < w.heap.size) (hn : 5 * n ≤ xs.length) (hx : xs.length ≤ 4194316) :
    Calls Tryz.prog 16 #[.pointer (some ⟨p, 0, none⟩), .int .i64 n] w fun e w' => ∃ a, e = .returned (.slice a n n) ∧ Hp w' w.heap.size a (gpL xs n) ∧ Rd w' F p (xs.drop (5 * n)) 0 ∧ Kept (fun j => j = p) w w' := by
  obtain ⟨i0, hi, hz0, hz1, hz2⟩ := info_parts Tryz.infoSo
  have HR : Hid (Rd w F p xs 0 ∧ (∀ k, F k → k < w.heap.size)) := ⟨h, hF⟩
  have hpl : p < w.heap.size := by obtain ⟨a, n, c, hv⟩ := h; exact hv.plt
  clear h hF
  go_enter Tryz.func16, Tryz.ntmps16
  go_wp2
  go_loopw [5, 8] (fun v x wr => ∃ k : Nat, x = .int .i64 k ∧ k ≤ n ∧ Rd wr F p (xs.drop (5 * k)) 0 ∧ Ow wr w.heap.size v (gpL xs k) ∧ Kept (fun j => j = p) w wr) (fun _ x _ => n - (intOf x).toNat)
  case atStart => exact ⟨0, rfl, Nat.zero_le _, HR.out.1, ⟨rfl, .inl ⟨rfl, rfl⟩⟩, Kept.refl _ _⟩
  case round =>
    obtain ⟨k, rfl, hk, hrd, how, hkr⟩ := hrel
    by_cases hlt : k < n
    · have hltz : (k : Int) < (n : Int) := by omega
      have hl1 : 4 ≤ (xs.drop (5 * k)).length := by rw [List.length_drop]; omega
      have c1 := ru32_any F p _ 0 wr hrd
      obtain ⟨t1, t2, t3⟩ := tk4 hl1
      have hN : rdN (xs.drop (5 * k)) 0 4 = ((gp xs k).1 : Nat) := t1
      rw [t2, t3, hN] at c1
      have hb1 : ((gp xs k).1 : Int) < 4294967296 := by
        have := rdN_lt 0 4 hrd.lt
        rw [hN] at this
        omega
      have HO : Hid (Ow wr w.heap.size u5 (gpL xs k) ∧ Kept (fun j => j = p) w wr) := ⟨how, hkr⟩
      clear hrd how hkr t1 t2 t3 hN
      have hd4 : (xs.drop (5 * k)).drop 4 = xs.drop (5 * k + 4) := by rw [List.drop_drop]
      rw [hd4] at c1
      go_upto_region 5 with (go_at_call 14; refine c1.mono ?_; rintro e w1 ⟨rfl, hd1⟩; clear c1)
      have hl2 : 1 ≤ (xs.drop (5 * k + 4)).length := by rw [List.length_drop]; omega
      have c2 := ru8_any F p _ 0 w1 hd1.1
      obtain ⟨t1, t2, t3⟩ := tk1 hl2
      have hN : rdN (xs.drop (5 * k + 4)) 0 1 = ((gp xs k).2 : Nat) := t1
      rw [t2, t3, hN] at c2
      have hb2 : ((gp xs k).2 : Int) < 256 := by
        have := rdN_lt 0 1 hd1.1.lt
        rw [hN] at this
        omega
      have hd5 : (xs.drop (5 * k + 4)).drop 1 = xs.drop (5 * (k + 1)) := by rw [List.drop_drop]; rfl
      rw [hd5] at c2
      have HG : Hid (gpL xs (k + 1) = gpL xs k ++ [((gp xs k).1, (gp xs k).2)]) := gpL_succ xs k
      have hlen := gpL_len xs k
      have H1 : Hid (Ow w1 w.heap.size u5 (gpL xs k) ∧ Kept (fun j => j = p) w w1) := ⟨hd1.2.owns HO.out.1 (fun b e e' => by have := (HO.out.1.lt b e).1; omega), HO.out.2.trans hd1.2 (fun _ h => .inl h)⟩
      clear t1 t2 t3 hN hd1 HO hd4 hd5
      generalize (gp xs k).1 = y1 at *
      generalize (gp xs k).2 = y2 at *
      generalize gpL xs k = Z at *
      go_wp2_with (first
        | (go_at_call 35; refine c2.mono ?_; rintro e w2 ⟨rfl, hd2⟩; have H2 : Hid (Ow w2 w.heap.size u5 Z ∧ Kept (fun j => j = p) w w2 ∧ Rd w2 F p (xs.drop (5 * (k + 1))) 0) := ⟨hd2.2.owns H1.out.1 (fun b e e' => by have := (H1.out.1.lt b e).1; omega), H1.out.2.trans hd2.2 (fun _ h => .inl h), hd2.1⟩; clear hd2 c2 H1)
        | (at_builtin; refine wpList_append_own_at _ rfl _ _ 23 rfl w.heap.size 62 i0 (.agg #[.int .i64 0, .int .i64 0]) 2 16 Tryz.underlying23 hi hz0 hz1 hz2 rfl (by decide) _ _ _ rfl (H2.out.1.alloc _) ⟨w2.heap.size, 0, none⟩ 1 1 (slL [(y1, y2)]) rfl rfl (cell_two w2 y1 y2 _) (slL_one _) (by unfold maxLen; omega) (by omega) (by have := H2.out.2.1.size; rw [World.size_alloc]; omega) ?_; intro v9 w10 own10 grow10 _ at10))
      have HN : Hid (Rd w10 F p (xs.drop (5 * (k + 1))) 0 ∧ Ow w10 w.heap.size v9 (gpL xs (k + 1)) ∧ Kept (fun j => j = p) w w10) := by
        have kg : Kept (fun b => w.heap.size ≤ b) w2 w10 := ((Kept.refl _ w2).alloc _).grown grow10 (fun b e => .inl (H2.out.1.lt b e).1)
        refine ⟨H2.out.2.2.kept kg (fun b h1 h2 => by have := HR.out.2 b h1; omega), ?_, H2.out.2.1.trans kg (fun b h => .inr h)⟩
        unfold Ow
        rw [HG.out, slL_app, List.length_append]
        exact own10
      clear own10 grow10 at10
      go_wp2
      go_roundw
      case rel => exact ⟨k + 1, by go_num, by omega, HN.out⟩
      case measure => simp [intOf]; omega
    · have hltz : ¬ (k : Int) < (n : Int) := by omega
      obtain rfl : k = n := by omega
      have ho := handOut_ow (w0 := w) how
      rw [gpL_len] at ho
      have H1 : Hid (Rd wr F p (xs.drop (5 * k)) 0 ∧ Kept (fun j => j = p) w wr) := ⟨hrd, hkr⟩
      clear hk how hrd hkr
      go_wp2_with (go_at_call 36; refine ho.mono ?_; rintro e w1 ⟨a, rfl, hp, rfl⟩; have H2 : Hid (Hp w1 w.heap.size a (gpL xs k)) := hp; clear hp ho)
      go_ret
      exact ⟨a, rfl, H2.out, H1.out⟩
end Go.Proofs.YtkmpgcgdamcikaaGreatDoor

namespace Go.Proofs.YtkmpgcgdamcikaaGreatDoor
open Go.RowKit Go.Shelf Plain
set_option linter.unusedVariables false
set_option maxRecDepth 100000

theorem tab_fz2 {w : World} {T : Nat} {X Y : Value} {t : TypeId} (h : w.heap[T]? = some (.cells #[X, Y] t)) : ∀ k, w.frozen? ⟨T, k, none⟩ = false := fun k => by simp [World.frozen?, h]
theorem put_k2 (W : World) (T : Nat) (X Y : Value) : Kept (fun b => b = T) W ((W.setCell ⟨T, 0, none⟩ X).setCell ⟨T, 1, none⟩ Y) := Kept.setCell (F := fun k => k = T) (p := ⟨T, 1, none⟩) (Kept.setCell (F := fun k => k = T) (p := ⟨T, 0, none⟩) (Kept.refl _ W) (.inl rfl) _) (.inl rfl) _
def nP (ys : List Nat) : Nat := val (ys.take 4)
def nC (ys : List Nat) : Nat := val ((ys.drop 4).take 4)
def rP (ys : List Nat) : List (Nat × Nat) := gpL (ys.drop 8) (nP ys)
def rC (ys : List Nat) : List (Nat × Nat) := gpL ((ys.drop 8).drop (5 * nP ys)) (nC ys)

theorem Hp.sl {w : World} {base : Nat} {a : Option Addr} {L : List (Nat × Nat)} (h : Hp w base a L) (hl : L.length ≤ 2097152) : Sl w (fun k => base ≤ k ∧ k < w.heap.size) a L.length L.length (zl L) := by
  rcases h with ⟨rfl, rfl⟩ | ⟨g, rfl, hp⟩
  · exact sl_nil _ _
  · exact hp.tb (Nat.le_refl _) (by omega)
theorem Hp.kept {w w' : World} {base : Nat} {a : Option Addr} {L : List (Nat × Nat)} {G : Nat → Prop} (h : Hp w base a L) (k : Kept G w w') (hG : ∀ b, base ≤ b → ¬ G b) : Hp w' base a L := by
  rcases h with h | ⟨g, rfl, hp⟩
  · exact .inl h
  · exact .inr ⟨g, rfl, hp.kept k (hG g hp.lo)⟩
theorem Hp.base {w : World} {base base' : Nat} {a : Option Addr} {L : List (Nat × Nat)} (h : Hp w base a L) (hb : base' ≤ base) : Hp w base' a L := by
  rcases h with h | ⟨g, rfl, ⟨c, h1⟩, h2, h3⟩
  · exact .inl h
  · exact .inr ⟨g, rfl, ⟨c, ow_base h1 hb⟩, by omega, h3⟩
theorem hp_tw {w : World} {base mid : Nat} {a0 a1 : Option Addr} {P C : List (Nat × Nat)} (h0 : Hp w base a0 P) (h1 : Hp w mid a1 C) (hm : ∀ k, Blk a0 k → k < mid) (hb : base ≤ mid) (hp : P.length ≤ 2097152) (hc : C.length ≤ 2097152) :
    Tq w base w.heap.size a0 P.length a1 C.length P C ∧ Wq w base w.heap.size a0 a1 P.length C.length := by
  have h1' := h1.base hb
  refine ⟨⟨h0.sl hp, h1'.sl hc⟩, ?_, ?_, fun k e => ?_, fun k e => ?_, fun k e e' => ?_⟩
  · rcases h0 with ⟨rfl, rfl⟩ | ⟨g, rfl, hp⟩
    · exact ⟨_, rs_nil _⟩
    · exact hp.rs
  · rcases h1 with ⟨rfl, rfl⟩ | ⟨g, rfl, hp⟩
    · exact ⟨_, rs_nil _⟩
    · exact hp.rs
  · rcases h0 with ⟨rfl, rfl⟩ | ⟨g, rfl, hp⟩
    · cases e
    · injection e with e; injection e with e _ _; subst e; exact ⟨hp.lo, hp.hi⟩
  · rcases h1 with ⟨rfl, rfl⟩ | ⟨g, rfl, hp⟩
    · cases e
    · injection e with e; injection e with e _ _; subst e; exact ⟨Nat.le_trans hb hp.lo, hp.hi⟩
  · have := hm k e
    rcases h1 with ⟨rfl, rfl⟩ | ⟨g, rfl, hp⟩
    · cases e'
    · injection e' with e'; injection e' with e' _ _; subst e'
      have := hp.lo
      omega

set_option maxHeartbeats 2000000 in
theorem decode_long {F : Nat → Prop} {a : Option Addr} {n c : Nat} {xs : List Nat} (w : World) (h : Bs w F a n c xs) (hl : 4194304 < n) :
    Calls Tryz.prog 4 #[.slice a n c] w fun e w' => e = .returned (.tuple #[.agg #[.slice none 0 0, .slice none 0 0], .int .i64 1]) ∧ Kept No w w' := by
  have hlz : (4194304 : Int) < n := by omega
  have hn : n ≤ 9223372036854775807 := Nat.le_trans h.cap h.max
  have ka : Kept No w (w.alloc (.cells #[.slice none 0 0, .slice none 0 0] 25)) := (Kept.refl No w).alloc _
  have hb := World.alloc_heap_new w (.cells #[.slice none 0 0, .slice none 0 0] 25)
  have HA : Hid (Kept No w (w.alloc (.cells #[.slice none 0 0, .slice none 0 0] 25)) ∧ (w.alloc (.cells #[.slice none 0 0, .slice none 0 0] 25)).heap[w.heap.size]? = some (.cells #[.slice none 0 0, .slice none 0 0] 25)) := ⟨ka, hb⟩
  obtain ⟨t0, t1⟩ := bx2 hb
  have tf := tab_fz2 hb
  clear h ka hb
  go_enter Tryz.func4, Tryz.ntmps4
  go_wp2
  clear t0 t1 tf
  refine bodyPost_ret (results_ct rfl _ _ w.heap.size (.agg #[.slice none 0 0, .slice none 0 0]) rfl (ldT HA.out.2)) rfl ?_
  exact ⟨rfl, HA.out.1⟩

theorem uns_lt {kind : Nat} {xs : List Nat} (h : ∀ x ∈ xs, x < 256) : ∀ x ∈ unsX kind xs, x < 256 := by
  intro x hx
  unfold unsX at hx
  split at hx
  · unfold inner at hx
    exact h x (List.mem_of_mem_drop (List.mem_of_mem_take hx))
  · cases hx
theorem uns_len (kind : Nat) (xs : List Nat) : (unsX kind xs).length ≤ xs.length := by
  unfold unsX
  split
  · unfold inner
    rw [List.length_take, List.length_drop]
    omega
  · exact Nat.zero_le _
/-- Unseal, as bytes that are read -/
theorem unseal_bs {G : Nat → Prop} {a : Option Addr} {n c : Nat} {xs : List Nat} (w : World) (h : Bs w G a n c xs) :
    Calls Tryz.prog 12 #[.int .u8 2, .slice a n c] w fun ex w' => ∃ a' c', ex = .returned (.tuple #[.slice a' (unsX 2 xs).length c', .int .i64 (unsE 2 xs)]) ∧ Bs w' (fun k => w.heap.size ≤ k ∧ k < w'.heap.size) a' (unsX 2 xs).length c' (unsX 2 xs) ∧ Kept No w w' := by
  have hlt := uns_lt (kind := 2) h.lt
  refine (unseal_any G 2 a n c xs w (by decide) h).mono ?_
  rintro ex w' ⟨a', n', c', rfl, ho, hB⟩
  obtain ⟨a2, c2, ev, hb⟩ := Bs.of_owns ho hlt
  injection ev with e1 e2 e3
  subst e1 e2 e3
  exact ⟨_, _, rfl, hb.mono (fun k e => ho.lt k e), Kept.of_below hB⟩

set_option maxHeartbeats 2000000 in
theorem decode_form {F : Nat → Prop} {a : Option Addr} {n c : Nat} {xs : List Nat} (w : World) (h : Bs w F a n c xs) (hl : n ≤ 4194304) (hu : unsE 2 xs ≠ 0) :
    Calls Tryz.prog 4 #[.slice a n c] w fun e w' => e = .returned (.tuple #[.agg #[.slice none 0 0, .slice none 0 0], .int .i64 20]) ∧ Kept No w w' := by
  have hlz : ¬ (4194304 : Int) < n := by omega
  have ka : Kept No w (w.alloc (.cells #[.slice none 0 0, .slice none 0 0] 25)) := (Kept.refl No w).alloc _
  have hb := World.alloc_heap_new w (.cells #[.slice none 0 0, .slice none 0 0] 25)
  have HA : Hid (Kept No w (w.alloc (.cells #[.slice none 0 0, .slice none 0 0] 25)) ∧ (w.alloc (.cells #[.slice none 0 0, .slice none 0 0] 25)).heap[w.heap.size]? = some (.cells #[.slice none 0 0, .slice none 0 0] 25)) := ⟨ka, hb⟩
  have u1 := unseal_bs _ (h.kept ka (fun _ _ h => h))
  have HU : Hid (∃ E, unsE 2 xs = E) := ⟨_, rfl⟩
  obtain ⟨E, hE⟩ := HU.out
  rw [hE] at u1 hu
  clear h ka hb HU hE
  go_enter Tryz.func4, Tryz.ntmps4
  go_wp2_with (go_at_call 12; refine u1.mono ?_; rintro e w1 ⟨a1, c1, rfl, hb1, hk1⟩; have H1 : Hid (Kept No w w1 ∧ w1.heap[w.heap.size]? = some (.cells #[.slice none 0 0, .slice none 0 0] 25)) := ⟨HA.out.1.trans hk1 (fun _ h => h.elim), hk1.at' HA.out.2 (fun h => h)⟩; clear hk1 u1 hb1; obtain ⟨t0, t1⟩ := bx2 H1.out.2; have tf := tab_fz2 H1.out.2)
  clear t0 t1 tf
  refine bodyPost_ret (results_ct rfl _ _ w.heap.size (.agg #[.slice none 0 0, .slice none 0 0]) rfl (ldT (set2T H1.out.2 _ _))) rfl ?_
  have kx : Kept (fun k => k = w.heap.size) w1 ((w1.setCell ⟨w.heap.size, 0, none⟩ (.slice none 0 0)).setCell ⟨w.heap.size, 1, none⟩ (.slice none 0 0)) := Kept.setCell (F := fun k => k = w.heap.size) (p := ⟨w.heap.size, 1, none⟩) (Kept.setCell (F := fun k => k = w.heap.size) (p := ⟨w.heap.size, 0, none⟩) (Kept.refl _ w1) (.inl rfl) _) (.inl rfl) _
  exact ⟨rfl, H1.out.1.trans kx (fun k e => .inr (by omega))⟩

theorem Tq.wide {w : World} {lo hi lo' hi' : Nat} {a0 a1 : Option Addr} {c0 c1 : Nat} {P C : List (Nat × Nat)} (h : Tq w lo hi a0 c0 a1 c1 P C) (h1 : lo' ≤ lo) (h2 : hi ≤ hi') : Tq w lo' hi' a0 c0 a1 c1 P C :=
  ⟨h.p.mono (fun k hk => ⟨by omega, by omega⟩), h.c.mono (fun k hk => ⟨by omega, by omega⟩)⟩
theorem Wq.kept {w w' : World} {lo hi : Nat} {a0 a1 : Option Addr} {n0 n1 : Nat} {G : Nat → Prop} (h : Wq w lo hi a0 a1 n0 n1) (k : Kept G w w') (hG : ∀ b, lo ≤ b → b < hi → ¬ G b) : Wq w' lo hi a0 a1 n0 n1 := by
  obtain ⟨⟨f, hf⟩, ⟨g, hg⟩, h1, h2, h3⟩ := h
  exact ⟨⟨f, hf.kept k (fun b hb => hG b (h1 b hb).1 (h1 b hb).2)⟩, ⟨g, hg.kept k (fun b hb => hG b (h2 b hb).1 (h2 b hb).2)⟩, h1, h2, h3⟩
theorem Wq.wide {w : World} {lo hi lo' hi' : Nat} {a0 a1 : Option Addr} {n0 n1 : Nat} (h : Wq w lo hi a0 a1 n0 n1) (h1 : lo' ≤ lo) (h2 : hi ≤ hi') : Wq w lo' hi' a0 a1 n0 n1 :=
  ⟨h.p, h.c, fun k e => by have := h.b0 k e; omega, fun k e => by have := h.b1 k e; omega, h.dis⟩

def dOk (ys : List Nat) : Prop := ys.length = 8 + 5 * (nP ys + nC ys) ∧ hyF (zl (rP ys)) (zl (rC ys)) ≠ 0
theorem nP_lt {ys : List Nat} (h : ∀ x ∈ ys, x < 256) : nP ys < 4294967296 := by
  have := val_lt (ys.take 4) (fun x hx => h x (List.mem_of_mem_take hx)) (ys.take 4).length (Nat.le_refl _)
  rw [List.take_length] at this
  have h2 : (ys.take 4).length ≤ 4 := by rw [List.length_take]; omega
  have h3 : 256 ^ (ys.take 4).length ≤ 256 ^ 4 := Nat.pow_le_pow_right (by decide) h2
  unfold nP
  omega

set_option maxHeartbeats 8000000 in
theorem decode_read {F : Nat → Prop} {a : Option Addr} {n c : Nat} {xs : List Nat} (w : World) (h : Bs w F a n c xs) (hl : n ≤ 4194304) (hu : unsE 2 xs = 0) (h8 : 8 ≤ (unsX 2 xs).length) (h5 : 5 * (nP (unsX 2 xs) + nC (unsX 2 xs)) ≤ (unsX 2 xs).length - 8) :
    Calls Tryz.prog 4 #[.slice a n c] w fun e w' => ((dOk (unsX 2 xs) ∧ ∃ a0 a1, e = .returned (.tuple #[.agg #[.slice a0 (nP (unsX 2 xs)) (nP (unsX 2 xs)), .slice a1 (nC (unsX 2 xs)) (nC (unsX 2 xs))], .int .i64 0]) ∧ Tq w' w.heap.size w'.heap.size a0 (nP (unsX 2 xs)) a1 (nC (unsX 2 xs)) (rP (unsX 2 xs)) (rC (unsX 2 xs)) ∧ Wq w' w.heap.size w'.heap.size a0 a1 (nP (unsX 2 xs)) (nC (unsX 2 xs))) ∨ (¬ dOk (unsX 2 xs) ∧ e = .returned (.tuple #[.agg #[.slice none 0 0, .slice none 0 0], .int .i64 20]))) ∧ Kept No w w' := by
  have hlz : ¬ (4194304 : Int) < n := by omega
  have ka : Kept No w (w.alloc (.cells #[.slice none 0 0, .slice none 0 0] 25)) := (Kept.refl No w).alloc _
  have hb := World.alloc_heap_new w (.cells #[.slice none 0 0, .slice none 0 0] 25)
  have HA : Hid (Kept No w (w.alloc (.cells #[.slice none 0 0, .slice none 0 0] 25)) ∧ (w.alloc (.cells #[.slice none 0 0, .slice none 0 0] 25)).heap[w.heap.size]? = some (.cells #[.slice none 0 0, .slice none 0 0] 25)) := ⟨ka, hb⟩
  have u1 := unseal_bs _ (h.kept ka (fun _ _ h => h))
  rw [hu] at u1
  have hxl := uns_len 2 xs
  rw [h.len] at hxl
  have hlt := uns_lt (kind := 2) h.lt
  clear h ka hb hu
  generalize unsX 2 xs = ys at *
  have hP : rP ys = gpL (ys.drop 8) (nP ys) := rfl
  have hC : rC ys = gpL ((ys.drop 8).drop (5 * nP ys)) (nC ys) := rfl
  have HLN : Hid ((rP ys).length = nP ys ∧ (rC ys).length = nC ys) := ⟨gpL_len _ _, gpL_len _ _⟩
  have hd8 : (ys.drop 8).length = ys.length - 8 := List.length_drop
  have hdz : ((ys.drop 8).drop (5 * nP ys)).length = ys.length - 8 - 5 * nP ys := by rw [List.length_drop, hd8]
  have HOK : Hid (dOk ys ↔ ((ys.drop 8).drop (5 * nP ys)).drop (5 * nC ys) = [] ∧ hyF (zl (rP ys)) (zl (rC ys)) ≠ 0) := by
    show _ ↔ _
    unfold dOk
    rw [List.drop_eq_nil_iff, hdz]
    constructor
    · rintro ⟨e1, e2⟩; exact ⟨by omega, e2⟩
    · rintro ⟨e1, e2⟩; exact ⟨by omega, e2⟩
  obtain ⟨t1, t2, t3⟩ := tk4 (xs := ys) (by omega)
  obtain ⟨t4, t5, t6⟩ := tk4 (xs := ys.drop 4) (by rw [List.length_drop]; omega)
  rw [List.drop_drop] at t5
  have v1 : rdN ys 0 4 = (nP ys : Nat) := t1
  have v2 : rdN (ys.drop 4) 0 4 = (nC ys : Nat) := t4
  have HT : Hid (rdN ys 0 4 = (nP ys : Nat) ∧ tkRest ys 0 4 = ys.drop 4 ∧ tkE ys 0 4 = 0 ∧ rdN (ys.drop 4) 0 4 = (nC ys : Nat) ∧ tkRest (ys.drop 4) 0 4 = ys.drop 8 ∧ tkE (ys.drop 4) 0 4 = 0) := ⟨t1, t2, t3, t4, t5, t6⟩
  clear t1 t2 t3 t4 t5 t6 v1 v2
  go_enter Tryz.func4, Tryz.ntmps4
  go_upto_region 6 with (go_at_call 12; refine u1.mono ?_; rintro e w1 ⟨a1, c1, rfl, hb1, hk1⟩; have H1 : Hid (Kept No w w1 ∧ w1.heap[w.heap.size]? = some (.cells #[.slice none 0 0, .slice none 0 0] 25)) := ⟨HA.out.1.trans hk1 (fun _ h => h.elim), hk1.at' HA.out.2 (fun h => h)⟩; clear hk1 u1)
  have q1 := newReader_any _ a1 _ c1 ys w1 hb1 (by omega)
  clear hb1
  go_upto_region 7 with (go_at_call 13; refine q1.mono ?_; rintro e w2 ⟨p, rfl, hr2, hB2⟩; clear q1)
  have hB2' : Kept No w1 w2 := Kept.of_below hB2
  have hpp : w1.heap.size ≤ p ∧ p < w2.heap.size := by obtain ⟨_, _, _, hv⟩ := hr2; exact hv.fp
  have q1 := ru32_any _ p ys 0 w2 hr2
  rw [HT.out.1, HT.out.2.1, HT.out.2.2.1] at q1
  have H2 : Hid (Kept No w w2 ∧ w2.heap[w.heap.size]? = some (.cells #[.slice none 0 0, .slice none 0 0] 25) ∧ w.heap.size < w1.heap.size) := ⟨H1.out.1.trans hB2' (fun _ h => h.elim), hB2'.at' H1.out.2 (fun h => h), heap_lt H1.out.2⟩
  clear hr2 hB2 hB2'
  go_upto_region 8 with (first
    | (go_at_call 14; refine q1.mono ?_; rintro e w3 ⟨rfl, hr3⟩; have q2 := ru32_any _ p (ys.drop 4) 0 w3 hr3.1; rw [HT.out.2.2.2.1, HT.out.2.2.2.2.1, HT.out.2.2.2.2.2] at q2; clear q1)
    | (go_at_call 14; refine q2.mono ?_; rintro e w4 ⟨rfl, hr4⟩; clear q2))
  have k4 : Kept (fun j => j = p) w2 w4 := hr3.2.trans hr4.2 (fun _ h => .inl h)
  have H4 : Hid (Kept No w w4 ∧ w4.heap[w.heap.size]? = some (.cells #[.slice none 0 0, .slice none 0 0] 25) ∧ Rd w4 (fun k => w1.heap.size ≤ k ∧ k < w2.heap.size) p (ys.drop 8) 0 ∧ w2.heap.size ≤ w4.heap.size) := ⟨H2.out.1.trans k4 (fun b e => .inr (by have := H2.out.2.2; omega)), k4.at' H2.out.2.1 (fun e => by have := H2.out.2.2; omega), hr4.1, k4.size⟩
  clear hr3 hr4 k4 H2
  have q1 := left_any _ p _ 0 w4 H4.out.2.2.1
  rw [hd8] at q1
  have z1 : ¬ ((ys.length - 8 : Nat) : Int) < 5 * ((nP ys : Int) + (nC ys : Int)) := by omega
  have hlo : w.heap.size < w1.heap.size := heap_lt H1.out.2
  clear H1
  have g1 := getPart_any (n := nP ys) w4 H4.out.2.2.1 (fun k hk => by have := H4.out.2.2.2; omega) (by omega) (by omega)
  rw [← hP] at g1
  have hn1 : nP ys ≤ 2097152 := by omega
  have hn2 : nC ys ≤ 2097152 := by omega
  have z2 : ((nP ys : Nat) : Int) ≤ 2097152 := by omega
  have z3 : ((nC ys : Nat) : Int) ≤ 2097152 := by omega
  go_upto_region 10 with (go_at_call 15; refine q1.mono ?_; rintro e w5 ⟨rfl, rfl⟩; clear q1)
  go_upto_region 11 with (first
    | (go_at_call 16; refine g1.mono ?_; rintro e w6 ⟨b0, rfl, hp6, hr6, hk6⟩; have g2 := getPart_any (n := nC ys) w6 hr6 (fun k hk => by have := H4.out.2.2.2; have := hk6.size; omega) (by omega) (by omega); rw [← hC] at g2; clear g1)
    | (go_at_call 16; refine g2.mono ?_; rintro e w7 ⟨b1, rfl, hp7, hr7, hk7⟩; clear g2))
  have kk : Kept (fun j => j = p) w5 w7 := hk6.trans hk7 (fun _ h => .inl h)
  have H7 : Hid (Kept No w w7 ∧ w7.heap[w.heap.size]? = some (.cells #[.slice none 0 0, .slice none 0 0] 25) ∧ Rd w7 (fun k => w1.heap.size ≤ k ∧ k < w2.heap.size) p (((ys.drop 8).drop (5 * nP ys)).drop (5 * nC ys)) 0 ∧ Hp w7 w5.heap.size b0 (rP ys) ∧ Hp w7 w6.heap.size b1 (rC ys) ∧ w5.heap.size ≤ w6.heap.size ∧ w2.heap.size ≤ w5.heap.size ∧ (∀ k, Blk b0 k → k < w6.heap.size)) :=
    ⟨H4.out.1.trans kk (fun b e => .inr (by omega)), kk.at' H4.out.2.1 (fun e => by omega), hr7, hp6.kept hk7 (fun b hb e => by have := H4.out.2.2.2; omega), hp7, hk6.size, H4.out.2.2.2, fun k e => by
      rcases hp6 with ⟨rfl, _⟩ | ⟨g, rfl, hp⟩
      · cases e
      · injection e with e; injection e with e _ _; subst e; exact hp.hi⟩
  clear hk6 hk7 hr6 hr7 hp6 hp7 kk H4
  have ka : Kept No w7 (w7.alloc (.cells #[.slice b0 (nP ys) (nP ys), .slice b1 (nC ys) (nC ys)] 25)) := (Kept.refl No w7).alloc _
  obtain ⟨tq, wq⟩ := hp_tw (w := w7.alloc (.cells #[.slice b0 (nP ys) (nP ys), .slice b1 (nC ys) (nC ys)] 25)) (H7.out.2.2.2.1.kept ka (fun _ _ h => h)) (H7.out.2.2.2.2.1.kept ka (fun _ _ h => h)) H7.out.2.2.2.2.2.2.2 H7.out.2.2.2.2.2.1 (by rw [HLN.out.1]; omega) (by rw [HLN.out.2]; omega)
  rw [HLN.out.1, HLN.out.2] at tq wq
  have H8 : Hid (Kept No w (w7.alloc (.cells #[.slice b0 (nP ys) (nP ys), .slice b1 (nC ys) (nC ys)] 25)) ∧ (w7.alloc (.cells #[.slice b0 (nP ys) (nP ys), .slice b1 (nC ys) (nC ys)] 25)).heap[w.heap.size]? = some (.cells #[.slice none 0 0, .slice none 0 0] 25) ∧ (w7.alloc (.cells #[.slice b0 (nP ys) (nP ys), .slice b1 (nC ys) (nC ys)] 25)).heap[w7.heap.size]? = some (.cells #[.slice b0 (nP ys) (nP ys), .slice b1 (nC ys) (nC ys)] 25) ∧ Tq (w7.alloc (.cells #[.slice b0 (nP ys) (nP ys), .slice b1 (nC ys) (nC ys)] 25)) w5.heap.size (w7.alloc (.cells #[.slice b0 (nP ys) (nP ys), .slice b1 (nC ys) (nC ys)] 25)).heap.size b0 (nP ys) b1 (nC ys) (rP ys) (rC ys) ∧ Wq (w7.alloc (.cells #[.slice b0 (nP ys) (nP ys), .slice b1 (nC ys) (nC ys)] 25)) w5.heap.size (w7.alloc (.cells #[.slice b0 (nP ys) (nP ys), .slice b1 (nC ys) (nC ys)] 25)).heap.size b0 b1 (nP ys) (nC ys) ∧ w.heap.size < w5.heap.size) := ⟨H7.out.1.trans ka (fun _ h => h.elim), ka.at' H7.out.2.1 (fun h => h), World.alloc_heap_new _ _, tq, wq, by have := H7.out.2.2.2.2.2.2.1; omega⟩
  have rd := rdone_any _ p _ 0 _ (H7.out.2.2.1.kept ka (fun _ _ h => h))
  obtain ⟨d0, d1⟩ := bx2 H8.out.2.2.1
  clear tq wq ka H7
  generalize (w7.alloc (.cells #[.slice b0 (nP ys) (nP ys), .slice b1 (nC ys) (nC ys)] 25)) = w8 at *
  generalize w7.heap.size = B9 at *
  by_cases hR : ((ys.drop 8).drop (5 * nP ys)).drop (5 * nC ys) = []
  · have hdn : rdDone (((ys.drop 8).drop (5 * nP ys)).drop (5 * nC ys)) 0 = 0 := by unfold rdDone; rw [if_neg (fun h => h rfl), if_pos hR]
    rw [hdn] at rd
    clear hdn
    have HY : Hid (∀ k, Calls Tryz.prog 18 #[.agg #[.slice b0 (nP ys) (nP ys), .slice b1 (nC ys) (nC ys)]] (w8.drewN k) fun e w' => e = .returned (.int .i64 (hyF (zl (rP ys)) (zl (rC ys)))) ∧ Kept No w8 w') := fun k => by
      have kd : Kept No w8 (w8.drewN k) := (Kept.refl No w8).drewN k
      have t := H8.out.2.2.2.1.keep kd
      have tp := t.p
      have tc := t.c
      rw [HLN.out.1] at tp
      rw [HLN.out.2] at tc
      exact (hyperOf_any _ tp (fun k h => h.2) tc (fun k h => h.2)).mono (fun e w' ⟨e1, k1⟩ => ⟨e1, kd.trans k1 (fun _ h => h.elim)⟩)
    by_cases hy : hyF (zl (rP ys)) (zl (rC ys)) = 0
    · have HN : Hid (¬ dOk ys) := fun h => (HOK.out.1 h).2 hy
      rw [hy] at HY
      clear hR hy
      go_wp2_with (first
        | (go_at_call 17; refine rd.mono ?_; rintro e w9 ⟨rfl, kn, rfl⟩; have hh := HY.out kn; clear rd)
        | (go_at_call 18; refine hh.mono ?_; rintro e w10 ⟨rfl, hk10⟩; have H10 : Hid (Kept No w w10 ∧ w10.heap[w.heap.size]? = some (.cells #[.slice none 0 0, .slice none 0 0] 25)) := ⟨H8.out.1.trans hk10 (fun _ h => h.elim), hk10.at' H8.out.2.1 (fun h => h)⟩; clear hh hk10 d0 d1; obtain ⟨d0, d1⟩ := bx2 H10.out.2; have tf := tab_fz2 H10.out.2))
      clear d0 d1 tf
      refine bodyPost_ret (results_ct rfl _ _ w.heap.size (.agg #[.slice none 0 0, .slice none 0 0]) rfl (ldT (set2T H10.out.2 _ _))) rfl ?_
      exact ⟨.inr ⟨HN.out, rfl⟩, H10.out.1.trans (put_k2 w10 w.heap.size _ _) (fun k e => .inr (by omega))⟩
    · have HN : Hid (dOk ys) := HOK.out.2 ⟨hR, hy⟩
      clear hR
      generalize hyF (zl (rP ys)) (zl (rC ys)) = Y at *
      go_wp2_with (first
        | (go_at_call 17; refine rd.mono ?_; rintro e w9 ⟨rfl, kn, rfl⟩; have hh := HY.out kn; clear rd)
        | (go_at_call 18; refine hh.mono ?_; rintro e w10 ⟨rfl, hk10⟩; have H10 : Hid (Kept No w w10 ∧ w10.heap[w.heap.size]? = some (.cells #[.slice none 0 0, .slice none 0 0] 25) ∧ Kept No w8 w10) := ⟨H8.out.1.trans hk10 (fun _ h => h.elim), hk10.at' H8.out.2.1 (fun h => h), hk10⟩; clear hh d0 d1; obtain ⟨d0, d1⟩ := bx2 H10.out.2.1; obtain ⟨d2, d3⟩ := bx2 (hk10.at' H8.out.2.2.1 (fun h => h)); have tf := tab_fz2 H10.out.2.1; clear hk10))
      clear d0 d1 d2 d3 tf
      refine bodyPost_ret (results_ct rfl _ _ w.heap.size (.agg #[.slice b0 (nP ys) (nP ys), .slice b1 (nC ys) (nC ys)]) rfl (ldT (set2T H10.out.2.1 _ _))) rfl ?_
      have kx := put_k2 w10 w.heap.size (.slice b0 (nP ys) (nP ys)) (.slice b1 (nC ys) (nC ys))
      have hs := kx.size
      have hs2 := H10.out.2.2.size
      refine ⟨.inl ⟨HN.out, b0, b1, rfl, ?_, ?_⟩, H10.out.1.trans kx (fun k e => .inr (by omega))⟩
      · exact ((H8.out.2.2.2.1.keep H10.out.2.2).kept kx (fun b h1 h2 e => by have := H8.out.2.2.2.2.2; omega)).wide (by have := H8.out.2.2.2.2.2; omega) (by omega)
      · exact ((H8.out.2.2.2.2.1.keep H10.out.2.2).kept kx (fun b h1 h2 e => by have := H8.out.2.2.2.2.2; omega)).wide (by have := H8.out.2.2.2.2.2; omega) (by omega)
  · have hdn : rdDone (((ys.drop 8).drop (5 * nP ys)).drop (5 * nC ys)) 0 = 20 := by unfold rdDone; rw [if_neg (fun h => h rfl), if_neg hR]
    rw [hdn] at rd
    have HN : Hid (¬ dOk ys) := fun h => hR (HOK.out.1 h).1
    clear hdn hR
    go_wp2_with (go_at_call 17; refine rd.mono ?_; rintro e w9 ⟨rfl, kn, rfl⟩; have H10 : Hid (Kept No w (w8.drewN kn) ∧ (w8.drewN kn).heap[w.heap.size]? = some (.cells #[.slice none 0 0, .slice none 0 0] 25)) := ⟨H8.out.1.drewN kn, H8.out.2.1⟩; clear rd d0 d1; obtain ⟨d0, d1⟩ := bx2 H10.out.2; have tf := tab_fz2 H10.out.2)
    clear d0 d1 tf
    refine bodyPost_ret (results_ct rfl _ _ w.heap.size (.agg #[.slice none 0 0, .slice none 0 0]) rfl (ldT (set2T H10.out.2 _ _))) rfl ?_
    exact ⟨.inr ⟨HN.out, rfl⟩, H10.out.1.trans (put_k2 _ w.heap.size _ _) (fun k e => .inr (by omega))⟩
end Go.Proofs.YtkmpgcgdamcikaaGreatDoor

namespace Go.Proofs.YtkmpgcgdamcikaaGreatDoor
open Go.RowKit Plain
set_option linter.unusedVariables false
set_option maxRecDepth 100000

theorem be_succ (x k : Nat) : be x (k + 1) = be (x / 256) k ++ [x % 256] := by
  unfold be
  rw [List.range_succ, List.map_append]
  congr 1
  · apply List.map_congr_left
    intro j hj
    rw [List.mem_range] at hj
    have e : 8 * (k + 1 - 1 - j) = 8 + 8 * (k - 1 - j) := by omega
    rw [e, Nat.pow_add, ← Nat.div_div_eq_div_mul]
  · simp
theorem val_be (x : Nat) : ∀ k, x < 256 ^ k → val (be x k) = x := by
  intro k
  induction k generalizing x with
  | zero => intro h; have : x = 0 := by simpa using h
            subst this; rfl
  | succ k ih =>
    intro h
    rw [be_succ, val_snoc, ih (x / 256) (by rw [Nat.pow_succ] at h; omega)]
    omega
theorem enL_split (L : List (Int × Int)) (i : Nat) : enL L = enL (L.take i) ++ enL (L.drop i) := by rw [← enL_app, List.take_append_drop]
theorem enL_cons (x : Int × Int) (r : List (Int × Int)) : enL (x :: r) = be x.1.toNat 4 ++ (be x.2.toNat 1 ++ enL r) := by
  rw [show x :: r = [x] ++ r from rfl, enL_app, enL_one, List.append_assoc]
theorem gp_at {L : List (Int × Int)} (R : List Nat) {i : Nat} (hi : i < L.length) (h : Slt.Goes L) : (((gp (enL L ++ R) i).1 : Int), ((gp (enL L ++ R) i).2 : Int)) = Slt.gt L i := by
  have hok := h i hi
  have hA := Slt.pr_bd (Nat.le_of_lt hi) (fun j hj => h j (by omega))
  have h1 := hok.1
  have h2 := hok.2.1
  have h3 := hok.2.2.1
  have h4 := hok.2.2.2.1
  have ed : L.drop i = Slt.gt L i :: L.drop (i + 1) := by
    have hg := Slt.gt_some hi
    rw [List.drop_eq_getElem_cons hi]
    rw [List.getElem?_eq_getElem hi] at hg
    injection hg with hg
    rw [hg]
  have el : (enL (L.take i)).length = 5 * i := by rw [enL_len, List.length_take]; omega
  have e0 : (enL L ++ R).drop (5 * i) = be (Slt.gt L i).1.toNat 4 ++ (be (Slt.gt L i).2.toNat 1 ++ (enL (L.drop (i + 1)) ++ R)) := by
    rw [enL_split L i, List.append_assoc, List.drop_left' el, ed, enL_cons]
    simp only [List.append_assoc]
  have e1 : (enL L ++ R).drop (5 * i + 4) = be (Slt.gt L i).2.toNat 1 ++ (enL (L.drop (i + 1)) ++ R) := by
    rw [← List.drop_drop, e0, List.drop_left' (be_length _ _)]
  unfold gp
  rw [e0, e1, List.take_left' (be_length _ _), List.take_left' (be_length _ _), val_be _ 4 (by omega), val_be _ 1 (by omega)]
  apply Prod.ext
  · show ((Slt.gt L i).1.toNat : Int) = _
    omega
  · show ((Slt.gt L i).2.toNat : Int) = _
    omega
theorem gpL_back {L : List (Int × Int)} (R : List Nat) (h : Slt.Goes L) : zl (gpL (enL L ++ R) L.length) = L := by
  apply List.ext_getElem?
  intro i
  by_cases hi : i < L.length
  · unfold zl gpL
    rw [List.map_map, List.getElem?_map, List.getElem?_range hi]
    show some _ = _
    rw [Slt.gt_some hi, ← gp_at R hi h]
    rfl
  · rw [List.getElem?_eq_none (by simp [zl, gpL]; omega), List.getElem?_eq_none (by omega)]
theorem goes_le {L : List (Int × Int)} (h : Slt.Goes L) : L.length ≤ 1048576 := by
  have := Slt.pr_bd (q := L.length) (Nat.le_refl _) h
  omega
theorem back_all {P C : List (Int × Int)} (hp : Slt.Goes P) (hc : Slt.Goes C) : nP (bodyB P C) = P.length ∧ nC (bodyB P C) = C.length ∧ zl (rP (bodyB P C)) = P ∧ zl (rC (bodyB P C)) = C := by
  have l1 := goes_le hp
  have l2 := goes_le hc
  have e0 : bodyB P C = be P.length 4 ++ (be C.length 4 ++ (enL P ++ enL C)) := by unfold bodyB; simp only [List.append_assoc]
  have d4 : (bodyB P C).drop 4 = be C.length 4 ++ (enL P ++ enL C) := by rw [e0, List.drop_left' (be_length _ _)]
  have d8 : (bodyB P C).drop 8 = enL P ++ enL C := by
    rw [show (8 : Nat) = 4 + 4 from rfl, ← List.drop_drop, d4, List.drop_left' (be_length _ _)]
  have n1 : nP (bodyB P C) = P.length := by
    unfold nP
    rw [e0, List.take_left' (be_length _ _), val_be _ 4 (by omega)]
  have n2 : nC (bodyB P C) = C.length := by
    unfold nC
    rw [d4, List.take_left' (be_length _ _), val_be _ 4 (by omega)]
  refine ⟨n1, n2, ?_, ?_⟩
  · unfold rP
    rw [d8, n1]
    exact gpL_back _ hp
  · unfold rC
    rw [d8, n1, n2, List.drop_left' (by rw [enL_len])]
    have := gpL_back [] hc
    rw [List.append_nil] at this
    exact this
theorem back_ok {P C : List (Int × Int)} (h : hyF P C ≠ 0) : dOk (bodyB P C) := by
  have hT := (hyF_tab h).1
  obtain ⟨h1, h2, h3, h4⟩ := back_all hT.p hT.c
  refine ⟨?_, ?_⟩
  · rw [bodyB_len, h1, h2]
  · rw [h3, h4]; exact h
theorem bodyB_lt (P C : List (Int × Int)) : ∀ x ∈ bodyB P C, x < 256 := by
  intro x hx
  unfold bodyB enL at hx
  simp only [List.mem_append, List.mem_flatMap] at hx
  rcases hx with ((hx | hx) | ⟨y, _, hx⟩) | ⟨y, _, hx⟩
  · exact be_lt _ _ x hx
  · exact be_lt _ _ x hx
  · rcases hx with hx | hx
    · exact be_lt _ _ x hx
    · exact be_lt _ _ x hx
  · rcases hx with hx | hx
    · exact be_lt _ _ x hx
    · exact be_lt _ _ x hx
end Go.Proofs.YtkmpgcgdamcikaaGreatDoor

namespace Go.Proofs.YtkmpgcgdamcikaaGreatDoor
open Go.RowKit Plain
set_option linter.unusedVariables false
set_option maxRecDepth 100000

theorem own_slice {w : World} {B : Nat} {t : TypeId} {sz : Nat} {v : Value} {n : Nat} {xs : List Value} (h : w.ownsRow B t sz v n xs) : ∃ a m c, v = .slice a m c := by
  obtain ⟨_, ⟨rfl, _⟩ | ⟨g, cap, cur, rfl, _⟩⟩ := h
  · exact ⟨_, _, _, rfl⟩
  · exact ⟨_, _, _, rfl⟩
theorem Bs.row {w : World} {B n : Nat} {a : Option Addr} {c : Nat} {xs : List Nat} (h : w.ownsRow B 5 1 (.slice a n c) n (xs.map bv)) (hl : xs.length = n) (hb : ∀ x ∈ xs, x < 256) : Bs w (fun k => (Value.slice a n c).ownBlock = some k) a n c xs := by
  subst hl
  obtain ⟨a', c', hv, hz⟩ := Bs.of_owns h hb
  injection hv with q1 q2 q3
  subst q1 q3
  exact hz
theorem Bs.put {w : World} {g cap i y : Nat} {xs : List Nat} (h : ∀ i u, (xs.map bv)[i]? = some u → w.cell? ⟨g, i, none⟩ = some u) (hi : i < xs.length) (hcap : xs.length ≤ cap) (hmax : cap ≤ 9223372036854775807) (hlt : ∀ x ∈ xs, x < 256) (hy : y < 256) :
    Bs (w.setCell ⟨g, i, none⟩ (.int .u8 (y : Nat))) (fun k => k = g) (some ⟨g, 0, none⟩) xs.length cap (xs.set i y) := by
  refine ⟨by rw [List.length_set], hcap, hmax, fun h => (by cases h), fun j hj => ⟨g, 0, rfl, rfl, ?_⟩, fun x hx => ?_⟩
  · show (w.setCell ⟨g, i, none⟩ (.int .u8 (y : Nat))).cell? _ = _
    rw [Nat.zero_add]
    by_cases hji : j = i
    · subst hji
      rw [World.cell?_setCell_same _ _ _ (h j _ (bv_get hj))]
      simp [List.getD, hj, bv]
    · rw [World.cell?_setCell_other _ _ _ _ (fun h => by injection h; omega), h j _ (bv_get hj)]
      simp [List.getD, Ne.symm hji]
  · rcases List.mem_or_eq_of_mem_set hx with h1 | h1
    · exact hlt x h1
    · rw [h1]; exact hy
theorem bs_app {w : World} {B n m c : Nat} {a : Option Addr} {xs ys : List Nat} (h : w.ownsRow B 5 1 (.slice a (n + m) c) (n + m) (xs.map bv ++ ys.map bv)) (hx : xs.length = n) (hy : ys.length = m) (hb : ∀ x ∈ xs, x < 256) (hb2 : ∀ x ∈ ys, x < 256) : Bs w (fun k => (Value.slice a (n + m) c).ownBlock = some k) a (n + m) c (xs ++ ys) := by
  rw [← List.map_append] at h
  exact Bs.row h (by rw [List.length_append, hx, hy]) (fun x hm => by rcases List.mem_append.1 hm with h | h; exact hb x h; exact hb2 x h)
theorem wpList_app {w : World} {ops : Array Oper} {rest : List Oper} {o : Oper} {a : Act} {Q : Exit → Act → World → Prop} (hgd : o.guard = none) (s x : Operand)
    (ho : o.op = .call { callee := .builtin .append, args := #[s, x], argTypes := #[22, 22] }) (B : Nat) (v : Value) (hs : a.eval s = v) (n : Nat) (us : List Nat) (hv : w.ownsRow B 5 1 v n (us.map bv)) (hB : B ≤ w.heap.size) (xa : Option Addr) (m c : Nat) (hx : a.eval x = .slice xa m c)
    (F : Nat → Prop) (xs : List Nat) (hz : Bs w F xa m c xs) (hm : 0 < m) (hn : n + m ≤ 140737500000000)
    (h : ∀ ya yc w', Hid (w'.ownsRow B 5 1 (.slice ya (n + m) yc) (n + m) (us.map bv ++ xs.map bv)) → Hid (Kept (fun k => v.ownBlock = some k) w w') → wpList Tryz.prog ops Q rest (a.put o.dst (.slice ya (n + m) yc)) w') : wpList Tryz.prog ops Q (o :: rest) a w := by
  obtain ⟨i0, hi, hz0, hz1, hz2⟩ := info_parts Tryz.info5
  cases xa with
  | none => have hc0 := hz.nil rfl; have := hz.cap; omega
  | some ad =>
    refine wpList_append_own_wide _ hgd s x 22 ho B 5 i0 (.int .u8 0) 1 1 Tryz.underlying22 hi hz0 hz1 hz2 rfl (by decide) _ n _ hs hv ad m c (xs.map bv) hx (by rw [List.length_map, hz.len]; omega) hz.news (bv_one _) (by unfold maxLen; omega) (by omega) hB ?_
    intro v1 w1 own1 grow1 _
    obtain ⟨ya, yn, yc, rfl⟩ := own_slice own1
    have hyn : yn = n + m := by
      rcases owns_cells own1 with ⟨h1, h2⟩ | ⟨g, cap, h1, _⟩
      · injection h1 with _ h3 _; omega
      · injection h1
    subst hyn
    exact h ya yc w1 own1 ((Kept.refl (fun k => v.ownBlock = some k) w).grown grow1 (fun k e => .inl e))
theorem own_at {w : World} {B e : Nat} {v : Value} {n : Nat} {xs : List Value} (h : w.ownsRow B e 1 v n xs) : ∀ k, v.ownBlock = some k → B ≤ k := by
  intro k hk
  rcases owns_cells h with ⟨rfl, _⟩ | ⟨g, cap, rfl, hg, _⟩
  · cases hk
  · injection hk with hk; subst hk; exact hg
theorem xor8 (x y : Nat) (hx : x < 256) (hy : y < 256) (h0 : y ≠ 0) : bits .xor .u8 (x : Int) (y : Int) = ((x ^^^ y : Nat) : Int) ∧ x ^^^ y < 256 ∧ x ^^^ y ≠ x := by
  refine ⟨u8_xor_nat x y hx hy, Nat.xor_lt_two_pow (n := 8) hx hy, fun h => ?_⟩
  have h0' : x ^^^ y = x ^^^ 0 := by rw [h, Nat.xor_zero]
  exact h0 (xor_lc h0')
/-- Decode of what is no table's -/
theorem decode_bad {F : Nat → Prop} {a : Option Addr} {n c : Nat} {xs : List Nat} (w : World) (h : Bs w F a n c xs) (hu : unsE 2 xs ≠ 0) :
    Calls Tryz.prog 4 #[.slice a n c] w fun e w' => (∃ E : Int, e = .returned (.tuple #[.agg #[.slice none 0 0, .slice none 0 0], .int .i64 E]) ∧ E ≠ 0) ∧ Kept No w w' := by
  by_cases hl : 4194304 < n
  · exact (decode_long w h hl).mono (fun e w' ⟨e1, k1⟩ => ⟨⟨1, e1, by decide⟩, k1⟩)
  · exact (decode_form w h (by omega) hu).mono (fun e w' ⟨e1, k1⟩ => ⟨⟨20, e1, by decide⟩, k1⟩)
/-- Decode of a table's own bytes -/
theorem decode_own {F : Nat → Prop} {a : Option Addr} {n c : Nat} {P C : List (Int × Int)} (w : World) (h : Bs w F a n c (sealed 2 (bodyB P C))) (hy : hyF P C ≠ 0) (hl : ¬ encLong P C) :
    Calls Tryz.prog 4 #[.slice a n c] w fun e w' => (∃ a0 a1, e = .returned (.tuple #[.agg #[.slice a0 P.length P.length, .slice a1 C.length C.length], .int .i64 0]) ∧ Sl w' (fun k => w.heap.size ≤ k ∧ k < w'.heap.size) a0 P.length P.length P ∧ Sl w' (fun k => w.heap.size ≤ k ∧ k < w'.heap.size) a1 C.length C.length C) ∧ Kept No w w' := by
  have hT := (hyF_tab hy).1
  obtain ⟨b1, b2, b3, b4⟩ := back_all hT.p hT.c
  have hbl := bodyB_len P C
  have hlen := h.len
  rw [sealed_length] at hlen
  have hl' : 20 + 5 * (P.length + C.length) ≤ 4194304 := Nat.le_of_not_lt hl
  obtain ⟨u1, u2⟩ := unsE_yes 2 (bodyB P C) (by omega)
  refine (decode_read w h (by omega) u1 (by rw [u2]; omega) (by rw [u2, b1, b2]; omega)).mono ?_
  rw [u2, b1, b2]
  rintro e w' ⟨⟨_, a0, a1, rfl, tq, wq⟩ | ⟨hn, _⟩, hk⟩
  · refine ⟨⟨a0, a1, rfl, ?_, ?_⟩, hk⟩
    · have := tq.p
      rw [b3, show (rP (bodyB P C)).length = P.length by rw [← zl_len, b3]] at this
      exact this
    · have := tq.c
      rw [b4, show (rC (bodyB P C)).length = C.length by rw [← zl_len, b4]] at this
      exact this
  · exact (hn (back_ok hy)).elim
end Go.Proofs.YtkmpgcgdamcikaaGreatDoor

namespace Go.Proofs.YtkmpgcgdamcikaaGreatDoor
open Go.RowKit Plain
set_option linter.unusedVariables false
set_option maxRecDepth 100000

theorem be_val : ∀ (k : Nat) (l : List Nat), l.length = k → (∀ x ∈ l, x < 256) → be (val l) k = l := by
  intro k
  induction k with
  | zero => intro l hl _; rw [List.eq_nil_of_length_eq_zero hl]; rfl
  | succ k ih =>
    intro l hl hb
    have hne : l ≠ [] := by rintro rfl; simp at hl
    have e := List.dropLast_concat_getLast hne
    have h1 : val l = val l.dropLast * 256 + l.getLast hne := by
      have := val_snoc l.dropLast (l.getLast hne); rw [e] at this; exact this
    have hlast := hb (l.getLast hne) (List.getLast_mem hne)
    rw [be_succ, h1, show (val l.dropLast * 256 + l.getLast hne) / 256 = val l.dropLast from by omega, show (val l.dropLast * 256 + l.getLast hne) % 256 = l.getLast hne from by omega,
      ih l.dropLast (by rw [List.length_dropLast]; omega) (fun x hx => hb x ((List.dropLast_sublist l).subset hx)), e]
theorem lt_take {l : List Nat} (h : ∀ x ∈ l, x < 256) (a b : Nat) : ∀ x ∈ (l.drop a).take b, x < 256 := fun x hx => h x (List.mem_of_mem_drop (List.mem_of_mem_take hx))
theorem gpL_fwd {xs : List Nat} (hx : ∀ x ∈ xs, x < 256) : ∀ n, 5 * n ≤ xs.length → enL (zl (gpL xs n)) = xs.take (5 * n)
  | 0, _ => by simp [gpL, zl, enL]
  | n + 1, h => by
    have ih := gpL_fwd hx n (by omega)
    have e0 : zl (gpL xs (n + 1)) = zl (gpL xs n) ++ [(((gp xs n).1 : Int), ((gp xs n).2 : Int))] := by rw [gpL_succ]; simp [zl]
    have l1 : ((xs.drop (5 * n)).take 4).length = 4 := by rw [List.length_take, List.length_drop]; omega
    have l2 : ((xs.drop (5 * n + 4)).take 1).length = 1 := by rw [List.length_take, List.length_drop]; omega
    rw [e0, enL_app, ih, enL_one]
    show xs.take (5 * n) ++ (be (gp xs n).1 4 ++ be (gp xs n).2 1) = _
    unfold gp
    rw [be_val 4 _ l1 (lt_take hx _ _), be_val 1 _ l2 (lt_take hx _ _)]
    rw [show 5 * (n + 1) = 5 * n + (4 + 1) by omega, List.take_add, List.take_add, List.drop_drop]
theorem body_fwd {ys : List Nat} (hx : ∀ x ∈ ys, x < 256) (hl : ys.length = 8 + 5 * (nP ys + nC ys)) : bodyB (zl (rP ys)) (zl (rC ys)) = ys := by
  have p1 : (zl (rP ys)).length = nP ys := by rw [zl_len]; exact gpL_len _ _
  have p2 : (zl (rC ys)).length = nC ys := by rw [zl_len]; exact gpL_len _ _
  have b1 : be (nP ys) 4 = ys.take 4 := be_val 4 _ (by rw [List.length_take]; omega) (fun x h => hx x (List.mem_of_mem_take h))
  have b2 : be (nC ys) 4 = (ys.drop 4).take 4 := be_val 4 _ (by rw [List.length_take, List.length_drop]; omega) (lt_take hx _ _)
  have e1 : enL (zl (rP ys)) = (ys.drop 8).take (5 * nP ys) := gpL_fwd (fun x h => hx x (List.mem_of_mem_drop h)) _ (by rw [List.length_drop]; omega)
  have e2 : enL (zl (rC ys)) = ((ys.drop 8).drop (5 * nP ys)).take (5 * nC ys) := gpL_fwd (fun x h => hx x (List.mem_of_mem_drop (List.mem_of_mem_drop h))) _ (by rw [List.length_drop, List.length_drop]; omega)
  unfold bodyB
  rw [p1, p2, b1, b2, e1, e2]
  have f1 : ys.take 4 ++ (ys.drop 4).take 4 = ys.take 8 := by rw [show (8 : Nat) = 4 + 4 from rfl, List.take_add]
  have f2 : (ys.drop 8).take (5 * nP ys + 5 * nC ys) = ys.drop 8 := List.take_of_length_le (by rw [List.length_drop]; omega)
  rw [f1, List.append_assoc, ← List.take_add, f2, List.take_append_drop]
theorem uns_form {xs : List Nat} (h : unsE 2 xs = 0) : xs = sealed 2 (unsX 2 xs) ∧ (unsX 2 xs).length ≤ 4194304 := by
  by_cases hk : unsOk 2 xs = true
  · obtain ⟨hl, ys, rfl⟩ := (unsOk_iff 2 xs).1 hk
    rw [sealed_length] at hl
    obtain ⟨_, h2⟩ := unsE_yes 2 ys (by omega)
    rw [h2]
    exact ⟨rfl, by omega⟩
  · exfalso
    unfold unsE at h
    rw [if_neg hk] at h
    split at h
    · cases h
    · cases h
end Go.Proofs.YtkmpgcgdamcikaaGreatDoor

namespace Go.Proofs.YtkmpgcgdamcikaaGreatDoor
open Go.RowKit Go.Shelf Plain
set_option linter.unusedVariables false
set_option maxRecDepth 100000

theorem getPart_none {F : Nat → Prop} {p : Nat} {xs : List Nat} {E : Int} (w : World) (h : Rd w F p xs E) :
    Calls Tryz.prog 16 #[.pointer (some ⟨p, 0, none⟩), .int .i64 0] w fun e w' => e = .returned (.slice none 0 0) ∧ w' = w := by
  have ho := handOut_nil w
  clear h
  go_enter Tryz.func16, Tryz.ntmps16
  go_wp2
  go_loopw [5, 8] (fun v x wr => v = .slice none 0 0 ∧ x = .int .i64 0 ∧ wr = w) (fun _ x _ => 0)
  case atStart => exact ⟨rfl, rfl, rfl⟩
  case round =>
    obtain ⟨rfl, rfl, rfl⟩ := hrel
    go_wp2_with (go_at_call 36; refine ho.mono ?_; rintro e w1 ⟨rfl, rfl⟩; clear ho)
    go_ret
    exact ⟨rfl, rfl⟩

def rA (ys : List Nat) : Int := rdN ys 0 4
def rB (ys : List Nat) : Int := rdN (tkRest ys 0 4) (tkE ys 0 4) 4
def rE (ys : List Nat) : Int := tkE (tkRest ys 0 4) (tkE ys 0 4) 4
def rR (ys : List Nat) : List Nat := tkRest (tkRest ys 0 4) (tkE ys 0 4) 4

set_option maxHeartbeats 8000000 in
theorem decode_not {F : Nat → Prop} {a : Option Addr} {n c : Nat} {xs : List Nat} (w : World) (h : Bs w F a n c xs) (hl : n ≤ 4194304) (hu : unsE 2 xs = 0) (hn : ((rR (unsX 2 xs)).length : Int) < 5 * (rA (unsX 2 xs) + rB (unsX 2 xs)) ∨ (rA (unsX 2 xs) = 0 ∧ rB (unsX 2 xs) = 0 ∧ rE (unsX 2 xs) ≠ 0)) :
    Calls Tryz.prog 4 #[.slice a n c] w fun e w' => e = .returned (.tuple #[.agg #[.slice none 0 0, .slice none 0 0], .int .i64 20]) ∧ Kept No w w' := by
  have hlz : ¬ (4194304 : Int) < n := by omega
  have ka : Kept No w (w.alloc (.cells #[.slice none 0 0, .slice none 0 0] 25)) := (Kept.refl No w).alloc _
  have hb := World.alloc_heap_new w (.cells #[.slice none 0 0, .slice none 0 0] 25)
  have HA : Hid (Kept No w (w.alloc (.cells #[.slice none 0 0, .slice none 0 0] 25)) ∧ (w.alloc (.cells #[.slice none 0 0, .slice none 0 0] 25)).heap[w.heap.size]? = some (.cells #[.slice none 0 0, .slice none 0 0] 25)) := ⟨ka, hb⟩
  have u1 := unseal_bs _ (h.kept ka (fun _ _ h => h))
  rw [hu] at u1
  have hxl := uns_len 2 xs
  rw [h.len] at hxl
  have hlt := uns_lt (kind := 2) h.lt
  clear h ka hb hu
  generalize unsX 2 xs = ys at *
  have HA0 := rdN_lt (xs := ys) 0 4 hlt
  have hrl : ∀ x ∈ tkRest ys 0 4, x < 256 := by
    intro x hx
    unfold tkRest at hx
    split at hx
    · exact hlt x (List.mem_of_mem_drop hx)
    · exact hlt x hx
  have HB0 := rdN_lt (xs := tkRest ys 0 4) (tkE ys 0 4) 4 hrl
  have hA : rdN ys 0 4 = rA ys := rfl
  have hB : rdN (tkRest ys 0 4) (tkE ys 0 4) 4 = rB ys := rfl
  have hE : tkE (tkRest ys 0 4) (tkE ys 0 4) 4 = rE ys := rfl
  have hR : tkRest (tkRest ys 0 4) (tkE ys 0 4) 4 = rR ys := rfl
  have HQ : Hid (rdN ys 0 4 = rA ys ∧ rdN (tkRest ys 0 4) (tkE ys 0 4) 4 = rB ys ∧ tkE (tkRest ys 0 4) (tkE ys 0 4) 4 = rE ys ∧ tkRest (tkRest ys 0 4) (tkE ys 0 4) 4 = rR ys) := ⟨hA, hB, hE, hR⟩
  rw [hA] at HA0
  rw [hB] at HB0
  clear hA hB hE hR hrl hlt
  go_enter Tryz.func4, Tryz.ntmps4
  go_upto_region 6 with (go_at_call 12; refine u1.mono ?_; rintro e w1 ⟨a1, c1, rfl, hb1, hk1⟩; have H1 : Hid (Kept No w w1 ∧ w1.heap[w.heap.size]? = some (.cells #[.slice none 0 0, .slice none 0 0] 25)) := ⟨HA.out.1.trans hk1 (fun _ h => h.elim), hk1.at' HA.out.2 (fun h => h)⟩; clear hk1 u1)
  have q1 := newReader_any _ a1 _ c1 ys w1 hb1 (by omega)
  clear hb1
  go_upto_region 7 with (go_at_call 13; refine q1.mono ?_; rintro e w2 ⟨p, rfl, hr2, hB2⟩; clear q1)
  have hB2' : Kept No w1 w2 := Kept.of_below hB2
  have hpp : w1.heap.size ≤ p ∧ p < w2.heap.size := by obtain ⟨_, _, _, hv⟩ := hr2; exact hv.fp
  have q1 := ru32_any _ p ys 0 w2 hr2
  rw [HQ.out.1] at q1
  have H2 : Hid (Kept No w w2 ∧ w2.heap[w.heap.size]? = some (.cells #[.slice none 0 0, .slice none 0 0] 25) ∧ w.heap.size < w1.heap.size) := ⟨H1.out.1.trans hB2' (fun _ h => h.elim), hB2'.at' H1.out.2 (fun h => h), heap_lt H1.out.2⟩
  clear hr2 hB2 hB2'
  go_upto_region 8 with (first
    | (go_at_call 14; refine q1.mono ?_; rintro e w3 ⟨rfl, hr3⟩; have q2 := ru32_any _ p _ _ w3 hr3.1; rw [HQ.out.2.1, HQ.out.2.2.1, HQ.out.2.2.2] at q2; clear q1)
    | (go_at_call 14; refine q2.mono ?_; rintro e w4 ⟨rfl, hr4⟩; clear q2))
  have k4 : Kept (fun j => j = p) w2 w4 := hr3.2.trans hr4.2 (fun _ h => .inl h)
  have H4 : Hid (Kept No w w4 ∧ w4.heap[w.heap.size]? = some (.cells #[.slice none 0 0, .slice none 0 0] 25) ∧ Rd w4 (fun k => w1.heap.size ≤ k ∧ k < w2.heap.size) p (rR ys) (rE ys) ∧ w2.heap.size ≤ w4.heap.size) := ⟨H2.out.1.trans k4 (fun b e => .inr (by have := H2.out.2.2; omega)), k4.at' H2.out.2.1 (fun e => by have := H2.out.2.2; omega), hr4.1, k4.size⟩
  clear hr3 hr4 k4 H2
  have q1 := left_any _ p _ _ w4 H4.out.2.2.1
  have HR2 : Hid (Rd w4 (fun k => w1.heap.size ≤ k ∧ k < w2.heap.size) p (rR ys) (rE ys)) := H4.out.2.2.1
  have hrb : (rR ys).length ≤ ys.length := by
    have t1 : ∀ (l : List Nat) (e m : Int), (tkRest l e m).length ≤ l.length := fun l e m => by unfold tkRest; split <;> simp
    exact Nat.le_trans (t1 _ _ _) (t1 _ _ _)
  have g1 := getPart_none w4 HR2.out
  have rd := rdone_any _ p _ _ w4 HR2.out
  have HRD : Hid (rE ys ≠ 0 → rdDone (rR ys) (rE ys) = rE ys) := fun h => if_pos h
  obtain ⟨d0, d1⟩ := bx2 H4.out.2.1
  have tf := tab_fz2 H4.out.2.1
  clear HQ H1
  generalize rA ys = A at *
  generalize rB ys = B at *
  generalize rE ys = E at *
  generalize rR ys = R at *
  have hlR : (R.length : Int) ≤ 4194316 := by omega
  rcases hn with hn | ⟨rfl, rfl, hE0⟩
  · clear g1 rd HRD
    go_wp2_with (go_at_call 15; refine q1.mono ?_; rintro e w5 ⟨rfl, rfl⟩; clear q1)
    clear d0 d1 tf
    refine bodyPost_ret (results_ct rfl _ _ w.heap.size (.agg #[.slice none 0 0, .slice none 0 0]) rfl (ldT (set2T H4.out.2.1 _ _))) rfl ?_
    exact ⟨rfl, H4.out.1.trans (put_k2 _ w.heap.size _ _) (fun k e => .inr (by omega))⟩
  · have hE1 : (E != 0) = true := bne_iff_ne.2 hE0
    rw [HRD.out hE0] at rd
    have hg2 : ¬ ((R.length : Int) < 0) := by omega
    have ka : Kept No w4 (w4.alloc (.cells #[.slice none 0 0, .slice none 0 0] 25)) := (Kept.refl No w4).alloc _
    have rd := rdone_any _ p _ _ _ (HR2.out.kept ka (fun _ _ h => h))
    rw [HRD.out hE0] at rd
    have H8 : Hid (Kept No w (w4.alloc (.cells #[.slice none 0 0, .slice none 0 0] 25)) ∧ (w4.alloc (.cells #[.slice none 0 0, .slice none 0 0] 25)).heap[w.heap.size]? = some (.cells #[.slice none 0 0, .slice none 0 0] 25)) := ⟨H4.out.1.trans ka (fun _ h => h.elim), ka.at' H4.out.2.1 (fun h => h)⟩
    clear HRD ka
    go_wp2_with (first
      | (go_at_call 15; refine q1.mono ?_; rintro e w5 ⟨rfl, hw⟩; obtain rfl := hw.symm; clear q1)
      | (go_at_call 16; refine g1.mono ?_; rintro e w6 ⟨rfl, hw⟩; obtain rfl := hw.symm)
      | (go_at_call 17; refine rd.mono ?_; rintro e w9 ⟨rfl, kn, rfl⟩; have H10 : Hid (Kept No w ((w4.alloc (.cells #[.slice none 0 0, .slice none 0 0] 25)).drewN kn) ∧ ((w4.alloc (.cells #[.slice none 0 0, .slice none 0 0] 25)).drewN kn).heap[w.heap.size]? = some (.cells #[.slice none 0 0, .slice none 0 0] 25)) := ⟨H8.out.1.drewN kn, H8.out.2⟩; clear rd d0 d1 tf; obtain ⟨d0, d1⟩ := bx2 H10.out.2; have tf := tab_fz2 H10.out.2))
    clear d0 d1 tf
    refine bodyPost_ret (results_ct rfl _ _ w.heap.size (.agg #[.slice none 0 0, .slice none 0 0]) rfl (ldT (set2T H10.out.2 _ _))) rfl ?_
    exact ⟨rfl, H10.out.1.trans (put_k2 _ w.heap.size _ _) (fun k e => .inr (by omega))⟩

theorem dn_of {ys : List Nat} (hr : ¬ (8 ≤ ys.length ∧ 5 * (nP ys + nC ys) ≤ ys.length - 8)) : ((rR ys).length : Int) < 5 * (rA ys + rB ys) ∨ (rA ys = 0 ∧ rB ys = 0 ∧ rE ys ≠ 0) := by
  have tn : ∀ (l : List Nat) (e : Int), ¬ (e = 0 ∧ 4 ≤ l.length) → rdN l e 4 = 0 ∧ tkRest l e 4 = l ∧ tkE l e 4 ≠ 0 := fun l e hne => by
    have hk : tkOk l e 4 = false := by
      unfold tkOk
      by_cases he : e = 0
      · have : ¬ ((4 : Int) ≤ l.length) := fun h4 => hne ⟨he, by omega⟩
        simp [this]
      · simp [he]
    have hk' : tkOk l e ((4 : Nat) : Int) = false := hk
    refine ⟨?_, ?_, ?_⟩
    · unfold rdN tkXs; rw [hk']; rfl
    · unfold tkRest; rw [hk]; rfl
    · unfold tkE; rw [hk]; split
      · assumption
      · decide
  by_cases h4 : 4 ≤ ys.length
  · obtain ⟨t1, t2, t3⟩ := tk4 h4
    by_cases h8 : 8 ≤ ys.length
    · obtain ⟨s1, s2, s3⟩ := tk4 (xs := ys.drop 4) (by rw [List.length_drop]; omega)
      left
      unfold rR rA rB
      rw [t1, t2, t3, s1, s2, List.length_drop, List.length_drop]
      have : ¬ 5 * (nP ys + nC ys) ≤ ys.length - 8 := fun e => hr ⟨h8, e⟩
      unfold nP nC at this
      omega
    · obtain ⟨s1, s2, s3⟩ := tn (ys.drop 4) 0 (by rw [List.length_drop]; omega)
      unfold rR rA rB rE
      rw [t1, t2, t3, s1, s2]
      by_cases hz : val (ys.take 4) = 0
      · right
        rw [hz]
        exact ⟨rfl, rfl, s3⟩
      · left
        rw [List.length_drop]
        omega
  · obtain ⟨t1, t2, t3⟩ := tn ys 0 (by omega)
    obtain ⟨s1, s2, s3⟩ := tn ys (tkE ys 0 4) (by omega)
    right
    unfold rA rB rE
    rw [t2]
    exact ⟨t1, s1, s3⟩

/-- Decode of any bytes: what is read is a table of which just these bytes are told -/
theorem decode_any {F : Nat → Prop} {a : Option Addr} {n c : Nat} {xs : List Nat} (w : World) (h : Bs w F a n c xs) :
    Calls Tryz.prog 4 #[.slice a n c] w fun e w' => (∃ (E : Int) (a0 a1 : Option Addr) (n0 n1 : Nat) (P C : List (Int × Int)), e = .returned (.tuple #[.agg #[.slice a0 n0 n0, .slice a1 n1 n1], .int .i64 E]) ∧ Sl w' (fun k => w.heap.size ≤ k ∧ k < w'.heap.size) a0 n0 n0 P ∧ Sl w' (fun k => w.heap.size ≤ k ∧ k < w'.heap.size) a1 n1 n1 C ∧ (E = 0 → hyF P C ≠ 0 ∧ ¬ encLong P C ∧ sealed 2 (bodyB P C) = xs)) ∧ Kept No w w' := by
  by_cases hu : unsE 2 xs = 0
  · by_cases hl : n ≤ 4194304
    · obtain ⟨f1, f2⟩ := uns_form hu
      have hlt := uns_lt (kind := 2) h.lt
      by_cases hr : 8 ≤ (unsX 2 xs).length ∧ 5 * (nP (unsX 2 xs) + nC (unsX 2 xs)) ≤ (unsX 2 xs).length - 8
      · refine (decode_read w h hl hu hr.1 hr.2).mono ?_
        rintro e w' ⟨⟨hok, a0, a1, rfl, tq, wq⟩ | ⟨hn, rfl⟩, hk⟩
        · have l1 : (rP (unsX 2 xs)).length = nP (unsX 2 xs) := gpL_len _ _
          have l2 : (rC (unsX 2 xs)).length = nC (unsX 2 xs) := gpL_len _ _
          have tp := tq.p
          have tc := tq.c
          rw [l1] at tp
          rw [l2] at tc
          refine ⟨⟨0, a0, a1, _, _, _, _, rfl, tp, tc, fun _ => ⟨hok.2, ?_, ?_⟩⟩, hk⟩
          · unfold encLong
            rw [zl_len, zl_len, l1, l2]
            have hx := h.len
            rw [f1, sealed_length] at hx
            have := hok.1
            omega
          · rw [body_fwd hlt hok.1]
            exact f1.symm
        · exact ⟨⟨20, none, none, 0, 0, [], [], rfl, sl_nil _ _, sl_nil _ _, fun e => (by cases e)⟩, hk⟩
      · refine (decode_not w h hl hu ?_).mono ?_
        · exact dn_of hr
        · rintro e w' ⟨rfl, hk⟩
          exact ⟨⟨20, none, none, 0, 0, [], [], rfl, sl_nil _ _, sl_nil _ _, fun e => (by cases e)⟩, hk⟩
    · exact (decode_long w h (by omega)).mono (fun e w' ⟨e1, k1⟩ => ⟨⟨1, none, none, 0, 0, [], [], e1, sl_nil _ _, sl_nil _ _, fun e => (by cases e)⟩, k1⟩)
  · refine (decode_bad w h hu).mono ?_
    rintro e w' ⟨⟨E, rfl, hE⟩, hk⟩
    exact ⟨⟨E, none, none, 0, 0, [], [], rfl, sl_nil _ _, sl_nil _ _, fun e => (hE e).elim⟩, hk⟩
end Go.Proofs.YtkmpgcgdamcikaaGreatDoor

namespace Go.Proofs.YtkmpgcgdamcikaaGreatDoor
open Go.RowKit Plain
set_option linter.unusedVariables false
set_option maxRecDepth 100000
theorem made0b (w : World) : (w.alloc (.cells #[] 5)).ownsRow w.heap.size 5 1 (.slice (some ⟨w.heap.size, 0, none⟩) 0 0) 0 (([] : List Nat).map bv) := World.ownsRow_made w #[] 0 (Nat.le_refl _) (by unfold maxLen; omega) rfl

theorem wpList_app0 {w : World} {ops : Array Oper} {rest : List Oper} {o : Oper} {a : Act} {Q : Exit → Act → World → Prop} (hgd : o.guard = none) (s x : Operand)
    (ho : o.op = .call { callee := .builtin .append, args := #[s, x], argTypes := #[22, 22] }) (B : Nat) (v : Value) (hs : a.eval s = v) (hv : w.ownsRow B 5 1 v 0 (([] : List Nat).map bv)) (hB : B ≤ w.heap.size) (xa : Option Addr) (m c : Nat) (hx : a.eval x = .slice xa m c)
    (F : Nat → Prop) (xs : List Nat) (hz : Bs w F xa m c xs) (hm : 0 < m) (hn : m ≤ 140737500000000)
    (h : ∀ ya yc w', Hid (w'.ownsRow B 5 1 (.slice ya m yc) m (xs.map bv)) → Hid (Kept (fun k => v.ownBlock = some k) w w') → wpList Tryz.prog ops Q rest (a.put o.dst (.slice ya m yc)) w') : wpList Tryz.prog ops Q (o :: rest) a w := by
  refine wpList_app hgd s x ho B v hs 0 [] hv hB xa m c hx F xs hz hm (by omega) ?_
  intro ya yc w' h1 h2
  rw [Nat.zero_add] at h1
  rw [Nat.zero_add]
  exact h ya yc w' h1 h2

end Go.Proofs.YtkmpgcgdamcikaaGreatDoor
