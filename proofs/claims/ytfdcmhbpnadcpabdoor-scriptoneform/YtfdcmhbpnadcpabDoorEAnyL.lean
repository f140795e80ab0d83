/-
  codec.GetList of inputs, script.Decode: of any bytes.
-/
import Derived.Test.YtfdcmhbpnadcpabDoorEAnyI
namespace Go.Proofs.YtfdcmhbpnadcpabDoor
open Go.RowKit
set_option linter.unusedVariables false
set_option linter.unusedSimpArgs false
set_option maxRecDepth 100000

/-- a list that was read -/
def Gz (w : World) (F : Nat → Prop) (p : Nat) (bs : List Nat) (a : Option Addr) (m c : Nat) (w' : World) : Prop :=
  ∃ xs rest e', xs.length = m ∧ Il w' An a m c xs ∧ Rd w' F p rest e' ∧ Fl e' ∧ (e' = 0 → bs = be m 4 ++ (insB xs ++ rest)) ∧ m ≤ 65536 ∧ Kept (fun k => k = p) w w'
theorem insB_snoc' (l : List Inp) (x : Inp) : insB (l ++ [x]) = insB l ++ inB x := by simp [insB]
theorem il_nil (w : World) : Il w An none 0 0 [] := ⟨rfl, by omega, by omega, fun i x hx => by cases hx⟩
set_option maxHeartbeats 8000000 in
theorem getList_any (F : Nat → Prop) (p : Nat) (bs : List Nat) (w : World) (h : Rd w F p bs 0) (hF : ∀ k, F k → k < w.heap.size) (hs : bs.length ≤ 4194304) :
    Calls Tryd.prog 13 #[.pointer (some ⟨p, 0, none⟩), .int .i64 65536, .func (.func 14) #[] #[]] w fun ex w' => ∃ a m c, ex = .returned (.slice a m c) ∧ Gz w F p bs a m c w' := by
  obtain ⟨n, hn⟩ := cn_nat bs 0 65536
  have hb := h.lt
  have cC := count_any F p _ 0 65536 w h
  have BK := hid (fun h0 => backC (m := 65536) hb hn h0)
  have NO := hid (fun h0 => (cn_no (xs := bs) (e := 0) (m := 65536) h0).symm.trans hn)
  have F1 := hid (Fl.cn (xs := bs) (m := 65536) (.inl rfl))
  have hn4 : n ≤ 65536 := by
    by_cases h0 : cnE bs 0 65536 = 0
    · have := (BK.out h0).2.1; omega
    · have := NO.out h0; omega
  have hx1 := Nat.le_trans (cnRest_len bs 0 65536) hs
  rw [hn] at cC
  generalize hE : cnE bs 0 65536 = e1 at *
  generalize hR : cnRest bs 0 65536 = xs1 at *
  have hfp : F p := by obtain ⟨a, n, c, hv⟩ := h; exact hv.fp
  have HH := hid (And.intro hF (And.intro hfp hx1))
  clear h hF hfp hE hR hn hb hx1 hs
  go_enter Tryd.func13, Tryd.ntmps13
  go_wp2_with (go_at_call 27; refine cC.mono ?_; rintro ex w1 ⟨rfl, hd1⟩; have H1 := hid hd1; clear hd1 cC)
  go_loopw [7, 12] (fun u7 u12 wr => ∃ (k : Nat) (ka : Option Addr) (kc : Nat) (ys : List Inp) (rest : List Nat), k ≤ n ∧ u7 = .slice ka k kc ∧ u12 = .int .i64 k ∧ (∃ As, Gk wr w.heap.size (.slice ka k kc) k ys As) ∧ xs1 = insB ys ++ rest ∧ Rd wr F p rest e1 ∧ Kept (fun k => k = p) w wr) (fun _ u12 _ => n - (intOf u12).toNat)
  case atStart => exact ⟨0, none, 0, [], xs1, by omega, rfl, rfl, Gk.nil _ _, rfl, H1.out.1, H1.out.2⟩
  case round =>
    obtain ⟨k, ka, kc, ys, rest, hk, rfl, rfl, ⟨As, gk⟩, ex1, rd, kr⟩ := hrel
    clear H1
    by_cases hlt : k < n
    · have hltz : (k : Int) < (n : Int) := by omega
      obtain rfl : e1 = 0 := by
        by_cases h0 : e1 = 0
        · exact h0
        · have h1 := NO.out h0; omega
      have hrl : rest.length ≤ 4194304 := by have h1 := congrArg List.length ex1; rw [List.length_append] at h1; have := HH.out.2.2; omega
      have cI := hid (getInput_any F p rest 0 wr rd (fun j hj => Nat.lt_of_lt_of_le (HH.out.1 j hj) kr.size) hrl (.inl rfl))
      have HG := hid (And.intro gk (And.intro kr ex1))
      clear gk kr rd ex1 hrl
      go_upto_region 4 with fail
      go_cut [8] (fun u wd => ∃ x pb da dc, u = .pointer (some ⟨pb, 0, none⟩) ∧ wd.heap[pb]? = some (.cells (Inp.val x da dc) 34) ∧ Gx wr F p rest 0 x da dc wd)
      case first =>
        go_wp2_with (first
          | (go_at_call 14; refine cI.out.mono ?_; rintro ex w3 ⟨x, da, dc, rfl, g3⟩; have H3 := hid g3; clear g3)
          | (refine l_make 8 rfl rfl (er_alI rfl) ?_)
          | (refine l_turn rfl rfl (er_stI _ _ rfl w3.heap.size (x.val da dc) _ rfl rfl (alloc_new w3 _) rfl rfl (x.val_one da dc)) ?_))
        go_meet
        have KS : Kept No w3 ((w3.alloc (.cells Z4 34)).setRow w3.heap.size (x.val da dc)) := ((Kept.refl No w3).alloc _).setRow (.inr (Nat.le_refl _)) _
        obtain ⟨r3, e3, o3, d3, f3, p3, k6, l3, k3⟩ := H3.out
        exact ⟨x, w3.heap.size, da, dc, rfl, setRow_heap _ _ _ _ _ (0, 0) (alloc_new w3 _), r3, e3, KS.owns o3 (fun _ _ e => e), d3.kept KS (fun _ _ e => e), f3, p3, k6, l3, k3.trans KS (fun _ e => e.elim)⟩
      case rest =>
      rename World => w4
      obtain ⟨x, pb, da, dc, rfl, hpb, r3, e3, o4, r4, f4, p4, k6, hdl, k4⟩ := hcut
      have LP := hid (ldI (w := w4) (b := pb) (o := 0) (x := x) (da := da) (dc := dc) (fun j v hv => by rw [Nat.zero_add, cell_blk hpb, ← Array.getElem?_toList]; exact hv))
      have fc : w4.cell? ⟨p, 1, none⟩ = some (.int .i64 e3) := by obtain ⟨a', n', c', hv⟩ := r4; exact hv.c1
      have hpl := HH.out.1 p HH.out.2.1
      have ir4 : Ir w4 (Fe w4 w.heap.size) x da dc := by
        obtain ⟨a', c', e, hz⟩ := Zs.of_owns o4
        injection e with e1 _ e3
        subst e1 e3
        refine ⟨hz.mono (fun g hg => ?_), by omega, k6.1⟩
        obtain ⟨q1, cs, q2⟩ := owns_blk o4 hg
        exact ⟨Nat.le_trans HG.out.2.1.size q1, cs, _, q2⟩
      have G4 := hid (HG.out.1.kept k4 (fun q hq e => by have e' : q = p := e; omega))
      have H4 := hid (And.intro ir4 (And.intro r4 (HG.out.2.1.trans k4 (fun _ e => .inl e))))
      have P4 := hid p4
      clear ir4 r4 k4 o4 hpb cI p4 k6
      have no : ∀ w5 : World, Kept (fun k => k = p) w w4 → True := fun _ _ => trivial
      clear no
      rcases f4 with rfl | rfl | rfl
      · have p4 := (P4.out rfl).2
        have ex2 : xs1 = insB (ys ++ [x]) ++ r3 := by rw [HG.out.2.2, insB_snoc', List.append_assoc, ← p4]
        have EX := hid ex2
        clear p4 ex2 P4
        go_wp2_with (first
          | (refine l_take 23 rfl rfl (er_ldX 34 (.tmp 8) rfl (.pointer (some ⟨pb, 0, none⟩)) (.agg (x.val da dc)) rfl LP.out) ?_)
          | (refine l_make 24 rfl rfl (er_bsG 23 34 4 48 Z4 (x.val da dc) _ rfl Tryd.underlying23 Tryd.infoI (by decide) (by decide) rfl (fill_I x da dc)) ?_)
          | (at_builtin; refine wpList_apK rfl _ _ 23 34 rfl w.heap.size (.agg Z4) 4 48 Tryd.underlying23 Tryd.infoI rfl (by decide) (.slice ka k kc) k _ rfl ((G4.out.keep ((Kept.refl No w4).alloc _)).own) (by rw [World.size_alloc]; have h1 := H4.out.2.2.size; omega) ⟨w4.heap.size, 0, none⟩ 1 1 (x.val da dc).toList rfl rfl (news_alloc w4 (x.val da dc) 34) (all_mem (x.val_one da dc)) (by omega) (by omega) (by decide) ?_; intro g7 c7 w5 o5 k5))
        have KA : Kept No w4 (w4.alloc (.cells (x.val da dc) 34)) := (Kept.refl No w4).alloc _
        refine ⟨⟨k + 1, some ⟨g7, 0, none⟩, c7, ys ++ [x], r3, by omega, rfl, by go_num, ?_, EX.out, ?_, ?_⟩, ?_⟩
        · exact (G4.out.keep KA).more ((H4.out.1.keep KA).mono (fun q hq => hq.kept KA (fun e => e))) k5.out o5.out
        · exact (H4.out.2.1.kept KA (fun _ _ e => e)).kept k5.out (fun b hb e => by have h1 := (owns_blk G4.out.own e).1; have h2 := HH.out.1 b hb; omega)
        · exact (H4.out.2.2.trans KA (fun _ e => e.elim)).trans k5.out (fun q e => .inr (owns_blk G4.out.own e).1)
        · simp [intOf]; omega
      · clear P4
        go_wp2
        go_ret
        exact ⟨none, 0, 0, rfl, [], _, 1, rfl, il_nil _, H4.out.2.1, .inr (.inl rfl), fun h => absurd h (by decide), by omega, H4.out.2.2⟩
      · clear P4
        go_wp2
        go_ret
        exact ⟨none, 0, 0, rfl, [], _, 20, rfl, il_nil _, H4.out.2.1, .inr (.inr rfl), fun h => absurd h (by decide), by omega, H4.out.2.2⟩
    · have hltz : ¬ (k : Int) < (n : Int) := by omega
      obtain rfl : k = n := by omega
      have HG := hid (And.intro gk (And.intro rd (And.intro kr ex1)))
      clear gk rd kr ex1
      go_wp2
      go_ret
      exact ⟨ka, k, kc, rfl, ys, rest, e1, HG.out.1.len, HG.out.1.il, HG.out.2.1, F1.out, fun h0 => by rw [← HG.out.2.2.2]; exact (BK.out h0).2.2.2, hn4, HG.out.2.2.1⟩
end Go.Proofs.YtfdcmhbpnadcpabDoor
