/-
  script.Read of one text; the law's known.
-/
import Derived.Test.YtfdcmhbpnadcpabDoorIRdl
import Derived.Lib.ConvBytes
namespace Go.Proofs.YtfdcmhbpnadcpabDoor
open Go.RowKit
set_option linter.unusedVariables false
set_option linter.unusedSimpArgs false
set_option maxRecDepth 100000

theorem er_cvS {w : World} {a : Act} {o : Oper} (x : Operand) (ho : o.op = .convert 22 9 x) (tb cap : Nat) (hx : a.eval x = .slice (some ⟨tb, 0, none⟩) 19 cap) (hc : ∀ j (hj : j < ([35, 10, 55, 32, 109, 101, 115, 115, 97, 103, 101, 32, 50, 32, 53, 32, 45, 49, 10] : List UInt8).length), w.cell? ((⟨tb, 0, none⟩ : Addr).add j) = some (.int .u8 ((([35, 10, 55, 32, 109, 101, 115, 115, 97, 103, 101, 32, 50, 32, 53, 32, 45, 49, 10] : List UInt8)[j]'hj).toNat : Int))) : (execOp a.eval o).run Tryd.prog w = .ok (.value (.string ⟨#[35, 10, 55, 32, 109, 101, 115, 115, 97, 103, 101, 32, 50, 32, 53, 32, 45, 49, 10]⟩)) w := by
  have := run_convert_bytes_back (P := Tryd.prog) w 22 9 5 ⟨tb, 0, none⟩ cap ([35, 10, 55, 32, 109, 101, 115, 115, 97, 103, 101, 32, 50, 32, 53, 32, 45, 49, 10] : List UInt8) Tryd.underlying22 Tryd.underlying5 Tryd.underlying9 hc
  simp only [execOp, ho, hx, Sem.run_bind]
  rw [show (19 : Nat) = ([35, 10, 55, 32, 109, 101, 115, 115, 97, 103, 101, 32, 50, 32, 53, 32, 45, 49, 10] : List UInt8).length from rfl, this]
  rfl
set_option maxHeartbeats 16000000 in
theorem read_text (w : World) (tb cap : Nat) (hc : ∀ j (hj : j < ([35, 10, 55, 32, 109, 101, 115, 115, 97, 103, 101, 32, 50, 32, 53, 32, 45, 49, 10] : List UInt8).length), w.cell? ((⟨tb, 0, none⟩ : Addr).add j) = some (.int .u8 ((([35, 10, 55, 32, 109, 101, 115, 115, 97, 103, 101, 32, 50, 32, 53, 32, 45, 49, 10] : List UInt8)[j]'hj).toNat : Int))) (he : En w) : Calls Tryd.prog 17 #[.slice (some ⟨tb, 0, none⟩) 19 cap] w fun r w' => ∃ ra rc, r = .returned (.tuple #[.slice ra 1 rc, .int .i64 0, .int .i64 0]) ∧ Il w' An ra 1 rc [x0] ∧ Kept No w w' := by
  have HH := hid (And.intro hc he)
  have C1 : Hid (∀ W, Calls Tryd.prog 32 #[.string ⟨#[35, 10, 55, 32, 109, 101, 115, 115, 97, 103, 101, 32, 50, 32, 53, 32, 45, 49, 10]⟩, .string ⟨#[10]⟩] W fun e w'' => e = .returned (.tuple #[.string ⟨#[35]⟩, .string ⟨#[55, 32, 109, 101, 115, 115, 97, 103, 101, 32, 50, 32, 53, 32, 45, 49, 10]⟩, .bool true]) ∧ Kept No W w'') := fun W => scut_yes 1 ⟨#[35]⟩ ⟨#[55, 32, 109, 101, 115, 115, 97, 103, 101, 32, 50, 32, 53, 32, 45, 49, 10]⟩ W (by kernel_rfl) (by decide) (by decide) (by kernel_rfl) (by kernel_rfl)
  have C2 : Hid (∀ W, Calls Tryd.prog 32 #[.string ⟨#[55, 32, 109, 101, 115, 115, 97, 103, 101, 32, 50, 32, 53, 32, 45, 49, 10]⟩, .string ⟨#[10]⟩] W fun e w'' => e = .returned (.tuple #[.string ⟨#[55, 32, 109, 101, 115, 115, 97, 103, 101, 32, 50, 32, 53, 32, 45, 49]⟩, .string ⟨#[]⟩, .bool true]) ∧ Kept No W w'') := fun W => scut_yes 16 ⟨#[55, 32, 109, 101, 115, 115, 97, 103, 101, 32, 50, 32, 53, 32, 45, 49]⟩ ⟨#[]⟩ W (by kernel_rfl) (by decide) (by decide) (by kernel_rfl) (by kernel_rfl)
  have C3 : Hid (∀ W, Calls Tryd.prog 32 #[.string ⟨#[]⟩, .string ⟨#[10]⟩] W fun e w'' => e = .returned (.tuple #[.string ⟨#[]⟩, .string ⟨#[]⟩, .bool false]) ∧ Kept No W w'') := fun W => scut_no W (by kernel_rfl)
  have P1 : Hid (∀ W, Calls Tryd.prog 33 #[.string ⟨#[35]⟩, .string ⟨#[35]⟩] W fun e w'' => e = .returned (.bool true) ∧ w'' = W) := fun W => (has_prefix ⟨#[35]⟩ ⟨#[35]⟩ W).mono (fun r w'' h => ⟨h.1.trans (by kernel_rfl), h.2⟩)
  have P2 : Hid (∀ W, Calls Tryd.prog 33 #[.string ⟨#[55, 32, 109, 101, 115, 115, 97, 103, 101, 32, 50, 32, 53, 32, 45, 49]⟩, .string ⟨#[35]⟩] W fun e w'' => e = .returned (.bool false) ∧ w'' = W) := fun W => (has_prefix ⟨#[55, 32, 109, 101, 115, 115, 97, 103, 101, 32, 50, 32, 53, 32, 45, 49]⟩ ⟨#[35]⟩ W).mono (fun r w'' h => ⟨h.1.trans (by kernel_rfl), h.2⟩)
  clear hc he
  go_enter Tryd.func17, Tryd.ntmps17
  go_upto_region 2 with fail
  go_wp2_with (refine l_take 13 rfl rfl (er_cvS _ rfl tb cap rfl HH.out.1) ?_)
  go_loopw [5, 6, 7, 8] (fun u5 u6 u7 u8 wr => ((u5 = .slice none 0 0 ∧ u6 = .string ⟨#[35, 10, 55, 32, 109, 101, 115, 115, 97, 103, 101, 32, 50, 32, 53, 32, 45, 49, 10]⟩ ∧ u7 = .bool true ∧ u8 = .int .i64 1) ∨ (u5 = .slice none 0 0 ∧ u6 = .string ⟨#[55, 32, 109, 101, 115, 115, 97, 103, 101, 32, 50, 32, 53, 32, 45, 49, 10]⟩ ∧ u7 = .bool true ∧ u8 = .int .i64 2) ∨ (∃ ka kc, u5 = .slice ka 1 kc ∧ u6 = .string ⟨#[]⟩ ∧ u7 = .bool true ∧ u8 = .int .i64 3 ∧ Il wr An ka 1 kc [x0]) ∨ (∃ ka kc, u5 = .slice ka 1 kc ∧ u6 = .string ⟨#[]⟩ ∧ u7 = .bool false ∧ u8 = .int .i64 4 ∧ Il wr An ka 1 kc [x0])) ∧ Kept No w wr) (fun _ u6 u7 _ _ => lenS u6 + lenB u7)
  case atStart => exact ⟨.inl ⟨rfl, rfl, rfl, rfl⟩, Kept.refl _ _⟩
  case round =>
    obtain ⟨hst, kr⟩ := hrel
    rcases hst with ⟨rfl, rfl, rfl, rfl⟩ | ⟨rfl, rfl, rfl, rfl⟩ | ⟨ka, kc, rfl, rfl, rfl, rfl, il⟩ | ⟨ka, kc, rfl, rfl, rfl, rfl, il⟩
    · have KR := hid kr
      clear kr C2 C3 P2
      go_wp2_with (first
        | (go_at_call 32; refine (C1.out wr).mono ?_; rintro r w3 ⟨rfl, k3⟩; have K3 := hid k3; clear k3)
        | (go_at_call 33; refine (P1.out w3).mono ?_; rintro r w4 ⟨rfl, rfl⟩))
      refine ⟨⟨.inr (.inl ⟨rfl, rfl, rfl, rfl⟩), KR.out.trans K3.out (fun _ e => e.elim)⟩, ?_⟩
      decide
    · have KR := hid kr
      clear kr C1 C3 P1
      go_upto_region 9 with (first
        | (go_at_call 32; refine (C2.out wr).mono ?_; rintro r w3 ⟨rfl, k3⟩; have K3 := hid k3; clear k3)
        | (go_at_call 33; refine (P2.out w3).mono ?_; rintro r w4 ⟨rfl, rfl⟩))
      have K4 : Hid (Kept No w w4) := KR.out.trans K3.out (fun _ e => e.elim)
      have CL := hid (readLine_one w4 (HH.out.2.keep K4.out))
      clear KR K3
      go_upto_region 11 with fail
      go_cut [10, 11] (fun u v wd => ∃ pb da dc, u = .pointer (some ⟨pb, 0, none⟩) ∧ v = .bool true ∧ wd.heap[pb]? = some (.cells (XA da dc) 34) ∧ wd.ownsRow w4.heap.size 2 1 (.slice da 2 dc) 2 ([5, -1].map iv) ∧ Kept No w4 wd)
      case first =>
        go_wp2_with (first
          | (go_at_call 34; refine CL.out.mono ?_; rintro r w5 ⟨da, dc, rfl, ow5, k5⟩; have H5 := hid (And.intro ow5 k5); clear ow5 k5)
          | (refine l_make 10 rfl rfl (er_alI rfl) ?_)
          | (refine l_turn rfl rfl (er_stI _ _ rfl w5.heap.size (XA da dc) _ rfl rfl (alloc_new w5 _) rfl rfl (x_all _ _ _)) ?_))
        go_meet
        have KS : Kept No w5 ((w5.alloc (.cells Z4 34)).setRow w5.heap.size (XA da dc)) := ((Kept.refl No w5).alloc _).setRow (.inr (Nat.le_refl _)) _
        exact ⟨w5.heap.size, da, dc, rfl, rfl, setRow_heap _ _ _ _ _ (0, 0) (alloc_new w5 _), KS.owns H5.out.1 (fun _ _ e => e), H5.out.2.trans KS (fun _ e => e.elim)⟩
      case rest =>
      rename World => w6
      obtain ⟨pb, da, dc, rfl, rfl, hpb, ow6, k6⟩ := hcut
      have LX : Hid ((Instr.loadAt 34 (.pointer (some ⟨pb, 0, none⟩))).run Tryd.prog w6 = .ok (.agg (XA da dc)) w6) := ldSt 34 _ (XA da dc) (fun j v hv => by rw [Nat.zero_add, cell_blk hpb, ← Array.getElem?_toList]; exact hv) Tryd.underlying34 rfl Tryd.infoI4
      have ir6 : Ir w6 (Fd w6 w6.heap.size) x0 da dc := by
        obtain ⟨a', c', e, hz⟩ := Zs.of_owns (xs := [5, -1]) ow6
        injection e with e1 _ e3
        subst e1 e3
        refine ⟨hz.mono (fun g hg => .inr ?_), by decide, ⟨by decide, by decide⟩⟩
        obtain ⟨_, cs, h2⟩ := owns_blk ow6 hg
        exact ⟨cs, _, h2⟩
      have K6 := hid (K4.out.trans k6 (fun _ e => e.elim))
      have I6 := hid ir6
      clear ir6 k6 ow6 hpb CL
      go_wp2_with (first
        | (refine l_take 42 rfl rfl (er_ldX 34 _ rfl (.pointer (some ⟨pb, 0, none⟩)) (.agg (XA da dc)) rfl LX.out) ?_)
        | (refine l_make 43 rfl rfl (er_bsG 23 34 4 48 Z4 (XA da dc) _ rfl Tryd.underlying23 Tryd.infoI (by decide) (by decide) rfl (fill_I x0 da dc)) ?_)
        | (at_builtin; refine wpList_apK rfl _ _ 23 34 rfl w6.heap.size (.agg Z4) 4 48 Tryd.underlying23 Tryd.infoI rfl (by decide) (.slice none 0 0) 0 [] rfl (World.ownsRow_nil _ _ _ _) (by rw [World.size_alloc]; omega) ⟨w6.heap.size, 0, none⟩ 1 1 (XA da dc).toList rfl rfl (news_alloc w6 (XA da dc) 34) (all_mem (x0.val_one da dc)) (by omega) (by omega) (by decide) ?_; intro g7 c7 w7 o7 k7))
      have KA : Kept No w6 (w6.alloc (.cells (XA da dc) 34)) := (Kept.refl No w6).alloc _
      have g7i : Gi w7 w6.heap.size (.slice (some ⟨g7, 0, none⟩) (0 + 1) c7) (0 + 1) ([] ++ [x0]) := by
        obtain ⟨As, gj⟩ := Gi.nil (w6.alloc (.cells (XA da dc) 34)) w6.heap.size
        exact gj.more (da := da) (dc := dc) ((I6.out.keep KA).mono (fun q hq => hq.kept KA (fun e => e))) k7.out o7.out
      refine ⟨⟨.inr (.inr (.inl ⟨some ⟨g7, 0, none⟩, c7, rfl, rfl, rfl, rfl, g7i.il⟩)), ?_⟩, ?_⟩
      · exact (K6.out.trans KA (fun _ e => e.elim)).trans k7.out (fun x e => by cases e)
      · decide
    · have q1 := il.cap
      have q2 := il.max
      have KR := hid (And.intro kr il)
      clear kr il C1 C2 P1 P2
      go_wp2_with (go_at_call 32; refine (C3.out wr).mono ?_; rintro r w3 ⟨rfl, k3⟩; have K3 := hid k3; clear k3)
      refine ⟨⟨.inr (.inr (.inr ⟨ka, kc, rfl, rfl, rfl, rfl, KR.out.2.keep K3.out⟩)), KR.out.1.trans K3.out (fun _ e => e.elim)⟩, ?_⟩
      decide
    · have KR := hid (And.intro kr il)
      clear kr il C1 C2 C3 P1 P2
      go_wp2
      go_ret3
      exact ⟨ka, kc, rfl, KR.out.2, KR.out.1⟩
end Go.Proofs.YtfdcmhbpnadcpabDoor
