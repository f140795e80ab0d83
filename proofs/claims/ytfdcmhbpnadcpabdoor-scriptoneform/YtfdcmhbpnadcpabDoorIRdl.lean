/-
  script.readLine, script.Read of one text.
-/
import Derived.Test.YtfdcmhbpnadcpabDoorIRead
namespace Go.Proofs.YtfdcmhbpnadcpabDoor
open Go.RowKit
set_option linter.unusedVariables false
set_option linter.unusedSimpArgs false
set_option maxRecDepth 100000

def XA (da : Option Addr) (dc : Nat) : Array Value := #[.int .i64 7, .int .i64 1, .int .i64 2, .slice da 2 dc]
def x0 : Inp := ⟨7, 1, 2, [5, -1]⟩
theorem x0_val (da : Option Addr) (dc : Nat) : x0.val da dc = XA da dc := rfl
set_option maxHeartbeats 8000000 in
theorem readLine_one (w : World) (he : En w) : Calls Tryd.prog 34 #[.string ⟨#[55, 32, 109, 101, 115, 115, 97, 103, 101, 32, 50, 32, 53, 32, 45, 49]⟩] w fun r w' => ∃ da dc, r = .returned (.tuple #[.agg (XA da dc), .bool true]) ∧ w'.ownsRow w.heap.size 2 1 (.slice da 2 dc) 2 ([5, -1].map iv) ∧ Kept No w w' := by
  obtain ⟨w2, e2⟩ : ∃ w2, w2 = w.alloc (.cells #[.int .i64 0, .int .i64 0, .int .i64 0, .slice none 0 0] 34) := ⟨_, rfl⟩
  have K1 : Kept No w w2 := by rw [e2]; exact (Kept.refl No w).alloc _
  have BR : w2.heap[w.heap.size]? = some (.cells #[.int .i64 0, .int .i64 0, .int .i64 0, .slice none 0 0] 34) := by rw [e2]; exact alloc_new w _
  have S1 : Hid (w.heap.size < w2.heap.size) := heap_lt BR
  have HH := hid (And.intro K1 (And.intro BR (he.keep K1)))
  have C1 : Hid (∀ W, Calls Tryd.prog 32 #[.string ⟨#[55, 32, 109, 101, 115, 115, 97, 103, 101, 32, 50, 32, 53, 32, 45, 49]⟩, .string ⟨#[32]⟩] W fun e w'' => e = .returned (.tuple #[.string ⟨#[55]⟩, .string ⟨#[109, 101, 115, 115, 97, 103, 101, 32, 50, 32, 53, 32, 45, 49]⟩, .bool true]) ∧ Kept No W w'') := fun W => scut_yes 1 ⟨#[55]⟩ ⟨#[109, 101, 115, 115, 97, 103, 101, 32, 50, 32, 53, 32, 45, 49]⟩ W (by kernel_rfl) (by decide) (by decide) (by kernel_rfl) (by kernel_rfl)
  have C2 : Hid (∀ W, Calls Tryd.prog 32 #[.string ⟨#[109, 101, 115, 115, 97, 103, 101, 32, 50, 32, 53, 32, 45, 49]⟩, .string ⟨#[32]⟩] W fun e w'' => e = .returned (.tuple #[.string ⟨#[109, 101, 115, 115, 97, 103, 101]⟩, .string ⟨#[50, 32, 53, 32, 45, 49]⟩, .bool true]) ∧ Kept No W w'') := fun W => scut_yes 7 ⟨#[109, 101, 115, 115, 97, 103, 101]⟩ ⟨#[50, 32, 53, 32, 45, 49]⟩ W (by kernel_rfl) (by decide) (by decide) (by kernel_rfl) (by kernel_rfl)
  clear K1 BR he
  go_enter Tryd.func34, Tryd.ntmps34
  go_upto_region 1 with fail
  rw [← e2]
  clear e2
  go_upto_region 2 with (go_at_call 32; refine (C1.out w2).mono ?_; rintro r w3 ⟨rfl, k3⟩; have K3 := hid k3; clear k3 C1)
  go_upto_region 3 with (go_at_call 32; refine (C2.out w3).mono ?_; rintro r w4 ⟨rfl, k4⟩; have K4 := hid (K3.out.trans k4 (fun _ e => e.elim)); clear k4 K3 C2)
  have LG : Hid ((Instr.loadAt 64 (.pointer (some ⟨0, 0, none⟩))).run Tryd.prog w4 = .ok (.agg KC) w4) := ldSt 64 _ KC (fun j v hv => by rw [Nat.zero_add]; exact K4.out.cell (HH.out.2.2.kn j v hv) (fun e => e)) Tryd.underlying64 rfl Tryd.infoK10
  go_wp2_with (refine l_take 23 rfl rfl (er_ldX 64 _ rfl (.pointer (some ⟨0, 0, none⟩)) (.agg KC) rfl LG.out) ?_)
  go_loopw [24] (fun u24 wr => u24 = .int .i64 0 ∧ w4 = wr) (fun _ _ => 0)
  case atStart => exact ⟨rfl, rfl⟩
  case round =>
    obtain ⟨rfl, rfl⟩ := hrel
    go_upto_region 5 with fail
    go_cut [10] (fun u wd => ∃ pb, u = .pointer (some ⟨pb, 0, none⟩) ∧ wd.heap[pb]? = some (.cells KM 63) ∧ Kept No w4 wd)
    case first =>
      go_wp2_with (first
        | (refine l_take 26 rfl rfl (er_ixK _ _ rfl rfl rfl) ?_)
        | (refine l_make 10 rfl rfl (er_alK rfl) ?_)
        | (refine l_turn rfl rfl (er_stK _ _ rfl w4.heap.size KM _ rfl rfl (alloc_new w4 _) rfl rfl KM_all) ?_))
      go_meet
      exact ⟨w4.heap.size, rfl, setRow_heap _ _ _ _ _ (0, 0) (alloc_new w4 _), ((Kept.refl No w4).alloc _).setRow (.inr (Nat.le_refl _)) _⟩
    case rest =>
    rename World => w5
    obtain ⟨pb, rfl, hpb, k5⟩ := hcut
    have m1 : w5.cell? ⟨pb, 1, none⟩ = some (.string ⟨#[109, 101, 115, 115, 97, 103, 101]⟩) := (cell_blk hpb 1).trans rfl
    have LK : Hid ((Instr.loadAt 63 (.pointer (some ⟨pb, 0, none⟩))).run Tryd.prog w5 = .ok (.agg KM) w5) := ldSt 63 _ KM (fun j v hv => by rw [Nat.zero_add, cell_blk hpb, ← Array.getElem?_toList]; exact hv) Tryd.underlying63 rfl Tryd.infoK5
    have CR := hid (read_one w5)
    have K5 := hid (K4.out.trans k5 (fun _ e => e.elim))
    have BR5 := hid ((K4.out.trans k5 (fun _ e => e.elim)).at' HH.out.2.1 (fun e => e))
    clear k5 hpb LG K4
    go_wp2_with (first
      | (refine l_take 31 rfl rfl (er_ldX 63 _ rfl (.pointer (some ⟨pb, 0, none⟩)) (.agg KM) rfl LK.out) ?_)
      | (go_at_call 52; refine CR.out.mono ?_; rintro r w6 ⟨da, dc, rfl, ow6, k6⟩; have H6 := hid (And.intro ow6 k6); have B6 := hid (k6.at' BR5.out (fun e => e)); clear ow6 k6 m1)
      | (refine l_turn rfl rfl (er_stI _ _ rfl w.heap.size (XA da dc) _ rfl rfl B6.out rfl rfl (x_all _ _ _)) ?_))
    have hfin := setRow_heap w6 w.heap.size _ (XA da dc) 34 (0, 0) B6.out
    refine bodyPost_ret (results_cell_tmp rfl _ _ w.heap.size 34 (XA da dc) (0, 0) _ rfl hfin Tryd.underlying34 rfl (by kernel_rfl)) rfl ?_
    have s1 := S1.out
    have s5 := K5.out.size
    have KF : Kept (fun x => x = w.heap.size) w6 (w6.setRow w.heap.size (XA da dc)) := (Kept.refl (fun x => x = w.heap.size) w6).setRow (.inl rfl) _
    refine ⟨da, dc, rfl, owns_base (KF.owns H6.out.1 (fun g hg e => by have := (owns_blk H6.out.1 hg).1; have e' : g = w.heap.size := e; omega)) (by omega), ?_⟩
    exact ((HH.out.1.trans K5.out (fun _ e => e.elim)).trans H6.out.2 (fun _ e => e.elim)).trans KF (fun x e => .inr (by have e' : x = w.heap.size := e; omega))
end Go.Proofs.YtfdcmhbpnadcpabDoor
