/-
  One text: RWrk.
-/
import Derived.Test.YtnmhcnppdhdhfaaGreatDoorG04
namespace Go.Proofs.YtnmhcnppdhdhfaaGreatDoor
open Go.RowKit
set_option linter.unusedVariables false
set_option linter.unusedSimpArgs false
set_option maxRecDepth 100000

/-- what is worked, in its cells -/
theorem work_cells (f : Nat → Wr) (i : Nat) (k : Rp.Wk) (l2 w2 : Nat) (a b : Nat) (hb : b < 11) :
    (if a = i ∧ b = 10 then Value.int .i64 (w2 : Int) else if a = i ∧ b = 7 then Value.int .i64 (l2 : Int) else cellv (upd f i ((f i).at k) a) b) = cellv (upd f i ((f i).at { k with left := l2, worst := w2 }) a) b := by
  by_cases e : a = i
  · subst e
    rw [upd_at, upd_at]
    match b, hb with
    | 0, _ => simp [cellv, Wr.at]
    | 1, _ => simp [cellv, Wr.at]
    | 2, _ => simp [cellv, Wr.at]
    | 3, _ => simp [cellv, Wr.at]
    | 4, _ => simp [cellv, Wr.at]
    | 5, _ => simp [cellv, Wr.at]
    | 6, _ => simp [cellv, Wr.at]
    | 7, _ => simp [cellv, Wr.at]
    | 8, _ => simp [cellv, Wr.at]
    | 9, _ => simp [cellv, Wr.at]
    | 10, _ => simp [cellv, Wr.at]
  · unfold upd
    simp [e]
theorem work_cells1 (f : Nat → Wr) (i : Nat) (k : Rp.Wk) (l2 : Nat) (a b : Nat) (hb : b < 11) :
    (if a = i ∧ b = 7 then Value.int .i64 (l2 : Int) else cellv (upd f i ((f i).at k) a) b) = cellv (upd f i ((f i).at { k with left := l2 }) a) b := by
  by_cases e : a = i
  · subst e
    rw [upd_at, upd_at]
    match b, hb with
    | 0, _ => simp [cellv, Wr.at]
    | 1, _ => simp [cellv, Wr.at]
    | 2, _ => simp [cellv, Wr.at]
    | 3, _ => simp [cellv, Wr.at]
    | 4, _ => simp [cellv, Wr.at]
    | 5, _ => simp [cellv, Wr.at]
    | 6, _ => simp [cellv, Wr.at]
    | 7, _ => simp [cellv, Wr.at]
    | 8, _ => simp [cellv, Wr.at]
    | 9, _ => simp [cellv, Wr.at]
    | 10, _ => simp [cellv, Wr.at]
  · unfold upd
    simp [e]
def worked (k : Rp.Wk) (now t : Nat) : Rp.Wk := { k with left := k.left - t, worst := if k.left = t then max k.worst (now + t - k.released) else k.worst }
theorem min_int {a b : Int} : (if a < b then a else b) = min a b := by omega

set_option maxHeartbeats 8000000 in
theorem workOn_any {g N : Nat} {f : Nat → Wr} {i : Nat} (k : Rp.Wk) (now below t : Nat) (w : World) (h : Ln w g N (upd f i ((f i).at k))) (hi : i < N) (hnb : now < below) (hl : 0 < k.left) (ht : t = min k.left (below - now)) (hrl : k.released ≤ now) (hb : below ≤ 4398046511104) (hw : k.worst ≤ 4398046511104) (hk : k.left ≤ 4398046511104) :
    Calls Tryz.prog 53 #[.pointer (some ⟨g, i * 11, none⟩), .int .i64 now, .int .i64 below] w fun e w' => e = .returned (.int .i64 ((now + t : Nat) : Int)) ∧ Ln w' g N (upd f i ((f i).at (worked k now t))) ∧ Kept (At g) w w' := by
  have hu : upd f i ((f i).at k) i = (f i).at k := upd_at _ _ _
  have c7 := h.cells hi 7 (by omega)
  have c8 := h.cells hi 8 (by omega)
  have c10 := h.cells hi 10 (by omega)
  rw [hu] at c7 c8 c10
  simp only [cellv, Wr.at] at c7 c8 c10
  have f7 := h.fz (i * 11 + 7)
  have HL : Hid (Ln w g N (upd f i ((f i).at k))) := h
  have hsub : IntKind.i64.wrap ((below : Int) - (now : Int)) = ((below - now : Nat) : Int) := by rw [IntWalk.i64_in _ ⟨by omega, by omega⟩]; omega
  have hmin : (if below - now < k.left then ((below - now : Nat) : Int) else (k.left : Int)) = (t : Int) := by split <;> omega
  have hs2 : IntKind.i64.wrap ((k.left : Int) - (t : Int)) = ((k.left - t : Nat) : Int) := by rw [IntWalk.i64_in _ ⟨by omega, by omega⟩]; omega
  have hs3 : IntKind.i64.wrap ((now : Int) + (t : Int)) = ((now + t : Nat) : Int) := by rw [IntWalk.i64_in _ ⟨by omega, by omega⟩]; omega
  have hs4 : IntKind.i64.wrap (((now + t : Nat) : Int) - (k.released : Int)) = ((now + t - k.released : Nat) : Int) := by rw [IntWalk.i64_in _ ⟨by omega, by omega⟩]; omega
  have htl : t ≤ k.left := by omega
  have htb : now + t ≤ below := by omega
  clear h hu ht
  go_enter Tryz.func53, Tryz.ntmps53
  go_upto_region 2 with fail
  try rw [hmin]
  go_upto_region 4 with fail
  have L2 : LnF (w.setCell ⟨g, i * 11 + 7, none⟩ (.int .i64 ((k.left - t : Nat) : Int))) g N (fun a b => if a = i ∧ b = 7 then Value.int .i64 ((k.left - t : Nat) : Int) else cellv (upd f i ((f i).at k) a) b) := LnF.put HL.out (i := i) (j := 7) (by omega) _
  have K2 : Kept (At g) w (w.setCell ⟨g, i * 11 + 7, none⟩ (.int .i64 ((k.left - t : Nat) : Int))) := (Kept.refl (At g) w).setCell (p := ⟨g, i * 11 + 7, none⟩) (.inl rfl) _
  clear c7 c8 c10 f7
  rw [show ((now : Int) + (t : Int)) = ((now + t : Nat) : Int) from (Int.natCast_add _ _).symm]
  generalize w.setCell ⟨g, i * 11 + 7, none⟩ (.int .i64 ((k.left - t : Nat) : Int)) = w5 at *
  have hu : upd f i ((f i).at k) i = (f i).at k := upd_at _ _ _
  have e8 : w5.cell? ⟨g, i * 11 + 8, none⟩ = some (cellv (upd f i ((f i).at k) i) 8) := (L2.2 i 8 hi (by omega)).trans (by simp)
  have e10 : w5.cell? ⟨g, i * 11 + 10, none⟩ = some (cellv (upd f i ((f i).at k) i) 10) := (L2.2 i 10 hi (by omega)).trans (by simp)
  have e7 : w5.cell? ⟨g, i * 11 + 7, none⟩ = some (.int .i64 ((k.left - t : Nat) : Int)) := (L2.2 i 7 hi (by omega)).trans (by simp)
  rw [hu] at e8 e10
  simp only [cellv, Wr.at] at e8 e10
  have f10 := L2.fz (i * 11 + 10)
  have H2 : Hid (LnF w5 g N (fun a b => if a = i ∧ b = 7 then Value.int .i64 ((k.left - t : Nat) : Int) else cellv (upd f i ((f i).at k) a) b) ∧ Kept (At g) w w5) := ⟨L2, K2⟩
  obtain ⟨l2, hl2⟩ : ∃ l2, k.left - t = l2 := ⟨_, rfl⟩
  rw [hl2] at e7 H2 ⊢
  clear L2 K2 hu hs2 hmin hsub hs3
  by_cases hlt : k.left = t
  · have hzb : ((l2 : Int) == 0) = true := by simp; omega
    obtain ⟨n2, hn2⟩ : ∃ n2, now + t = n2 := ⟨_, rfl⟩
    rw [hn2] at hs4 ⊢
    obtain ⟨d, hd⟩ : ∃ d, n2 - k.released = d := ⟨_, rfl⟩
    rw [hd] at hs4
    have hmx : (if k.worst < d then (d : Int) else (k.worst : Int)) = ((max k.worst d : Nat) : Int) := by split <;> omega
    have hW : Hid (worked k now t = { k with left := l2, worst := max k.worst d }) := by show worked k now t = _; unfold worked; rw [if_pos hlt, hl2, hn2, hd]
    have HN : Hid (now + t = n2) := hn2
    clear hlt hl2 hn2 hd
    go_upto_region 5 with fail
    go_region
    have L3 : Ln (w5.setCell ⟨g, i * 11 + 10, none⟩ (.int .i64 ((max k.worst d : Nat) : Int))).drew g N (upd f i ((f i).at { k with left := l2, worst := max k.worst d })) :=
      LnF.congr ((LnF.put H2.out.1 (i := i) (j := 10) (by omega) (.int .i64 ((max k.worst d : Nat) : Int))).kept (Kept.refl No _).drew (fun h => h)) (fun a b _ hb => work_cells f i k l2 (max k.worst d) a b hb)
    have H3 : Hid (Ln (w5.setCell ⟨g, i * 11 + 10, none⟩ (.int .i64 ((max k.worst d : Nat) : Int))).drew g N (upd f i ((f i).at (worked k now t))) ∧ Kept (At g) w (w5.setCell ⟨g, i * 11 + 10, none⟩ (.int .i64 ((max k.worst d : Nat) : Int))).drew) := ⟨by rw [hW.out]; exact L3, (H2.out.2.setCell (p := ⟨g, i * 11 + 10, none⟩) (.inl rfl) _).drew⟩
    clear L3 e7 e8 e10 f10 H2
    generalize (w5.setCell ⟨g, i * 11 + 10, none⟩ (.int .i64 ((max k.worst d : Nat) : Int))).drew = w6 at *
    go_wp2
    go_ret
    exact ⟨by rw [HN.out]; rfl, H3.out.1, H3.out.2⟩
  · have hzb : ((l2 : Int) == 0) = false := by simp; omega
    have hW : Hid (worked k now t = { k with left := l2 }) := by show worked k now t = _; unfold worked; rw [if_neg hlt, hl2]
    clear hlt hl2
    go_wp2
    go_ret
    exact ⟨rfl, by rw [hW.out]; exact LnF.congr H2.out.1 (fun a b _ hb => work_cells1 f i k l2 a b hb), H2.out.2⟩
end Go.Proofs.YtnmhcnppdhdhfaaGreatDoor
