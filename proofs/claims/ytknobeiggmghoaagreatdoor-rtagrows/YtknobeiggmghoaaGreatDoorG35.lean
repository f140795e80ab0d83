/-
  One text: RCat, RWrk, RLev.
-/
import Derived.Test.YtknobeiggmghoaaGreatDoorG10
namespace Go.Proofs.YtknobeiggmghoaaGreatDoor
open Go.RowKit
set_option linter.unusedVariables false
set_option linter.unusedSimpArgs false
set_option maxRecDepth 100000



/-- how much of the releases is left, read off the memory -/
def relM (now : Nat) (w : World) (g o : Nat) : Nat := match w.cell? ⟨g, o, none⟩ with
  | some (.int _ r) => (now + 1 - r).toNat
  | _ => 0
/-- a worker's release done, in its cells -/
theorem catch_cells (f : Nat → Wr) (i : Nat) (k : Rp.Wk) (r2 : Nat) (a b : Nat) (hb : b < 11) :
    (if a = i ∧ b = 9 then Value.int .i64 (r2 : Int) else if a = i ∧ b = 8 then Value.int .i64 (k.release : Int) else if a = i ∧ b = 7 then Value.int .i64 (k.C : Int) else cellv (upd f i ((f i).at k) a) b) = cellv (upd f i ((f i).at { k with left := k.C, released := k.release, release := r2 }) a) b := by
  by_cases e : a = i
  · subst e
    rw [upd_at, upd_at]
    match b, hb with
    | 0, _ => simp [cellv, Wr.at]
    | 1, _ => simp [cellv, Wr.at]
    | 2, _ => simp [cellv, Wr.at]
    | 3, _ => simp [cellv, Wr.at]
    | 4, _ => simp [cellv, Wr.at]
    | 5, _ => simp [cellv, Wr.at]
    | 6, _ => simp [cellv, Wr.at]
    | 7, _ => simp [cellv, Wr.at]
    | 8, _ => simp [cellv, Wr.at]
    | 9, _ => simp [cellv, Wr.at]
    | 10, _ => simp [cellv, Wr.at]
  · unfold upd
    simp [e]

/-- what catchUp answers -/
structure Cau (A : Nat → Bool) (now ar g N : Nat) (f : Nat → Wr) (i : Nat) (w w' : World) (b : Bool) (k : Rp.Wk) : Prop where
  ln : Ln w' g N (upd f i ((f i).at k))
  kp : Kept (At g) w w'
  eT : k.T = (f i).k.T
  eC : k.C = (f i).k.C
  yes : b = true → Rp.J A now k ∧ ar < k.release
  no : b = false → ¬ Rp.okE A (fun _ => (f i).k.C) (f i).k.T ar
  rl : k.release = (f i).k.release ∨ k.release ≤ ar + k.T
set_option maxHeartbeats 8000000 in
theorem catchUp_any {g N : Nat} {f : Nat → Wr} {i : Nat} (A : Nat → Bool) (now ar : Nat) (har : ar ≤ now) (w : World) (h : Ln w g N f) (hi : i < N) (hJ : Rp.J A now (f i).k) (hnow : now ≤ 2199023255552) (hT : (f i).k.T ≤ 2199023255552) :
    Calls Tryz.prog 35 #[.pointer (some ⟨g, i * 11, none⟩), .int .i64 ar] w fun e w' => ∃ (b : Bool) (k : Rp.Wk), e = .returned (.bool b) ∧ Cau A now ar g N f i w w' b k := by
  have HL0 : Hid (Ln w g N f) := h
  have HJ0 : Hid (Rp.J A now (f i).k) := hJ
  obtain ⟨v, hv⟩ : ∃ v, f i = v := ⟨_, rfl⟩
  have hvk : (f i).at (f i).k = f i := rfl
  have HU : Hid (∀ k : Rp.Wk, upd (upd f i ((f i).at k)) i ((f i).at k) = upd f i ((f i).at k)) := fun k => by rw [upd_upd]
  clear h hJ
  go_enter Tryz.func35, Tryz.ntmps35
  go_wp2
  go_loopw [] (fun wr => ∃ k : Rp.Wk, Ln wr g N (upd f i ((f i).at k)) ∧ Kept (At g) w wr ∧ k.T = (f i).k.T ∧ k.C = (f i).k.C ∧ Rp.J A now k ∧ (k.release = (f i).k.release ∨ k.release ≤ ar + k.T)) (fun wr => relM ar wr g (i * 11 + 9))
  case atStart => exact ⟨(f i).k, by rw [hvk, upd_same]; exact HL0.out, Kept.refl _ _, rfl, rfl, HJ0.out, .inl rfl⟩
  case round =>
    obtain ⟨k, hln, K, hkT, hkC, hJ, hrl⟩ := hrel
    have HRL : Hid (k.release = (f i).k.release ∨ k.release ≤ ar + k.T) := hrl
    have hu : upd f i ((f i).at k) i = (f i).at k := upd_at _ _ _
    have c2 := hln.cells hi 2 (by omega)
    have c4 := hln.cells hi 4 (by omega)
    have c7 := hln.cells hi 7 (by omega)
    have c8 := hln.cells hi 8 (by omega)
    have c9 := hln.cells hi 9 (by omega)
    rw [hu] at c2 c4 c7 c8 c9
    simp only [cellv, Wr.at] at c2 c4 c7 c8 c9
    have HLN : Hid (Ln wr g N (upd f i ((f i).at k))) := hln
    have HK : Hid (Kept (At g) w wr) := K
    have HJ : Hid (Rp.J A now k ∧ k.T = (f i).k.T ∧ k.C = (f i).k.C) := ⟨hJ, hkT, hkC⟩
    have hkT2 : k.T ≤ 2199023255552 := by omega
    clear hln K hJ hkT hkC hu hrl
    by_cases hr : k.release ≤ ar
    · have hrz : (k.release : Int) ≤ (ar : Int) := by omega
      have hrn : k.release ≤ now := by omega
      by_cases hl : 0 < k.left
      · have hlz : (k.left : Int) > 0 := by omega
        go_wp2
        go_ret
        exact ⟨false, k, rfl, ⟨HLN.out, HK.out, HJ.out.2.1, HJ.out.2.2, fun h => (by cases h), fun _ => by have := Rp.J.late HJ.out.1 har hr hl; rw [HJ.out.2.1, HJ.out.2.2] at this; exact this, HRL.out⟩⟩
      · have hlz : ¬ (k.left : Int) > 0 := by omega
        have f7 := HLN.out.fz (i * 11 + 7)
        have f8 := HLN.out.fz (i * 11 + 8)
        have f9 := HLN.out.fz (i * 11 + 9)
        have hadd : IntKind.i64.wrap ((k.release : Int) + (k.T : Int)) = ((k.release + k.T : Nat) : Int) := by rw [IntWalk.i64_in _ ⟨by omega, by omega⟩]; omega
        go_upto_region 4 with fail
        go_region
        have L2 : LnF ((wr.setCell ⟨g, i * 11 + 7, none⟩ (.int .i64 (k.C : Int))).setCell ⟨g, i * 11 + 8, none⟩ (.int .i64 (k.release : Int))).drew g N (fun a b => if a = i ∧ b = 8 then Value.int .i64 (k.release : Int) else if a = i ∧ b = 7 then Value.int .i64 (k.C : Int) else cellv (upd f i ((f i).at k) a) b) :=
          (LnF.put (LnF.put HLN.out (i := i) (j := 7) (by omega) _) (i := i) (j := 8) (by omega) _).kept (Kept.refl No _).drew (fun h => h)
        have K2 : Kept (At g) w ((wr.setCell ⟨g, i * 11 + 7, none⟩ (.int .i64 (k.C : Int))).setCell ⟨g, i * 11 + 8, none⟩ (.int .i64 (k.release : Int))).drew := ((HK.out.setCell (p := ⟨g, i * 11 + 7, none⟩) (.inl rfl) _).setCell (p := ⟨g, i * 11 + 8, none⟩) (.inl rfl) _).drew
        clear c2 c4 c7 c8 c9 f7 f8 f9
        generalize ((wr.setCell ⟨g, i * 11 + 7, none⟩ (.int .i64 (k.C : Int))).setCell ⟨g, i * 11 + 8, none⟩ (.int .i64 (k.release : Int))).drew = w5 at *
        have hu : upd f i ((f i).at k) i = (f i).at k := upd_at _ _ _
        have e2 : w5.cell? ⟨g, i * 11 + 2, none⟩ = some (cellv (upd f i ((f i).at k) i) 2) := (L2.2 i 2 hi (by omega)).trans (by simp)
        have e9 : w5.cell? ⟨g, i * 11 + 9, none⟩ = some (cellv (upd f i ((f i).at k) i) 9) := (L2.2 i 9 hi (by omega)).trans (by simp)
        rw [hu] at e2 e9
        simp only [cellv, Wr.at] at e2 e9
        have f9 := L2.fz (i * 11 + 9)
        have H2 : Hid (LnF w5 g N (fun a b => if a = i ∧ b = 8 then Value.int .i64 (k.release : Int) else if a = i ∧ b = 7 then Value.int .i64 (k.C : Int) else cellv (upd f i ((f i).at k) a) b) ∧ Kept (At g) w w5) := ⟨L2, K2⟩
        clear L2 K2 hu
        go_upto_region 5 with fail
        go_region
        rw [show ((k.release : Int) + (k.T : Int)) = ((k.release + k.T : Nat) : Int) from (Int.natCast_add _ _).symm]
        have L3 : Ln (w5.setCell ⟨g, i * 11 + 9, none⟩ (.int .i64 ((k.release + k.T : Nat) : Int))).drew g N (upd f i ((f i).at { k with left := k.C, released := k.release, release := k.release + k.T })) :=
          LnF.congr ((LnF.put H2.out.1 (i := i) (j := 9) (by omega) (.int .i64 ((k.release + k.T : Nat) : Int))).kept (Kept.refl No _).drew (fun h => h)) (fun a b _ hb => catch_cells f i k (k.release + k.T) a b hb)
        have K3 : Kept (At g) w (w5.setCell ⟨g, i * 11 + 9, none⟩ (.int .i64 ((k.release + k.T : Nat) : Int))).drew := (H2.out.2.setCell (p := ⟨g, i * 11 + 9, none⟩) (.inl rfl) _).drew
        have HM2 : Hid (relM ar (w5.setCell ⟨g, i * 11 + 9, none⟩ (.int .i64 ((k.release + k.T : Nat) : Int))).drew g (i * 11 + 9) = (ar + 1 - ((k.release + k.T : Nat) : Int)).toNat) := by
          have := Ln.cells L3 hi 9 (by omega)
          rw [upd_at] at this
          simp only [cellv, Wr.at] at this
          show relM _ _ _ _ = _
          unfold relM
          rw [this]
        have H3 : Hid (Ln (w5.setCell ⟨g, i * 11 + 9, none⟩ (.int .i64 ((k.release + k.T : Nat) : Int))).drew g N (upd f i ((f i).at { k with left := k.C, released := k.release, release := k.release + k.T })) ∧ Kept (At g) w (w5.setCell ⟨g, i * 11 + 9, none⟩ (.int .i64 ((k.release + k.T : Nat) : Int))).drew) := ⟨L3, K3⟩
        have HMW : Hid (relM ar wr g (i * 11 + 9) = (ar + 1 - (k.release : Int)).toNat) := by
          have := Ln.cells HLN.out hi 9 (by omega)
          rw [upd_at] at this
          simp only [cellv, Wr.at] at this
          show relM _ _ _ _ = _
          unfold relM
          rw [this]
        clear L3 K3 e2 e9 f9
        generalize (w5.setCell ⟨g, i * 11 + 9, none⟩ (.int .i64 ((k.release + k.T : Nat) : Int))).drew = w6 at *
        go_wp2
        go_roundw
        case rel => exact ⟨_, H3.out.1, H3.out.2, HJ.out.2.1, HJ.out.2.2, HJ.out.1.catch hrn (by omega), .inr (by show k.release + k.T ≤ ar + k.T; omega)⟩
        case measure =>
          rw [HM2.out, HMW.out]
          have := HJ.out.1.pT
          omega
    · have hrz : ¬ (k.release : Int) ≤ (ar : Int) := by omega
      go_wp2
      go_ret
      exact .inr ⟨rfl, k, ⟨HLN.out, HK.out, HJ.out.2.1, HJ.out.2.2, fun _ => ⟨HJ.out.1, by omega⟩, fun h => (by cases h), HRL.out⟩⟩
end Go.Proofs.YtknobeiggmghoaaGreatDoor

namespace Go.Proofs.YtknobeiggmghoaaGreatDoor
open Go.RowKit
set_option linter.unusedVariables false
set_option linter.unusedSimpArgs false
set_option maxRecDepth 100000

/-- what is worked, in its cells -/
theorem work_cells (f : Nat → Wr) (i : Nat) (k : Rp.Wk) (l2 w2 : Nat) (a b : Nat) (hb : b < 11) :
    (if a = i ∧ b = 10 then Value.int .i64 (w2 : Int) else if a = i ∧ b = 7 then Value.int .i64 (l2 : Int) else cellv (upd f i ((f i).at k) a) b) = cellv (upd f i ((f i).at { k with left := l2, worst := w2 }) a) b := by
  by_cases e : a = i
  · subst e
    rw [upd_at, upd_at]
    match b, hb with
    | 0, _ => simp [cellv, Wr.at]
    | 1, _ => simp [cellv, Wr.at]
    | 2, _ => simp [cellv, Wr.at]
    | 3, _ => simp [cellv, Wr.at]
    | 4, _ => simp [cellv, Wr.at]
    | 5, _ => simp [cellv, Wr.at]
    | 6, _ => simp [cellv, Wr.at]
    | 7, _ => simp [cellv, Wr.at]
    | 8, _ => simp [cellv, Wr.at]
    | 9, _ => simp [cellv, Wr.at]
    | 10, _ => simp [cellv, Wr.at]
  · unfold upd
    simp [e]
theorem work_cells1 (f : Nat → Wr) (i : Nat) (k : Rp.Wk) (l2 : Nat) (a b : Nat) (hb : b < 11) :
    (if a = i ∧ b = 7 then Value.int .i64 (l2 : Int) else cellv (upd f i ((f i).at k) a) b) = cellv (upd f i ((f i).at { k with left := l2 }) a) b := by
  by_cases e : a = i
  · subst e
    rw [upd_at, upd_at]
    match b, hb with
    | 0, _ => simp [cellv, Wr.at]
    | 1, _ => simp [cellv, Wr.at]
    | 2, _ => simp [cellv, Wr.at]
    | 3, _ => simp [cellv, Wr.at]
    | 4, _ => simp [cellv, Wr.at]
    | 5, _ => simp [cellv, Wr.at]
    | 6, _ => simp [cellv, Wr.at]
    | 7, _ => simp [cellv, Wr.at]
    | 8, _ => simp [cellv, Wr.at]
    | 9, _ => simp [cellv, Wr.at]
    | 10, _ => simp [cellv, Wr.at]
  · unfold upd
    simp [e]
def worked (k : Rp.Wk) (now t : Nat) : Rp.Wk := { k with left := k.left - t, worst := if k.left = t then max k.worst (now + t - k.released) else k.worst }
theorem min_int {a b : Int} : (if a < b then a else b) = min a b := by omega

set_option maxHeartbeats 8000000 in
theorem workOn_any {g N : Nat} {f : Nat → Wr} {i : Nat} (k : Rp.Wk) (now below t : Nat) (w : World) (h : Ln w g N (upd f i ((f i).at k))) (hi : i < N) (hnb : now < below) (hl : 0 < k.left) (ht : t = min k.left (below - now)) (hrl : k.released ≤ now) (hb : below ≤ 4398046511104) (hw : k.worst ≤ 4398046511104) (hk : k.left ≤ 4398046511104) :
    Calls Tryz.prog 36 #[.pointer (some ⟨g, i * 11, none⟩), .int .i64 now, .int .i64 below] w fun e w' => e = .returned (.int .i64 ((now + t : Nat) : Int)) ∧ Ln w' g N (upd f i ((f i).at (worked k now t))) ∧ Kept (At g) w w' := by
  have hu : upd f i ((f i).at k) i = (f i).at k := upd_at _ _ _
  have c7 := h.cells hi 7 (by omega)
  have c8 := h.cells hi 8 (by omega)
  have c10 := h.cells hi 10 (by omega)
  rw [hu] at c7 c8 c10
  simp only [cellv, Wr.at] at c7 c8 c10
  have f7 := h.fz (i * 11 + 7)
  have HL : Hid (Ln w g N (upd f i ((f i).at k))) := h
  have hsub : IntKind.i64.wrap ((below : Int) - (now : Int)) = ((below - now : Nat) : Int) := by rw [IntWalk.i64_in _ ⟨by omega, by omega⟩]; omega
  have hmin : (if below - now < k.left then ((below - now : Nat) : Int) else (k.left : Int)) = (t : Int) := by split <;> omega
  have hs2 : IntKind.i64.wrap ((k.left : Int) - (t : Int)) = ((k.left - t : Nat) : Int) := by rw [IntWalk.i64_in _ ⟨by omega, by omega⟩]; omega
  have hs3 : IntKind.i64.wrap ((now : Int) + (t : Int)) = ((now + t : Nat) : Int) := by rw [IntWalk.i64_in _ ⟨by omega, by omega⟩]; omega
  have hs4 : IntKind.i64.wrap (((now + t : Nat) : Int) - (k.released : Int)) = ((now + t - k.released : Nat) : Int) := by rw [IntWalk.i64_in _ ⟨by omega, by omega⟩]; omega
  have htl : t ≤ k.left := by omega
  have htb : now + t ≤ below := by omega
  clear h hu ht
  go_enter Tryz.func36, Tryz.ntmps36
  go_upto_region 2 with fail
  try rw [hmin]
  go_upto_region 4 with fail
  have L2 : LnF (w.setCell ⟨g, i * 11 + 7, none⟩ (.int .i64 ((k.left - t : Nat) : Int))) g N (fun a b => if a = i ∧ b = 7 then Value.int .i64 ((k.left - t : Nat) : Int) else cellv (upd f i ((f i).at k) a) b) := LnF.put HL.out (i := i) (j := 7) (by omega) _
  have K2 : Kept (At g) w (w.setCell ⟨g, i * 11 + 7, none⟩ (.int .i64 ((k.left - t : Nat) : Int))) := (Kept.refl (At g) w).setCell (p := ⟨g, i * 11 + 7, none⟩) (.inl rfl) _
  clear c7 c8 c10 f7
  rw [show ((now : Int) + (t : Int)) = ((now + t : Nat) : Int) from (Int.natCast_add _ _).symm]
  generalize w.setCell ⟨g, i * 11 + 7, none⟩ (.int .i64 ((k.left - t : Nat) : Int)) = w5 at *
  have hu : upd f i ((f i).at k) i = (f i).at k := upd_at _ _ _
  have e8 : w5.cell? ⟨g, i * 11 + 8, none⟩ = some (cellv (upd f i ((f i).at k) i) 8) := (L2.2 i 8 hi (by omega)).trans (by simp)
  have e10 : w5.cell? ⟨g, i * 11 + 10, none⟩ = some (cellv (upd f i ((f i).at k) i) 10) := (L2.2 i 10 hi (by omega)).trans (by simp)
  have e7 : w5.cell? ⟨g, i * 11 + 7, none⟩ = some (.int .i64 ((k.left - t : Nat) : Int)) := (L2.2 i 7 hi (by omega)).trans (by simp)
  rw [hu] at e8 e10
  simp only [cellv, Wr.at] at e8 e10
  have f10 := L2.fz (i * 11 + 10)
  have H2 : Hid (LnF w5 g N (fun a b => if a = i ∧ b = 7 then Value.int .i64 ((k.left - t : Nat) : Int) else cellv (upd f i ((f i).at k) a) b) ∧ Kept (At g) w w5) := ⟨L2, K2⟩
  obtain ⟨l2, hl2⟩ : ∃ l2, k.left - t = l2 := ⟨_, rfl⟩
  rw [hl2] at e7 H2 ⊢
  clear L2 K2 hu hs2 hmin hsub hs3
  by_cases hlt : k.left = t
  · have hzb : ((l2 : Int) == 0) = true := by simp; omega
    obtain ⟨n2, hn2⟩ : ∃ n2, now + t = n2 := ⟨_, rfl⟩
    rw [hn2] at hs4 ⊢
    obtain ⟨d, hd⟩ : ∃ d, n2 - k.released = d := ⟨_, rfl⟩
    rw [hd] at hs4
    have hmx : (if k.worst < d then (d : Int) else (k.worst : Int)) = ((max k.worst d : Nat) : Int) := by split <;> omega
    have hW : Hid (worked k now t = { k with left := l2, worst := max k.worst d }) := by show worked k now t = _; unfold worked; rw [if_pos hlt, hl2, hn2, hd]
    have HN : Hid (now + t = n2) := hn2
    clear hlt hl2 hn2 hd
    go_upto_region 5 with fail
    go_region
    have L3 : Ln (w5.setCell ⟨g, i * 11 + 10, none⟩ (.int .i64 ((max k.worst d : Nat) : Int))).drew g N (upd f i ((f i).at { k with left := l2, worst := max k.worst d })) :=
      LnF.congr ((LnF.put H2.out.1 (i := i) (j := 10) (by omega) (.int .i64 ((max k.worst d : Nat) : Int))).kept (Kept.refl No _).drew (fun h => h)) (fun a b _ hb => work_cells f i k l2 (max k.worst d) a b hb)
    have H3 : Hid (Ln (w5.setCell ⟨g, i * 11 + 10, none⟩ (.int .i64 ((max k.worst d : Nat) : Int))).drew g N (upd f i ((f i).at (worked k now t))) ∧ Kept (At g) w (w5.setCell ⟨g, i * 11 + 10, none⟩ (.int .i64 ((max k.worst d : Nat) : Int))).drew) := ⟨by rw [hW.out]; exact L3, (H2.out.2.setCell (p := ⟨g, i * 11 + 10, none⟩) (.inl rfl) _).drew⟩
    clear L3 e7 e8 e10 f10 H2
    generalize (w5.setCell ⟨g, i * 11 + 10, none⟩ (.int .i64 ((max k.worst d : Nat) : Int))).drew = w6 at *
    go_wp2
    go_ret
    exact ⟨by rw [HN.out]; rfl, H3.out.1, H3.out.2⟩
  · have hzb : ((l2 : Int) == 0) = false := by simp; omega
    have hW : Hid (worked k now t = { k with left := l2 }) := by show worked k now t = _; unfold worked; rw [if_neg hlt, hl2]
    clear hlt hl2
    go_wp2
    go_ret
    exact ⟨rfl, by rw [hW.out]; exact LnF.congr H2.out.1 (fun a b _ hb => work_cells1 f i k l2 a b hb), H2.out.2⟩
end Go.Proofs.YtknobeiggmghoaaGreatDoor

namespace Go.Proofs.YtknobeiggmghoaaGreatDoor
open Rp
set_option linter.unusedVariables false

/-- the ticks that are left for the j-th -/
def lv (o : Nat → Bool) (T C : Nat → Nat) : Nat → Nat → Bool
  | 0 => o
  | j + 1 => nxt (lv o T C j) (fun _ => C j) (T j)
abbrev rm (o : Nat → Bool) (T C : Nat → Nat) (j t : Nat) : Nat := remn (lv o T C j) (fun _ => C j) (T j) t
theorem lv_true {o : Nat → Bool} {T C : Nat → Nat} {t : Nat} (ho : o t = true) : ∀ j, (∀ i, i < j → rm o T C i t = 0) → lv o T C j t = true
  | 0, _ => ho
  | j + 1, h => by
    show nxt _ _ _ t = true
    unfold nxt
    rw [lv_true ho j (fun i hi => h i (by omega)), Bool.true_and]
    exact decide_eq_true (h j (by omega))
theorem lv_off {o : Nat → Bool} {T C : Nat → Nat} {t : Nat} (ho : o t = false) : ∀ j, lv o T C j t = false
  | 0 => ho
  | j + 1 => by
    show nxt _ _ _ t = false
    unfold nxt
    rw [lv_off ho j]; rfl
theorem lv_busy {o : Nat → Bool} {T C : Nat → Nat} {t i : Nat} (hi : 0 < rm o T C i t) : ∀ j, i < j → lv o T C j t = false
  | 0, h => by omega
  | j + 1, h => by
    show nxt _ _ _ t = false
    unfold nxt
    rcases Nat.lt_or_eq_of_le (Nat.lt_succ_iff.1 h) with h1 | h1
    · rw [lv_busy hi j h1]; rfl
    · subst h1
      rw [decide_eq_false (by show ¬ rm o T C i t = 0; omega), Bool.and_false]

/-- the line stands at now -/
structure LJ (o : Nat → Bool) (T C : Nat → Nat) (now m : Nat) (f : Nat → Wr) : Prop where
  j : ∀ i, i < m → J (lv o T C i) now (f i).k
  eT : ∀ i, (f i).k.T = T i
  eC : ∀ i, (f i).k.C = C i
theorem LJ.gap {o : Nat → Bool} {T C : Nat → Nat} {now now' m : Nat} {f : Nat → Wr} (h : LJ o T C now m f) (hn : now ≤ now') (ho : ∀ t, now ≤ t → t < now' → o t = false) : LJ o T C now' m f :=
  ⟨fun i hi => (h.j i hi).skip hn (fun t h1 h2 => lv_off (ho t h1 h2) i), h.eT, h.eC⟩
theorem LJ.less {o : Nat → Bool} {T C : Nat → Nat} {now m m' : Nat} {f : Nat → Wr} (h : LJ o T C now m f) (hm : m' ≤ m) : LJ o T C now m' f := ⟨fun i hi => h.j i (by omega), h.eT, h.eC⟩

/-- the first i have nothing to do up to b -/
structure Id (o : Nat → Bool) (T C : Nat → Nat) (now below b m i : Nat) (f f' : Nat → Wr) : Prop where
  lj : LJ o T C now m f'
  at' : ∀ j, ∃ k, f' j = (f j).at k
  rel : ∀ j, j < i → now < (f' j).k.release ∧ (f' j).k.left = 0 ∧ b ≤ (f' j).k.release
  rl : ∀ j, (f' j).k.release = (f j).k.release ∨ (f' j).k.release ≤ now + T j
  b0 : now < b
  b1 : b ≤ below
theorem Id.quiet {o : Nat → Bool} {T C : Nat → Nat} {now below b m i : Nat} {f f' : Nat → Wr} (h : Id o T C now below b m i f f') (him : i ≤ m) {j : Nat} (hj : j < i) {n : Nat} (h1 : now ≤ n) (h2 : n ≤ b) : J (lv o T C j) n (f' j).k ∧ ∀ t, now ≤ t → t < n → rm o T C j t = 0 := by
  obtain ⟨r1, r2, r3⟩ := h.rel j hj
  have := (h.lj.j j (by omega)).idle r1 r2 h1 (by omega)
  refine ⟨this.1, fun t h3 h4 => ?_⟩
  have e := this.2 t h3 h4
  unfold Wk.rem at e
  rw [h.lj.eT, h.lj.eC] at e
  exact e
/-- nobody has anything to do -/
theorem Id.all {o : Nat → Bool} {T C : Nat → Nat} {now below b m : Nat} {f f' : Nat → Wr} (h : Id o T C now below b m m f f') : LJ o T C b m f' :=
  ⟨fun j hj => (h.quiet (Nat.le_refl _) hj (by have := h.b0; omega) (Nat.le_refl _)).1, h.lj.eT, h.lj.eC⟩
/-- the i-th works -/
theorem Id.works {o : Nat → Bool} {T C : Nat → Nat} {now below b m i t : Nat} {f f' : Nat → Wr} (h : Id o T C now below b m i f f') (him : i < m) (ho : ∀ u, now ≤ u → u < below → o u = true) (hr : now < (f' i).k.release) (ht0 : 0 < t) (ht : t ≤ (f' i).k.left) (hb : now + t ≤ b) (hbr : now + t ≤ (f' i).k.release) :
    LJ o T C (now + t) m (upd f' i ((f' i).at (worked (f' i).k now t))) := by
  have hA : ∀ u, now ≤ u → u < now + t → lv o T C i u = true := fun u h1 h2 => lv_true (ho u h1 (by have := h.b1; omega)) i (fun j hj => (h.quiet (Nat.le_of_lt him) hj (by omega) (show u + 1 ≤ b by omega)).2 u h1 (by omega))
  have hw := (h.lj.j i him).work hr ht0 ht hbr hA
  refine ⟨fun j hj => ?_, fun j => ?_, fun j => ?_⟩
  · rcases Nat.lt_trichotomy j i with hji | hji | hji
    · have e : upd f' i ((f' i).at (worked (f' i).k now t)) j = f' j := by unfold upd; rw [if_neg (by omega)]
      rw [e]
      exact (h.quiet (Nat.le_of_lt him) hji (by omega) hb).1
    · subst hji
      rw [upd_at]
      exact hw.1
    · have e : upd f' i ((f' i).at (worked (f' i).k now t)) j = f' j := by unfold upd; rw [if_neg (by omega)]
      rw [e]
      refine (h.lj.j j hj).skip (by omega) (fun u h1 h2 => lv_busy ?_ j hji)
      have := hw.2 u h1 h2
      unfold Wk.rem at this
      rw [h.lj.eT, h.lj.eC] at this
      exact this
  · unfold upd
    split
    · rename_i e; subst e; exact h.lj.eT j
    · exact h.lj.eT j
  · unfold upd
    split
    · rename_i e; subst e; exact h.lj.eC j
    · exact h.lj.eC j
end Go.Proofs.YtknobeiggmghoaaGreatDoor
