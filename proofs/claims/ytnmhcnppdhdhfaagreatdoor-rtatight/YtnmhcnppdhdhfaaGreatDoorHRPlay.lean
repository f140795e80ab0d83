/-
  One text: RPlay.
-/
import Derived.Test.YtnmhcnppdhdhfaaGreatDoorHRGo
namespace Go.Proofs.YtnmhcnppdhdhfaaGreatDoor
open Go.RowKit Rp
set_option linter.unusedVariables false
set_option linter.unusedSimpArgs false
set_option maxRecDepth 100000

def Bx (g bx : Nat) : Nat → Prop := fun k => k = g ∨ k = bx
def boxL (w : World) (bx : Nat) : Nat := match w.cell? ⟨bx, 0, none⟩ with
  | some (.slice _ n _) => n
  | _ => 0
/-- the line while it goes on: what is left of it, in its box -/
structure Pls (o : Nat → Bool) (T C : Nat → Nat) (now end' g N bx cap m0 : Nat) (f0 : Nat → Wr) (w wr : World) (m : Nat) (f : Nat → Wr) : Prop where
  ln : Ln wr g N f
  bx' : wr.heap[bx]? = some (.cells #[.slice (some ⟨g, 0, none⟩) m cap] 60)
  kp : Kept (Bx g bx) w wr
  at' : ∀ j, ∃ k, f j = (f0 j).at k
  lj : LJ o T C now m f
  le : m ≤ m0
  rl : ∀ j, j < m → (f j).k.release < end' + T j
  no : m < m0 → ∃ n, n < end' ∧ ¬ okE (lv o T C m) (fun _ => C m) (T m) n
theorem Pls.gap {o : Nat → Bool} {T C : Nat → Nat} {now now' end' g N bx cap m0 : Nat} {f0 f : Nat → Wr} {w wr : World} {m : Nat} (h : Pls o T C now end' g N bx cap m0 f0 w wr m f) (hn : now ≤ now') (ho : ∀ t, now ≤ t → t < now' → o t = false) : Pls o T C now' end' g N bx cap m0 f0 w wr m f :=
  ⟨h.ln, h.bx', h.kp, h.at', h.lj.gap hn ho, h.le, h.rl, h.no⟩
theorem Pls.kept {o : Nat → Bool} {T C : Nat → Nat} {now end' g N bx cap m0 : Nat} {f0 f : Nat → Wr} {w wr wr' : World} {m : Nat} (h : Pls o T C now end' g N bx cap m0 f0 w wr m f) (k : Kept No wr wr') : Pls o T C now end' g N bx cap m0 f0 w wr' m f :=
  ⟨h.ln.kept k (fun h => h), k.at' h.bx' (fun h => h), h.kp.trans k (fun _ h => h.elim), h.at', h.lj, h.le, h.rl, h.no⟩

set_option maxHeartbeats 8000000 in
theorem play1_any {g N bx cap m0 : Nat} {f0 : Nat → Wr} (o : Nat → Bool) (T C : Nat → Nat) (fr below end' m : Nat) (f : Nat → Wr) (w0 w : World) (h : Pls o T C fr end' g N bx cap m0 f0 w0 w m f) (hne : bx ≠ g) (hm0 : m0 ≤ N) (hmc : m0 ≤ cap) (hcm : cap ≤ 9223372036854775807) (hfb : fr ≤ below) (hbe : below ≤ end') (ho : ∀ u, fr ≤ u → u < below → o u = true) (hb : below ≤ 2199023255552) (hT : ∀ i, T i ≤ 2199023255552) (hC : ∀ i, C i ≤ 2199023255552) :
    Calls Tryz.prog 31 #[.int .i64 fr, .int .i64 below, .pointer (some ⟨bx, 0, none⟩)] w fun e w' => e = .returned (.tuple #[]) ∧ (∃ (m' : Nat) (f' : Nat → Wr), Pls o T C below end' g N bx cap m0 f0 w0 w' m' f') ∧ Kept (Bx g bx) w w' := by
  have HP0 : Hid (Pls o T C fr end' g N bx cap m0 f0 w0 w m f) := h
  have HO : Hid (∀ u, fr ≤ u → u < below → o u = true) := ho
  have HT : Hid ((∀ i, T i ≤ 2199023255552) ∧ (∀ i, C i ≤ 2199023255552)) := ⟨hT, hC⟩
  clear h ho hT hC
  go_enter Tryz.func31, Tryz.ntmps31
  go_wp2
  go_loopw [5] (fun x wr => ∃ (now m' : Nat) (f' : Nat → Wr), x = .int .i64 (now : Int) ∧ fr ≤ now ∧ now ≤ below ∧ Pls o T C now end' g N bx cap m0 f0 w0 wr m' f' ∧ Kept (Bx g bx) w wr) (fun x wr => (below - (intOf x).toNat) + boxL wr bx)
  case atStart => exact ⟨fr, m, f, rfl, Nat.le_refl _, hfb, HP0.out, Kept.refl _ _⟩
  case round =>
    obtain ⟨now, m', f', rfl, hn0, hn1, hp, hK⟩ := hrel
    have HKW : Hid (Kept (Bx g bx) w wr) := hK
    have HP : Hid (Pls o T C now end' g N bx cap m0 f0 w0 wr m' f') := hp
    have d := hp.bx'
    have c0 : wr.cell? ⟨bx, 0, none⟩ = some (.slice (some ⟨g, 0, none⟩) m' cap) := by simp [World.cell?, d]
    have HB : Hid (boxL wr bx = m') := by show boxL wr bx = m'; unfold boxL; rw [c0]
    clear hp d hK
    by_cases hlt : now < below
    · have hltz : (now : Int) < (below : Int) := by omega
      have hmm := HP.out.le
      have cW := work_any o T C now below m' wr HP.out.ln HP.out.lj (by omega) (by omega) hcm hlt (fun u h1 h2 => HO.out u (by omega) h2) hb HT.out.1 HT.out.2
      have HQ : Hid (∀ (m2 n2 : Nat) (f2 : Nat → Wr) (w2 : World), Wkd o T C now below g N m' f' wr w2 m2 n2 f2 → (w2.cell? ⟨bx, 0, none⟩ = some (.slice (some ⟨g, 0, none⟩) m' cap) ∧ w2.frozen? ⟨bx, 0, none⟩ = false) ∧ Pls o T C n2 end' g N bx cap m0 f0 w0 (w2.setCell ⟨bx, 0, none⟩ (.slice (some ⟨g, 0, none⟩) m2 cap)) m2 f2 ∧ boxL (w2.setCell ⟨bx, 0, none⟩ (.slice (some ⟨g, 0, none⟩) m2 cap)) bx = m2 ∧ Kept (Bx g bx) w (w2.setCell ⟨bx, 0, none⟩ (.slice (some ⟨g, 0, none⟩) m2 cap))) := by
        intro m2 n2 f2 w2 hk
        have hb2 : w2.heap[bx]? = some (.cells #[.slice (some ⟨g, 0, none⟩) m' cap] 60) := hk.kp.at' HP.out.bx' (fun e => hne e)
        have hb3 : (w2.setCell ⟨bx, 0, none⟩ (.slice (some ⟨g, 0, none⟩) m2 cap)).heap[bx]? = some (.cells #[.slice (some ⟨g, 0, none⟩) m2 cap] 60) := by
          have := set_blkG hb2 0 (.slice (some ⟨g, 0, none⟩) m2 cap)
          simpa using this
        have kS : Kept (fun k => k = bx) w2 (w2.setCell ⟨bx, 0, none⟩ (.slice (some ⟨g, 0, none⟩) m2 cap)) := (Kept.refl (fun k => k = bx) w2).setCell (p := ⟨bx, 0, none⟩) (.inl rfl) _
        refine ⟨⟨by simp [World.cell?, hb2], by simp [World.frozen?, hb2]⟩, ⟨hk.ln.kept kS (fun e => hne e.symm), hb3, ?_, fun j => ?_, hk.lj, by have := hk.le; have := HP.out.le; omega, fun j hj => by rcases hk.rl j hj with e | e; rw [e]; exact HP.out.rl j (by have := hk.le; omega); omega, fun hlt2 => ?_⟩, ?_, (HKW.out.trans hk.kp (fun k e => .inl (.inl e))).trans kS (fun k e => .inl (.inr e))⟩
        · exact (HP.out.kp.trans hk.kp (fun k e => .inl (.inl e))).trans kS (fun k e => .inl (.inr e))
        · obtain ⟨q, e⟩ := hk.at' j
          obtain ⟨q', e'⟩ := HP.out.at' j
          exact ⟨q, by rw [e, e']; rfl⟩
        · by_cases e : m2 < m'
          · exact ⟨now, by omega, hk.no e⟩
          · have : m2 = m' := by have := hk.le; omega
            subst this
            exact HP.out.no hlt2
        · unfold boxL
          simp [World.cell?, hb3]
      go_wp2_with (go_at_call 32; refine cW.mono ?_; rintro e w2 ⟨m2, n2, f2, rfl, hk⟩; obtain ⟨⟨q1, q2⟩, q3, q4, q5⟩ := HQ.out m2 n2 f2 w2 hk; have HKS : Hid (Kept (Bx g bx) w (w2.setCell ⟨bx, 0, none⟩ (.slice (some ⟨g, 0, none⟩) m2 cap))) := q5; have HK : Hid (Pls o T C n2 end' g N bx cap m0 f0 w0 (w2.setCell ⟨bx, 0, none⟩ (.slice (some ⟨g, 0, none⟩) m2 cap)) m2 f2 ∧ boxL (w2.setCell ⟨bx, 0, none⟩ (.slice (some ⟨g, 0, none⟩) m2 cap)) bx = m2 ∧ ((m2 < m' ∧ n2 = now) ∨ (m2 = m' ∧ now < n2)) ∧ now ≤ n2 ∧ n2 ≤ below) := ⟨q3, q4, hk.prog, hk.n0, hk.n1⟩; clear q3 q4 q5 hk cW)
      go_roundw
      case rel => exact ⟨n2, m2, f2, rfl, by have := HK.out.2.2.2.1; omega, HK.out.2.2.2.2, HK.out.1, HKS.out⟩
      case measure =>
        rw [HK.out.2.1, HB.out]
        simp [intOf]
        have := HK.out.2.2
        omega
    · have hltz : ¬ (now : Int) < (below : Int) := by omega
      have e : now = below := by omega
      subst e
      clear c0
      go_wp2
      go_end0
      exact ⟨rfl, ⟨m', f', HP.out⟩, HKW.out⟩
end Go.Proofs.YtnmhcnppdhdhfaaGreatDoor
