/-
  One text: RHand.
-/
import Derived.Test.YtnmhcnppdhdhfaaGreatDoorHRPlay
import Derived.Test.YtnmhcnppdhdhfaaGreatDoorG27
namespace Go.Proofs.YtnmhcnppdhdhfaaGreatDoor
open Go.RowKit Rp
set_option linter.unusedVariables false
set_option linter.unusedSimpArgs false
set_option maxRecDepth 100000

/-- a list of slots that is read -/
structure Tn (w : World) (F : Nat → Prop) (a : Option Addr) (n c : Nat) (L : List (Nat × Nat)) : Prop where
  len : L.length = n
  cap : n ≤ c
  max : c ≤ 9223372036854775807
  at' : ∀ i x, L[i]? = some x → ∃ b o, a = some ⟨b, o, none⟩ ∧ F b ∧ w.cell? ⟨b, o + i * 2, none⟩ = some (.int .i64 (x.1 : Int)) ∧ w.cell? ⟨b, o + i * 2 + 1, none⟩ = some (.int .i64 (x.2 : Int))
theorem Tn.kept {w w' : World} {F G : Nat → Prop} {a : Option Addr} {n c : Nat} {L : List (Nat × Nat)} (h : Tn w F a n c L) (k : Kept G w w') (hd : ∀ b, F b → ¬ G b) : Tn w' F a n c L :=
  ⟨h.len, h.cap, h.max, fun i x hx => by obtain ⟨b, o, e, hb, h0, h1⟩ := h.at' i x hx; exact ⟨b, o, e, hb, k.cell h0 (hd b hb), k.cell h1 (hd b hb)⟩⟩
def occB (f : Nat → Nat) (p : Nat) : Nat → Bool := fun u => decide (f u = p)
/-- the three blocks that are written -/
def Hx (g bx bn : Nat) : Nat → Prop := fun k => (k = g ∨ k = bx) ∨ k = bn

theorem pre_end {L : List (Nat × Nat)} {a m : Nat} {f : Nat → Nat} (h : Rule.Tile f a m L) : Rule.pre L L.length = m := by rw [Rule.pre_all]; exact h.sum
theorem pre_le {L : List (Nat × Nat)} {a m : Nat} {f : Nat → Nat} (h : Rule.Tile f a m L) : ∀ k, k ≤ L.length → Rule.pre L (L.length - k) ≤ m
  | 0, _ => by rw [Nat.sub_zero, pre_end h]; exact Nat.le_refl _
  | k + 1, hk => by
    have ih := pre_le h k (by omega)
    have hx : L[L.length - (k + 1)]? = some L[L.length - (k + 1)] := List.getElem?_eq_getElem (by omega)
    have := Rule.pre_succ hx
    rw [show L.length - (k + 1) + 1 = L.length - k by omega] at this
    omega
theorem pre_bd {L : List (Nat × Nat)} {a m : Nat} {f : Nat → Nat} (h : Rule.Tile f a m L) {i : Nat} (hi : i ≤ L.length) : Rule.pre L i ≤ m := by
  have := pre_le h (L.length - i) (by omega)
  rwa [show L.length - (L.length - i) = i by omega] at this

set_option maxHeartbeats 8000000 in
theorem hand_any {F : Nat → Prop} {ta : Option Addr} {tn tc : Nat} {L : List (Nat × Nat)} {g N bx bp bd bn cap m0 : Nat} {f0 : Nat → Wr} (fo : Nat → Nat) (p : Nat) (T C : Nat → Nat) (a n end' m : Nat) (f : Nat → Wr) (w0 w : World)
    (h : Pls (occB fo p) T C a end' g N bx cap m0 f0 w0 w m f) (hTn : Tn w F ta tn tc L) (hTi : Rule.Tile fo a n L) (hF : ∀ b, F b → ¬ Hx g bx bn b)
    (hp : w.cell? ⟨bp, 0, none⟩ = some (.int .i64 (p : Int))) (hbp : ¬ Hx g bx bn bp) (hd : w.cell? ⟨bd, 0, none⟩ = some (.func (.func 31) #[] #[.pointer (some ⟨bx, 0, none⟩)])) (hbd : ¬ Hx g bx bn bd)
    (hn : w.heap[bn]? = some (.cells #[.int .i64 (a : Int)] 3)) (hb0 : w0.heap.size ≤ bn) (hbn : bn ≠ g ∧ bn ≠ bx)
    (hne : bx ≠ g) (hm0 : m0 ≤ N) (hmc : m0 ≤ cap) (hcm : cap ≤ 9223372036854775807) (hbe : a + n ≤ end') (hb : a + n ≤ 2199023255552) (hT : ∀ i, T i ≤ 2199023255552) (hC : ∀ i, C i ≤ 2199023255552) :
    Calls Tryz.prog 50 #[.slice ta tn tc, .pointer (some ⟨bp, 0, none⟩), .pointer (some ⟨bd, 0, none⟩), .pointer (some ⟨bn, 0, none⟩)] w fun e w' => e = .returned (.tuple #[]) ∧ (∃ (m' : Nat) (f' : Nat → Wr), Pls (occB fo p) T C (a + n) end' g N bx cap m0 f0 w0 w' m' f') ∧ w'.heap[bn]? = some (.cells #[.int .i64 ((a + n : Nat) : Int)] 3) ∧ Kept (Hx g bx bn) w w' := by
  have hl := hTn.len
  have hm := hTn.max
  have hcp := hTn.cap
  have H0 : Hid (Pls (occB fo p) T C a end' g N bx cap m0 f0 w0 w m f ∧ Tn w F ta tn tc L ∧ Rule.Tile fo a n L ∧ (∀ b, F b → ¬ Hx g bx bn b) ∧ w.cell? ⟨bp, 0, none⟩ = some (.int .i64 (p : Int)) ∧ w.cell? ⟨bd, 0, none⟩ = some (.func (.func 31) #[] #[.pointer (some ⟨bx, 0, none⟩)]) ∧ w.heap[bn]? = some (.cells #[.int .i64 (a : Int)] 3)) := ⟨h, hTn, hTi, hF, hp, hd, hn⟩
  have HB : Hid (¬ Hx g bx bn bp ∧ ¬ Hx g bx bn bd ∧ w0.heap.size ≤ bn ∧ bn ≠ g ∧ bn ≠ bx) := ⟨hbp, hbd, hb0, hbn.1, hbn.2⟩
  have HT : Hid ((∀ i, T i ≤ 2199023255552) ∧ (∀ i, C i ≤ 2199023255552)) := ⟨hT, hC⟩
  have hen : Enters Tryz.prog 31 := enters_of Tryz.func31 (by kernel_rfl) rfl
  unfold Enters at hen
  clear h hTn hTi hF hp hd hn hbp hbd hb0 hbn hT hC
  go_enter Tryz.func50, Tryz.ntmps50
  go_wp2
  go_loopw [9] (fun x wr => ∃ (i m' : Nat) (f' : Nat → Wr), i ≤ L.length ∧ x = .int .i64 (i : Int) ∧ Pls (occB fo p) T C (a + Rule.pre L i) end' g N bx cap m0 f0 w0 wr m' f' ∧ wr.heap[bn]? = some (.cells #[.int .i64 ((a + Rule.pre L i : Nat) : Int)] 3) ∧ Kept (Hx g bx bn) w wr) (fun x _ => L.length - (intOf x).toNat)
  case atStart => exact ⟨0, m, f, Nat.zero_le _, rfl, by rw [Rule.pre_zero, Nat.add_zero]; exact H0.out.1, by rw [Rule.pre_zero, Nat.add_zero]; exact H0.out.2.2.2.2.2.2, Kept.refl _ _⟩
  case round =>
    obtain ⟨i, m', f', hi, rfl, hpl, hbn, K⟩ := hrel
    have HR : Hid (Pls (occB fo p) T C (a + Rule.pre L i) end' g N bx cap m0 f0 w0 wr m' f' ∧ wr.heap[bn]? = some (.cells #[.int .i64 ((a + Rule.pre L i : Nat) : Int)] 3) ∧ Kept (Hx g bx bn) w wr) := ⟨hpl, hbn, K⟩
    have n0 : wr.cell? ⟨bn, 0, none⟩ = some (.int .i64 ((a + Rule.pre L i : Nat) : Int)) := by simp [World.cell?, hbn]
    have p0 := K.cell H0.out.2.2.2.2.1 HB.out.1
    have d0 := K.cell H0.out.2.2.2.2.2.1 HB.out.2.1
    clear hpl hbn K
    by_cases hlt : i < L.length
    · have hiz : (i : Int) < (tn : Int) := by omega
      have hx : L[i]? = some L[i] := List.getElem?_eq_getElem hlt
      obtain ⟨x1, hx1⟩ : ∃ x, L[i] = x := ⟨_, rfl⟩
      rw [hx1] at hx
      obtain ⟨b, o, rfl, hFb, c0, c1⟩ := H0.out.2.1.at' i x1 hx
      replace c0 := HR.out.2.2.cell c0 (H0.out.2.2.2.1 b hFb)
      replace c1 := HR.out.2.2.cell c1 (H0.out.2.2.2.1 b hFb)
      have hsucc := Rule.pre_succ hx
      have hat := H0.out.2.2.1.at' i x1 hx
      have hps := H0.out.2.2.1.pos x1 (List.mem_of_getElem? hx)
      have hle := pre_bd H0.out.2.2.1 (i := i + 1) (by omega)
      obtain ⟨ln, pt⟩ := x1
      simp only at c0 c1 hsucc hat hps
      obtain ⟨now, hnow⟩ : ∃ now, a + Rule.pre L i = now := ⟨_, rfl⟩
      have HQ : Hid (Rule.pre L (i + 1) = Rule.pre L i + ln ∧ (∀ u, Rule.pre L i ≤ u → u < Rule.pre L i + ln → fo (a + u) = pt) ∧ 1 ≤ ln ∧ Rule.pre L (i + 1) ≤ n ∧ a + Rule.pre L i = now) := ⟨hsucc, hat, hps, hle, hnow⟩
      rw [hnow] at HR n0
      have hadd : IntKind.i64.wrap ((now : Int) + (ln : Int)) = ((now + ln : Nat) : Int) := by rw [IntWalk.i64_in _ ⟨by omega, by omega⟩]; omega
      have hocc : ∀ u, now ≤ u → u < now + ln → fo u = pt := fun u h1 h2 => by
        have := hat (u - a) (by omega) (by omega)
        rwa [show a + (u - a) = u by omega] at this
      have HO : Hid (∀ u, now ≤ u → u < now + ln → fo u = pt) := hocc
      have hnb : now + ln ≤ a + n := by omega
      clear hsucc hat hps hle hnow hx hx1 hocc hFb
      have KA : Kept No wr (wr.alloc (.cells #[.int .i64 (ln : Int), .int .i64 (pt : Int)] 75)) := (Kept.refl No wr).alloc _
      have HA : Hid (Pls (occB fo p) T C now end' g N bx cap m0 f0 w0 (wr.alloc (.cells #[.int .i64 (ln : Int), .int .i64 (pt : Int)] 75)) m' f' ∧ (wr.alloc (.cells #[.int .i64 (ln : Int), .int .i64 (pt : Int)] 75)).heap[bn]? = some (.cells #[.int .i64 (now : Int)] 3) ∧ Kept (Hx g bx bn) w (wr.alloc (.cells #[.int .i64 (ln : Int), .int .i64 (pt : Int)] 75))) := ⟨HR.out.1.kept KA, KA.at' HR.out.2.1 (fun h => h), HR.out.2.2.trans KA (fun _ h => h.elim)⟩
      have s0 : (wr.alloc (.cells #[.int .i64 (ln : Int), .int .i64 (pt : Int)] 75)).cell? ⟨wr.heap.size, 0, none⟩ = some (.int .i64 (ln : Int)) := by simp
      have s1 : (wr.alloc (.cells #[.int .i64 (ln : Int), .int .i64 (pt : Int)] 75)).cell? ⟨wr.heap.size, 1, none⟩ = some (.int .i64 (pt : Int)) := by simp
      have HSz : Hid (bn < wr.heap.size ∧ g < wr.heap.size ∧ bx < wr.heap.size) := ⟨heap_lt HR.out.2.1, Ln.lt HR.out.1.ln, heap_lt HR.out.1.bx'⟩
      replace n0 := KA.cell n0 (fun h => h)
      replace p0 := KA.cell p0 (fun h => h)
      replace d0 := KA.cell d0 (fun h => h)
      go_upto_region 3 with fail
      generalize hwA : wr.alloc (.cells #[.int .i64 (ln : Int), .int .i64 (pt : Int)] 75) = wA at *
      clear hwA KA c0 c1 HR
      obtain ⟨gs, hgs⟩ : ∃ g, wr.heap.size = g := ⟨_, rfl⟩
      rw [hgs] at s0 s1 HSz ⊢
      clear hgs
      have HS : Hid (∀ (w2 : World) (m2 : Nat) (f2 : Nat → Wr), Pls (occB fo p) T C (now + ln) end' g N bx cap m0 f0 w0 w2 m2 f2 → w2.heap[bn]? = some (.cells #[.int .i64 (now : Int)] 3) → Kept (Hx g bx bn) w w2 → Pls (occB fo p) T C (a + Rule.pre L (i + 1)) end' g N bx cap m0 f0 w0 (w2.setCell ⟨bn, 0, none⟩ (.int .i64 ((now + ln : Nat) : Int))) m2 f2 ∧ (w2.setCell ⟨bn, 0, none⟩ (.int .i64 ((now + ln : Nat) : Int))).heap[bn]? = some (.cells #[.int .i64 ((a + Rule.pre L (i + 1) : Nat) : Int)] 3) ∧ Kept (Hx g bx bn) w (w2.setCell ⟨bn, 0, none⟩ (.int .i64 ((now + ln : Nat) : Int)))) := by
        intro w2 m2 f2 hpl hbn hK
        have e : a + Rule.pre L (i + 1) = now + ln := by rw [HQ.out.1]; have := HQ.out.2.2.2.2; omega
        rw [e]
        have kS : Kept (fun k => k = bn) w2 (w2.setCell ⟨bn, 0, none⟩ (.int .i64 ((now + ln : Nat) : Int))) := (Kept.refl (fun k => k = bn) w2).setCell (p := ⟨bn, 0, none⟩) (.inl rfl) _
        refine ⟨⟨hpl.ln.kept kS (fun e => HB.out.2.2.2.1 e.symm), kS.at' hpl.bx' (fun e => HB.out.2.2.2.2 e.symm), hpl.kp.trans kS (fun k e => .inr (by rw [e]; exact HB.out.2.2.1)), hpl.at', hpl.lj, hpl.le, hpl.rl, hpl.no⟩, ?_, hK.trans kS (fun k e => .inl (.inr e))⟩
        have := set_blkG hbn 0 (.int .i64 ((now + ln : Nat) : Int))
        simpa using this
      by_cases hpt : pt = p
      · subst hpt
        have cP := play1_any (occB fo pt) T C now (now + ln) end' m' f' w0 wA HA.out.1 hne hm0 hmc hcm (by omega) (by omega) (fun u h1 h2 => decide_eq_true (HO.out u h1 h2)) (by omega) HT.out.1 HT.out.2
        go_upto_region 5 with (go_at_fn 31; refine cP.mono ?_; rintro e w2 ⟨rfl, ⟨m2, f2, hpl⟩, hk⟩; have H2 : Hid (Pls (occB fo pt) T C (now + ln) end' g N bx cap m0 f0 w0 w2 m2 f2 ∧ Kept (Bx g bx) wA w2) := ⟨hpl, hk⟩; clear hpl hk cP)
        have hb2 : w2.heap[bn]? = some (.cells #[.int .i64 (now : Int)] 3) := H2.out.2.at' HA.out.2.1 (fun e => by rcases e with e | e; exact HB.out.2.2.2.1 e; exact HB.out.2.2.2.2 e)
        have f0' : w2.frozen? ⟨bn, 0, none⟩ = false := by simp [World.frozen?, hb2]
        have n2 : w2.cell? ⟨bn, 0, none⟩ = some (.int .i64 (now : Int)) := by simp [World.cell?, hb2]
        have z0 := H2.out.2.cell s0 (fun e => by rcases e with e | e; exact absurd e (by have := HSz.out; show gs ≠ g; omega); exact absurd e (by have := HSz.out; show gs ≠ bx; omega))
        have HE := hid (HS.out w2 m2 f2 H2.out.1 hb2 (HA.out.2.2.trans H2.out.2 (fun k e => .inl (.inl e))))
        clear HS HA d0 p0 n0 s0 s1 hb2 H2
        go_wp2
        go_roundw
        case rel => exact ⟨i + 1, m2, f2, by omega, by go_num, HE.out.1, HE.out.2.1, HE.out.2.2⟩
        case measure => simp [intOf]; omega
      · have hpz : ((pt : Int) == (p : Int)) = false := by simp; omega
        have HG : Hid (Pls (occB fo p) T C (now + ln) end' g N bx cap m0 f0 w0 wA m' f') := HA.out.1.gap (by omega) (fun u h1 h2 => decide_eq_false (by rw [HO.out u h1 h2]; exact hpt))
        have f0' : wA.frozen? ⟨bn, 0, none⟩ = false := by have := HA.out.2.1; simp [World.frozen?, this]
        have HE := hid (HS.out wA m' f' HG.out HA.out.2.1 HA.out.2.2)
        clear HS HA HG d0
        go_wp2
        go_roundw
        case rel => exact ⟨i + 1, m', f', by omega, by go_num, HE.out.1, HE.out.2.1, HE.out.2.2⟩
        case measure => simp [intOf]; omega
    · have hiz : ¬ (i : Int) < (tn : Int) := by omega
      have e : i = L.length := by omega
      subst e
      have HF : Hid (Pls (occB fo p) T C (a + n) end' g N bx cap m0 f0 w0 wr m' f' ∧ wr.heap[bn]? = some (.cells #[.int .i64 ((a + n : Nat) : Int)] 3) ∧ Kept (Hx g bx bn) w wr) := by
        have := pre_end H0.out.2.2.1
        have h3 := HR.out
        rw [this] at h3
        exact h3
      clear HR n0 p0 d0
      go_wp2
      go_end0
      exact ⟨rfl, ⟨m', f', HF.out.1⟩, HF.out.2.1, HF.out.2.2⟩
end Go.Proofs.YtnmhcnppdhdhfaaGreatDoor
