/-
  One text: REach, ROcc, RSrv.
-/
import Derived.Test.YtnmhcnppdhdhfaaGreatDoorHRHand
import Derived.Test.YtnmhcnppdhdhfaaGreatDoorG32
import Derived.Test.YtnmhcnppdhdhfaaGreatDoorG26
import Derived.Test.YtnmhcnppdhdhfaaGreatDoorG04
namespace Go.Proofs.YtnmhcnppdhdhfaaGreatDoor
open Go.RowKit Rp
set_option linter.unusedVariables false
set_option linter.unusedSimpArgs false
set_option maxRecDepth 100000

theorem tile_shift {f : Nat → Nat} {a b m : Nat} {L : List (Nat × Nat)} (h : Rule.Tile f a m L) (hf : ∀ u, u < m → f (b + u) = f (a + u)) : Rule.Tile f b m L :=
  ⟨h.sum, h.pos, fun i x hx u h1 h2 => by
    have hi : i < L.length := (List.getElem?_eq_some_iff.1 hx).1
    have h3 := Rule.pre_succ hx
    have h4 := pre_bd h (i := i + 1) (by omega)
    rw [hf u (by omega)]
    exact h.at' i x hx u h1 h2⟩
/-- the occupants of any span can be told -/
def OcS (fo : Nat → Nat) (sa : Option Addr) (sn sc : Nat) (G : Nat → Prop) (w : World) : Prop :=
  ∀ (W : World) (fr n : Nat), Kept G w W → n ≤ 2097152 → fr + n ≤ 1099511627776 → Calls Tryz.prog 51 #[.slice sa sn sc, .int .i64 (fr : Int), .int .i64 ((fr + n : Nat) : Int)] W fun e w' => ∃ (ta : Option Addr) (tn tc : Nat) (L : List (Nat × Nat)), e = .returned (.slice ta tn tc) ∧ Tn w' (fun b => W.heap.size ≤ b) ta tn tc L ∧ Rule.Tile fo fr n L ∧ Kept No W w'
def HyS (H : Nat) (sa : Option Addr) (sn sc : Nat) (G : Nat → Prop) (w : World) : Prop :=
  ∀ (W : World), Kept G w W → Calls Tryz.prog 17 #[.slice sa sn sc] W fun e w' => e = .returned (.tuple #[.int .i64 (H : Int), .int .i64 0]) ∧ Kept No W w'
def nowM (w : World) (bn : Nat) : Nat := match w.cell? ⟨bn, 0, none⟩ with
  | some (.int _ n) => n.toNat
  | _ => 0

set_option maxHeartbeats 8000000 in
theorem eachSlot_any {sa : Option Addr} {sn sc : Nat} {g N bx cap m0 : Nat} {f0 : Nat → Wr} (fo : Nat → Nat) (p H q : Nat) (T C : Nat → Nat) (m : Nat) (f : Nat → Wr) (w0 w : World)
    (h : Pls (occB fo p) T C 0 (H * q) g N bx cap m0 f0 w0 w m f) (hw0 : w0.heap.size ≤ w.heap.size) (hH : HyS H sa sn sc (Bx g bx) w) (hO : OcS fo sa sn sc (Bx g bx) w) (hper : ∀ t, H ≤ t → fo (t + H) = fo t) (h1 : 1 ≤ H) (h2 : H ≤ 1048576) (hq : 2 ≤ q) (hE : H * q ≤ 2097152)
    (hne : bx ≠ g) (hm0 : m0 ≤ N) (hmc : m0 ≤ cap) (hcm : cap ≤ 9223372036854775807) (hT : ∀ i, T i ≤ 2199023255552) (hC : ∀ i, C i ≤ 2199023255552) :
    Calls Tryz.prog 30 #[.slice sa sn sc, .int .i64 (p : Int), .int .i64 ((H * q : Nat) : Int), .func (.func 31) #[] #[.pointer (some ⟨bx, 0, none⟩)]] w fun e w' => e = .returned (.tuple #[]) ∧ (∃ (m' : Nat) (f' : Nat → Wr), Pls (occB fo p) T C (H * q) (H * q) g N bx cap m0 f0 w0 w' m' f') ∧ Kept (Bx g bx) w w' := by
  have hg := Ln.lt h.ln
  have hbx := heap_lt h.bx'
  have H0 : Hid (Pls (occB fo p) T C 0 (H * q) g N bx cap m0 f0 w0 w m f ∧ w0.heap.size ≤ w.heap.size ∧ g < w.heap.size ∧ bx < w.heap.size) := ⟨h, hw0, hg, hbx⟩
  have HS : Hid (HyS H sa sn sc (Bx g bx) w ∧ OcS fo sa sn sc (Bx g bx) w ∧ (∀ t, H ≤ t → fo (t + H) = fo t)) := ⟨hH, hO, hper⟩
  have HT : Hid ((∀ i, T i ≤ 2199023255552) ∧ (∀ i, C i ≤ 2199023255552)) := ⟨hT, hC⟩
  have hmf : ∀ (fn : Fn) (first cap : Array Value) (w : World), (Instr.makeFunc fn first cap).run Tryz.prog w = .ok (.func fn first cap) w := fun _ _ _ _ => rfl
  have hen : Enters Tryz.prog 50 := enters_of Tryz.func50 (by kernel_rfl) rfl
  unfold Enters at hen
  have KA : Kept No w ((w.alloc (.cells #[.int .i64 (p : Int)] 3)).alloc (.cells #[.func (.func 31) #[] #[.pointer (some ⟨bx, 0, none⟩)]] 94)) := ((Kept.refl No w).alloc _).alloc _
  have HM : Hid (∀ W, Kept (Bx g bx) ((w.alloc (.cells #[.int .i64 (p : Int)] 3)).alloc (.cells #[.func (.func 31) #[] #[.pointer (some ⟨bx, 0, none⟩)]] 94)) W → W.cell? ⟨w.heap.size, 0, none⟩ = some (.int .i64 (p : Int)) ∧ W.cell? ⟨w.heap.size + 1, 0, none⟩ = some (.func (.func 31) #[] #[.pointer (some ⟨bx, 0, none⟩)]) ∧ Kept (Bx g bx) w W) := fun W k => ⟨k.cell (by simp) (fun e => by rcases e with e | e <;> (have e' : w.heap.size = _ := e; omega)), k.cell (by simp) (fun e => by rcases e with e | e <;> (have e' : w.heap.size + 1 = _ := e; omega)), (KA.mono (fun _ h => h.elim)).trans k (fun _ h => .inl h)⟩
  have HKA : Hid (Kept No w ((w.alloc (.cells #[.int .i64 (p : Int)] 3)).alloc (.cells #[.func (.func 31) #[] #[.pointer (some ⟨bx, 0, none⟩)]] 94))) := KA
  clear h hH hO hper hT hC hg hbx KA
  go_enter Tryz.func30, Tryz.ntmps30
  go_upto_region 1 with fail
  generalize hwA : (w.alloc (.cells #[.int .i64 (p : Int)] 3)).alloc (.cells #[.func (.func 31) #[] #[.pointer (some ⟨bx, 0, none⟩)]] 94) = wA at *
  clear hwA
  obtain ⟨a0, a1, a2⟩ := HM.out wA (Kept.refl _ wA)
  have cH := HS.out.1 wA a2
  obtain ⟨gp, hgp⟩ : ∃ g, w.heap.size = g := ⟨_, rfl⟩
  rw [hgp] at HM a0 a1 ⊢
  have HGP : Hid (w.heap.size = gp) := hgp
  clear hgp
  go_upto_region 2 with (go_at_call 17; refine cH.mono ?_; rintro e w1 ⟨rfl, k1⟩; have HK1 : Hid (Kept No wA w1) := k1; clear k1 cH a0 a1 a2)
  have K2 : Kept No w1 (w1.alloc (.cells #[.int .i64 0] 3)) := (Kept.refl No w1).alloc _
  have hb2 := alloc_newG w1 (.cells #[.int .i64 0] 3)
  have H2 : Hid (Pls (occB fo p) T C 0 (H * q) g N bx cap m0 f0 w0 (w1.alloc (.cells #[.int .i64 0] 3)) m f ∧ Kept No wA (w1.alloc (.cells #[.int .i64 0] 3)) ∧ (w1.alloc (.cells #[.int .i64 0] 3)).heap[w1.heap.size]? = some (.cells #[.int .i64 0] 3) ∧ w.heap.size + 1 < w1.heap.size ∧ w1.heap.size < (w1.alloc (.cells #[.int .i64 0] 3)).heap.size) := by
    have hA1 := HM.out wA (Kept.refl _ wA)
    have hl := cell_lt hA1.2.1
    have hs := HK1.out.size
    have e := HGP.out
    refine ⟨H0.out.1.kept ((HKA.out.trans HK1.out (fun _ h => h.elim)).trans K2 (fun _ h => h.elim)), HK1.out.trans K2 (fun _ h => h.elim), hb2, ?_, by rw [World.size_alloc]; omega⟩
    have hl' : gp + 1 < wA.heap.size := hl
    omega
  clear K2 hb2
  go_upto_region 3 with fail
  generalize hw2 : w1.alloc (.cells #[.int .i64 0] 3) = w2 at *
  clear hw2
  obtain ⟨bn, hbn⟩ : ∃ b, w1.heap.size = b := ⟨_, rfl⟩
  rw [hbn] at H2 ⊢
  clear hbn HK1 w1
  have hK2 : Kept (Bx g bx) w w2 := (HKA.out.trans H2.out.2.1 (fun _ h => h.elim)).mono (fun _ h => h.elim)
  have cO := HS.out.2.1 w2 0 H hK2 (by omega) (by omega)
  rw [show (((0 : Nat)) : Int) = 0 from rfl, Nat.zero_add] at cO
  have HD : Hid (bn ≠ g ∧ bn ≠ bx ∧ gp ≠ g ∧ gp ≠ bx ∧ gp + 1 ≠ g ∧ gp + 1 ≠ bx ∧ gp ≠ bn ∧ gp + 1 ≠ bn ∧ w0.heap.size ≤ bn ∧ bn < w2.heap.size) := by
    have h1 := H0.out.2
    have h2 := H2.out.2.2.2
    have e := HGP.out
    show _ ∧ _
    omega
  have HH : Hid (∀ (ar : Nat) (m1 : Nat) (f1 : Nat → Wr) (ta : Option Addr) (tn tc : Nat) (L : List (Nat × Nat)) (W : World), Pls (occB fo p) T C ar (H * q) g N bx cap m0 f0 w0 W m1 f1 → Tn W (fun b => w2.heap.size ≤ b) ta tn tc L → Rule.Tile fo ar H L → W.heap[bn]? = some (.cells #[.int .i64 (ar : Int)] 3) → Kept (Hx g bx bn) w2 W → ar + H ≤ H * q → Calls Tryz.prog 50 #[.slice ta tn tc, .pointer (some ⟨gp, 0, none⟩), .pointer (some ⟨gp + 1, 0, none⟩), .pointer (some ⟨bn, 0, none⟩)] W fun e w' => e = .returned (.tuple #[]) ∧ (∃ (m' : Nat) (f' : Nat → Wr), Pls (occB fo p) T C (ar + H) (H * q) g N bx cap m0 f0 w0 w' m' f') ∧ w'.heap[bn]? = some (.cells #[.int .i64 ((ar + H : Nat) : Int)] 3) ∧ Kept (Hx g bx bn) W w') := by
    intro ar m1 f1 ta tn tc L W hpl htn hti hbnW hKW hle
    have hd := HD.out
    have hm := HM.out w2 (H2.out.2.1.mono (fun _ h => h.elim))
    refine hand_any fo p T C ar H (H * q) m1 f1 w0 W hpl htn hti (fun b hb e => ?_) (hKW.cell hm.1 (fun e => ?_)) (fun e => ?_) (hKW.cell hm.2.1 (fun e => ?_)) (fun e => ?_) hbnW hd.2.2.2.2.2.2.2.2.1 ⟨hd.1, hd.2.1⟩ hne hm0 hmc hcm hle (by omega) HT.out.1 HT.out.2
    · have h3 := H0.out.2
      have h4 := H2.out.2.2.2
      have e2 := HGP.out
      have hs := hK2.size
      rcases e with (e | e) | e <;> (have e' : b = _ := e; have hb' : w2.heap.size ≤ b := hb; omega)
    · rcases e with (e | e) | e <;> (have e' : gp = _ := e; omega)
    · rcases e with (e | e) | e <;> (have e' : gp = _ := e; omega)
    · rcases e with (e | e) | e <;> (have e' : gp + 1 = _ := e; omega)
    · rcases e with (e | e) | e <;> (have e' : gp + 1 = _ := e; omega)
  have HK2 : Hid (Kept (Bx g bx) w w2) := hK2
  clear hK2
  go_upto_region 5 with (first
    | (go_at_call 51; refine cO.mono ?_; rintro e w3 ⟨ta, tn, tc, L, rfl, htn, hti, k3⟩; have cD := HH.out 0 m f ta tn tc L w3 (H2.out.1.kept k3) htn hti (k3.at' H2.out.2.2.1 (fun h => h)) (k3.mono (fun _ h => h.elim)) (by have := Nat.mul_le_mul_left H hq; omega); have HK3 : Hid (Kept (Hx g bx bn) w2 w3) := k3.mono (fun _ h => h.elim); clear htn hti k3 cO)
    | (go_at_fn 50; refine cD.mono ?_; rintro e w4 ⟨rfl, hpl, hbn4, k4⟩; have H4 : Hid ((∃ (m' : Nat) (f' : Nat → Wr), Pls (occB fo p) T C (0 + H) (H * q) g N bx cap m0 f0 w0 w4 m' f') ∧ w4.heap[bn]? = some (.cells #[.int .i64 ((0 + H : Nat) : Int)] 3) ∧ Kept (Hx g bx bn) w2 w4) := ⟨hpl, hbn4, HK3.out.trans k4 (fun _ h => .inl h)⟩; clear hpl hbn4 k4 cD HK3))
  rw [Nat.zero_add] at H4
  have hHx : ∀ k, Hx g bx bn k → Bx g bx k ∨ w.heap.size ≤ k := fun k e => by
    rcases e with e | e
    · exact .inl e
    · exact .inr (by have := H2.out.2.2.2.1; have e' : k = bn := e; omega)
  have cO2 := HS.out.2.1 w4 H H (HK2.out.trans H4.out.2.2 hHx) (by omega) (by omega)
  have hmul : IntKind.i64.wrap (2 * (H : Int)) = ((H + H : Nat) : Int) := by rw [IntWalk.i64_in _ ⟨by omega, by omega⟩]; omega
  have HX : Hid (∀ k, Hx g bx bn k → Bx g bx k ∨ w.heap.size ≤ k) := hHx
  clear hHx
  go_upto_region 6 with (go_at_call 51; refine cO2.mono ?_; rintro e w5 ⟨ta, tn, tc, L, rfl, htn, hti, k5⟩; have H5 : Hid (Tn w5 (fun b => w4.heap.size ≤ b) ta tn tc L ∧ Rule.Tile fo H H L ∧ Kept No w4 w5) := ⟨htn, hti, k5⟩; clear htn hti k5 cO2)
  clear hmul
  have HP : Hid (∃ (m' : Nat) (f' : Nat → Wr), Pls (occB fo p) T C (H * 1) (H * q) g N bx cap m0 f0 w0 w5 m' f') := by
    obtain ⟨m', f', hp⟩ := H4.out.1
    exact ⟨m', f', by rw [Nat.mul_one]; exact hp.kept H5.out.2.2⟩
  have hsz : w2.heap.size ≤ w4.heap.size := H4.out.2.2.size
  have HB5 : Hid (w5.heap[bn]? = some (.cells #[.int .i64 ((H * 1 : Nat) : Int)] 3) ∧ Kept (Hx g bx bn) w2 w5) := ⟨by rw [Nat.mul_one]; exact H5.out.2.2.at' H4.out.2.1 (fun h => h), H4.out.2.2.trans H5.out.2.2 (fun _ h => h.elim)⟩
  have HN5 : Hid (w5.cell? ⟨bn, 0, none⟩ = some (.int .i64 ((H * 1 : Nat) : Int))) := by have := HB5.out.1; show w5.cell? _ = _; simp [World.cell?, this]
  go_loopw [] (fun wr => ∃ (j m' : Nat) (f' : Nat → Wr), 1 ≤ j ∧ j ≤ q ∧ Pls (occB fo p) T C (H * j) (H * q) g N bx cap m0 f0 w0 wr m' f' ∧ wr.heap[bn]? = some (.cells #[.int .i64 ((H * j : Nat) : Int)] 3) ∧ Kept (Hx g bx bn) w5 wr) (fun wr => H * q - nowM wr bn)
  case atStart =>
    obtain ⟨m', f', hp⟩ := HP.out
    exact ⟨1, m', f', Nat.le_refl _, by omega, hp, HB5.out.1, Kept.refl _ _⟩
  case round =>
    obtain ⟨j, m', f', hj1, hjq, hp, hb, K⟩ := hrel
    have HR : Hid (Pls (occB fo p) T C (H * j) (H * q) g N bx cap m0 f0 w0 wr m' f' ∧ wr.heap[bn]? = some (.cells #[.int .i64 ((H * j : Nat) : Int)] 3) ∧ Kept (Hx g bx bn) w5 wr) := ⟨hp, hb, K⟩
    have n0 : wr.cell? ⟨bn, 0, none⟩ = some (.int .i64 ((H * j : Nat) : Int)) := by simp [World.cell?, hb]
    have HNM : Hid (nowM wr bn = H * j) := by show nowM wr bn = H * j; unfold nowM; rw [n0]; exact Int.toNat_natCast _
    clear hp hb K
    by_cases hlt : j < q
    · have hst : H * (j + 1) = H * j + H := by rw [Nat.mul_add, Nat.mul_one]
      have hle : H * (j + 1) ≤ H * q := Nat.mul_le_mul_left H hlt
      have hper : ∀ u, u < H → fo (H * j + u) = fo (H + u) := by
        intro u hu
        have : ∀ i, 1 ≤ i → fo (H * i + u) = fo (H + u) := by
          intro i
          induction i with
          | zero => intro h; omega
          | succ i ih =>
            intro _
            by_cases hi : i = 0
            · subst hi; rw [show H * (0 + 1) = H by omega]
            · have e : H * (i + 1) + u = (H * i + u) + H := by rw [Nat.mul_add, Nat.mul_one]; omega
              rw [e, HS.out.2.2 _ (by have := Nat.mul_le_mul_left H (show 1 ≤ i by omega); omega)]
              exact ih (by omega)
        exact this j hj1
      have cD := HH.out (H * j) m' f' ta tn tc L wr HR.out.1 ((H5.out.1.kept HR.out.2.2 (fun b hb e => by
        have hd := HD.out
        have h3 := H0.out.2
        have hs := HK2.out.size
        rcases e with (e | e) | e <;> (have e' : b = _ := e; have hb' : w4.heap.size ≤ b := hb; omega)) |> fun (h : Tn wr (fun b => w4.heap.size ≤ b) ta tn tc L) => (⟨h.len, h.cap, h.max, fun i x hx => by obtain ⟨b, o, e, hb, r⟩ := h.at' i x hx; exact ⟨b, o, e, Nat.le_trans hsz hb, r⟩⟩ : Tn wr (fun b => w2.heap.size ≤ b) ta tn tc L))) (tile_shift H5.out.2.1 hper) HR.out.2.1 (HB5.out.2.trans HR.out.2.2 (fun _ h => .inl h)) (by omega)
      have hltz : ((H * j : Nat) : Int) < ((H * q : Nat) : Int) := by omega
      have HST : Hid (H * (j + 1) = H * j + H ∧ H * (j + 1) ≤ H * q) := ⟨hst, hle⟩
      clear hst hle hper
      obtain ⟨now, hnow⟩ : ∃ n, H * j = n := ⟨_, rfl⟩
      have HNOW : Hid (H * j = now) := hnow
      rw [hnow] at n0 cD hltz
      obtain ⟨E, hE'⟩ : ∃ E, H * q = E := ⟨_, rfl⟩
      rw [hE'] at hltz
      have HEE : Hid (H * q = E) := hE'
      clear hnow
      go_wp2_with (go_at_fn 50; refine cD.mono ?_; rintro e w6 ⟨rfl, ⟨m2, f2, hpl⟩, hb6, k6⟩; have H6 : Hid (Pls (occB fo p) T C (now + H) (H * q) g N bx cap m0 f0 w0 w6 m2 f2 ∧ w6.heap[bn]? = some (.cells #[.int .i64 ((now + H : Nat) : Int)] 3) ∧ Kept (Hx g bx bn) wr w6) := ⟨hpl, hb6, k6⟩; clear hpl hb6 k6 cD)
      go_roundw
      case rel =>
        have e : H * (j + 1) = now + H := by rw [HST.out.1, HNOW.out]
        exact ⟨j + 1, m2, f2, by omega, by omega, by rw [e]; exact H6.out.1, by rw [e]; exact H6.out.2.1, HR.out.2.2.trans H6.out.2.2 (fun _ h => .inl h)⟩
      case measure =>
        have e : nowM w6 bn = now + H := by
          have n6 : w6.cell? ⟨bn, 0, none⟩ = some (.int .i64 ((now + H : Nat) : Int)) := by have := H6.out.2.1; simp [World.cell?, this]
          unfold nowM; rw [n6]; simp
          omega
        rw [e, HNM.out, HNOW.out]
        have := HST.out
        have := HNOW.out
        omega
    · have hje : j = q := by omega
      subst hje
      have hltz : ¬ ((H * j : Nat) : Int) < ((H * j : Nat) : Int) := by omega
      go_wp2
      go_end0
      exact ⟨rfl, ⟨m', f', HR.out.1⟩, (HK2.out.trans HB5.out.2 HX.out).trans HR.out.2.2 (fun k e => by rcases HX.out k e with e | e; exact .inl e; exact .inr e)⟩
end Go.Proofs.YtnmhcnppdhdhfaaGreatDoor

namespace Go.Proofs.YtnmhcnppdhdhfaaGreatDoor
open Go.RowKit Go.Shelf Plain
set_option linter.unusedVariables false
set_option linter.unusedSimpArgs false
set_option maxRecDepth 100000

theorem Rule.Tile.app {f : Nat → Nat} {a m k : Nat} {L K : List (Nat × Nat)} (h : Rule.Tile f a m L) (h2 : Rule.Tile f (a + m) k K) : Rule.Tile f a (m + k) (L ++ K) := by
  refine ⟨by rw [List.map_append, List.sum_append, h.sum, h2.sum], fun x hx => ?_, fun i x hx u h3 h4 => ?_⟩
  · rcases List.mem_append.1 hx with h' | h'
    · exact h.pos x h'
    · exact h2.pos x h'
  · by_cases hi : i < L.length
    · rw [List.getElem?_append_left hi] at hx
      rw [Rule.pre_app (by omega)] at h3 h4
      exact h.at' i x hx u h3 h4
    · rw [List.getElem?_append_right (by omega)] at hx
      have e : Rule.pre (L ++ K) i = m + Rule.pre K (i - L.length) := by
        unfold Rule.pre
        rw [List.take_append, List.take_of_length_le (by omega), List.map_append, List.sum_append, h.sum]
      rw [e] at h3 h4
      have := h2.at' (i - L.length) x hx (u - m) (by omega) (by omega)
      rw [show a + m + (u - m) = a + u by omega] at this
      exact this
theorem ow_news {w : World} {base g n c : Nat} {R : List (Nat × Nat)} (h : Ow w base (.slice (some ⟨g, 0, none⟩) n c) R) : ∀ j u, (slL R)[j]? = some u → w.cell? (Addr.add ⟨g, 0, none⟩ j) = some u := by
  intro j u hj
  rw [add_none]
  have := h.cells (g := g) rfl j u hj
  rw [add_none] at this
  simpa using this
theorem ow_base {w : World} {base base' : Nat} {v : Value} {L : List (Nat × Nat)} (h : Ow w base v L) (hb : base' ≤ base) : Ow w base' v L := by
  refine ⟨h.1, ?_⟩
  rcases h.2 with h1 | ⟨g, cap, cur, hv, hb', r⟩
  · exact .inl h1
  · exact .inr ⟨g, cap, cur, hv, Nat.le_trans hb hb', r⟩
theorem ow_tn {w : World} {base : Nat} {v : Value} {L : List (Nat × Nat)} (h : Ow w base v L) (hl : L.length ≤ 9223372036854775807) : ∃ ta tn tc, v = .slice ta tn tc ∧ Tn w (fun b => base ≤ b) ta tn tc L := by
  have h0 := h
  obtain ⟨_, ⟨rfl, e⟩ | ⟨g, cap, cur, rfl, hb, hblk, hc, hm, _⟩⟩ := h0
  · have : L = [] := by simpa using e
    subst this
    exact ⟨none, 0, 0, rfl, rfl, Nat.le_refl _, by omega, fun i x hx => by simp at hx⟩
  · refine ⟨_, _, _, rfl, rfl, hc, by unfold maxLen at hm; omega, fun i x hx => ⟨g, 0, rfl, hb, ?_⟩⟩
    obtain ⟨a1, a2⟩ := slL_at L i x hx
    have b1 := ow_news h _ _ a1
    have b2 := ow_news h _ _ a2
    rw [add_none] at b1 b2
    exact ⟨b1, by rw [show 0 + i * 2 + 1 = 0 + (i * 2 + 1) by omega]; exact b2⟩
theorem ow_form {w : World} {base : Nat} {v : Value} {L : List (Nat × Nat)} (h : Ow w base v L) (hL : 1 ≤ L.length) : ∃ g c, v = .slice (some ⟨g, 0, none⟩) L.length c := by
  obtain ⟨_, ⟨_, e⟩ | ⟨g, cap, cur, rfl, _⟩⟩ := h
  · omega
  · exact ⟨g, cap, rfl⟩
theorem tile_pos {f : Nat → Nat} {a m : Nat} {L : List (Nat × Nat)} (h : Rule.Tile f a m L) (hm : 1 ≤ m) : 1 ≤ L.length := by
  cases L with
  | nil => have := h.sum; simp at this; omega
  | cons x r => simp

set_option maxHeartbeats 4000000 in
theorem occupants_any {F : Nat → Prop} {a : Option Addr} {c : Nat} {xs : List Srv} (w0 : World) (hg : Gl w0) (h : Sv w0 F a xs.length c xs) (hF : ∀ k, F k → k < w0.heap.size) (ht : timF xs xs.length = none) :
    ∀ (n fr : Nat), n ≤ 2097152 → fr + n ≤ 1099511627776 → ∀ w, Kept No w0 w → Calls Tryz.prog 51 #[.slice a xs.length c, .int .i64 fr, .int .i64 ((fr + n : Nat) : Int)] w fun e w' => ∃ v L, e = .returned v ∧ Ow w' w.heap.size v L ∧ Rule.Tile (Rule.occ (sys xs)) fr n L ∧ Kept No w w' := by
  obtain ⟨i0, hi, hz0, hz1, hz2⟩ := info_parts Tryz.infoSo
  intro n
  induction n using Nat.strongRecOn with
  | ind n ih =>
    intro fr hn hfn w hk
    have hr := runs_yes fr (fr + n) w (hg.kept hk) (h.keep hk) (fun k hF' => Nat.lt_of_lt_of_le (hF k hF') hk.size) ht (by omega) hfn
    rw [show fr + n - fr = n by omega] at hr
    generalize hf : Rule.occ (sys xs) = f at *
    by_cases hlong : 65536 < (Rule.runsOf f fr n).length
    · have hn1 := (Rule.runsOf_tile f fr n).len
      have hr2 : Calls Tryz.prog 8 #[.slice a xs.length c, .int .i64 fr, .int .i64 ((fr + n : Nat) : Int)] w fun e w' => e = .returned (.tuple #[.slice none 0 0, .int .i64 1]) ∧ Kept No w w' := by
        refine hr.mono ?_
        rintro e w' ⟨k1, ⟨v, hl, _⟩ | ⟨hl, rfl⟩⟩
        · omega
        · exact ⟨rfl, k1⟩
      have IH1 : Hid (∀ w', Kept No w w' → Calls Tryz.prog 51 #[.slice a xs.length c, .int .i64 fr, .int .i64 ((fr + n / 2 : Nat) : Int)] w' fun e w'' => ∃ v L, e = .returned v ∧ Ow w'' w'.heap.size v L ∧ Rule.Tile f fr (n / 2) L ∧ Kept No w' w'') := fun w' k' => ih (n / 2) (by omega) fr (by omega) (by omega) w' (hk.trans k' (fun _ h => h.elim))
      have IH2 : Hid (∀ w', Kept No w w' → Calls Tryz.prog 51 #[.slice a xs.length c, .int .i64 ((fr + n / 2 : Nat) : Int), .int .i64 ((fr + n : Nat) : Int)] w' fun e w'' => ∃ v L, e = .returned v ∧ Ow w'' w'.heap.size v L ∧ Rule.Tile f (fr + n / 2) (n - n / 2) L ∧ Kept No w' w'') := fun w' k' => by
        have := ih (n - n / 2) (by omega) (fr + n / 2) (by omega) (by omega) w' (hk.trans k' (fun _ h => h.elim))
        rw [show fr + n / 2 + (n - n / 2) = fr + n by omega] at this
        exact this
      have HT : Hid (∀ L K : List (Nat × Nat), Rule.Tile f fr (n / 2) L → Rule.Tile f (fr + n / 2) (n - n / 2) K → Rule.Tile f fr n (L ++ K)) := fun L K h1 h2 => by
        have := h1.app h2
        rw [show n / 2 + (n - n / 2) = n by omega] at this
        exact this
      have hpos : 1 ≤ n - n / 2 := by omega
      have hs1 : n / 2 ≤ 2097152 := by omega
      have hs2 : n - n / 2 ≤ 2097152 := by omega
      obtain ⟨zf, ezf⟩ : ∃ z : Int, (fr : Int) = z := ⟨_, rfl⟩
      obtain ⟨zb, ezb⟩ : ∃ z : Int, ((fr + n : Nat) : Int) = z := ⟨_, rfl⟩
      obtain ⟨zm, ezm⟩ : ∃ z : Int, ((fr + n / 2 : Nat) : Int) = z := ⟨_, rfl⟩
      have q1 : (zf + zb) / 2 = zm := by omega
      have q2 : Int.tdiv (zf + zb) 2 = zm := by rw [Int.tdiv_eq_ediv_of_nonneg (by omega)]; exact q1
      have q3 : 0 ≤ zf := by omega
      have q4 : zf ≤ 1099511627776 := by omega
      have q5 : 0 ≤ zb := by omega
      have q6 : zb ≤ 1099511627776 := by omega
      rw [ezf, ezb] at hr2
      rw [ezf, ezm] at IH1
      rw [ezm, ezb] at IH2
      rw [ezf, ezb]
      clear hr hlong hn1 ih hn hfn ezf ezb ezm hf h hF ht
      go_enter Tryz.func51, Tryz.ntmps51
      go_upto_region 5 with (go_at_call 8; refine hr2.mono ?_; rintro e w1 ⟨rfl, hk1⟩; have H1 : Hid (Kept No w w1) := hk1; clear hk1 hr2)
      have c1 := IH1.out w1 H1.out
      go_wp2_with (first
        | (go_at_call 51; refine c1.mono ?_; rintro e w2 ⟨v1, L1, rfl, ho2, ht2, hk2⟩; have H2 : Hid (Ow w2 w1.heap.size v1 L1 ∧ Rule.Tile f fr (n / 2) L1 ∧ Kept No w1 w2) := ⟨ho2, ht2, hk2⟩; clear ho2 ht2 hk2 c1; have c2 := IH2.out w2 (H1.out.trans H2.out.2.2 (fun _ h => h.elim)))
        | (go_at_call 51; refine c2.mono ?_; rintro e w3 ⟨v2, L2, rfl, ho3, ht3, hk3⟩; obtain ⟨g2, cap2, rfl⟩ := ow_form ho3 (tile_pos ht3 hpos); have hl1 := H2.out.2.1.len; have hl2 := ht3.len; have H3 : Hid (Ow w3 w1.heap.size v1 L1 ∧ Ow w3 w2.heap.size (.slice (some ⟨g2, 0, none⟩) L2.length cap2) L2 ∧ Kept No w w3 ∧ Rule.Tile f (fr + n / 2) (n - n / 2) L2 ∧ w1.heap.size ≤ w3.heap.size) := ⟨hk3.owns H2.out.1 (fun _ _ h => h), ho3, (H1.out.trans H2.out.2.2 (fun _ h => h.elim)).trans hk3 (fun _ h => h.elim), ht3, Nat.le_trans H2.out.2.2.size hk3.size⟩; clear ho3 ht3 hk3 c2)
        | (at_builtin; refine wpList_append_own_at _ rfl _ _ 33 rfl w1.heap.size 75 i0 (.agg #[.int .i64 0, .int .i64 0]) 2 16 Tryz.underlying33 hi hz0 hz1 hz2 rfl (by decide) _ _ _ rfl H3.out.1 ⟨g2, 0, none⟩ L2.length cap2 (slL L2) rfl (slL_len _) (ow_news H3.out.2.1) (slL_one _) (by unfold maxLen; omega) (by omega) H3.out.2.2.2.2 ?_; intro v9 w10 own10 grow10 _ at10))
      have HN : Hid (Ow w10 w.heap.size v9 (L1 ++ L2) ∧ Rule.Tile f fr n (L1 ++ L2) ∧ Kept No w w10) := by
        refine ⟨ow_base (base := w1.heap.size) ?_ H1.out.size, HT.out _ _ H2.out.2.1 H3.out.2.2.2.1, H3.out.2.2.1.grown grow10 (fun b e => .inr ?_)⟩
        · unfold Ow
          rw [slL_app, List.length_append]
          exact own10
        · have := (H2.out.1.lt b e).1
          have := H1.out.size
          omega
      clear own10 grow10 at10
      go_wp2
      go_ret
      exact ⟨v9, _, rfl, HN.out⟩
    · have hr2 : Calls Tryz.prog 8 #[.slice a xs.length c, .int .i64 fr, .int .i64 ((fr + n : Nat) : Int)] w fun e w' => ∃ v, e = .returned (.tuple #[v, .int .i64 0]) ∧ Ow w' w.heap.size v (Rule.runsOf f fr n) ∧ Kept No w w' := by
        refine hr.mono ?_
        rintro e w' ⟨k1, ⟨v, hl, rfl, ho⟩ | ⟨hl, _⟩⟩
        · exact ⟨v, rfl, ho, k1⟩
        · omega
      have HT : Hid (Rule.Tile f fr n (Rule.runsOf f fr n)) := Rule.runsOf_tile f fr n
      clear hr hlong ih hn hfn hf h hF ht
      go_enter Tryz.func51, Tryz.ntmps51
      go_wp2_with (go_at_call 8; refine hr2.mono ?_; rintro e w1 ⟨v, rfl, ho1, hk1⟩; have H1 : Hid (Ow w1 w.heap.size v (Rule.runsOf f fr n) ∧ Kept No w w1) := ⟨ho1, hk1⟩; clear ho1 hk1 hr2)
      go_ret
      exact ⟨v, _, rfl, H1.out.1, HT.out, H1.out.2⟩
end Go.Proofs.YtnmhcnppdhdhfaaGreatDoor

namespace Go.Proofs.YtnmhcnppdhdhfaaGreatDoor
open Go.RowKit Plain
set_option linter.unusedVariables false
set_option linter.unusedSimpArgs false
set_option maxRecDepth 100000

set_option maxHeartbeats 8000000 in
theorem serversOf_any (F : Nat → Prop) (a : Option Addr) (n c : Nat) (v1 v2 : Value) (xs : List Pn) (w : World) (h : Ls 21 elPn w F a n c xs) (hn : n ≤ 70000) :
    Calls Tryz.prog 27 #[.agg #[.slice a n c, v1, v2]] w fun e w' => ∃ v, e = .returned v ∧ w'.ownsRow w.heap.size 39 4 v n (fl (svs xs)) ∧ Kept No w w' := by
  obtain ⟨i0, hi, hz0, hz1, hz2⟩ := info_parts Tryz.infoS
  have H : Hid (Ls 21 elPn w F a n c xs) := h
  have K0 : Hid (Kept No w (w.alloc (.cells #[.slice a n c, v1, v2] 26))) := (Kept.refl No w).alloc _
  have c0 : (w.alloc (.cells #[.slice a n c, v1, v2] 26)).cell? ⟨w.heap.size, 0, none⟩ = some (.slice a n c) := by simp
  clear h
  go_enter Tryz.func27, Tryz.ntmps27
  go_wp2
  clear c0
  generalize w.alloc (.cells #[.slice a n c, v1, v2] 26) = wb at *
  go_loopw [3, 9] (fun v x wr => ∃ k : Nat, k ≤ n ∧ x = .int .i64 k ∧ Kept No w wr ∧ wr.ownsRow w.heap.size 39 4 v k (fl ((svs xs).take k))) (fun _ x _ => n - (intOf x).toNat)
  case atStart => exact ⟨0, by omega, rfl, K0.out, ⟨rfl, .inl ⟨rfl, rfl⟩⟩⟩
  case round =>
    obtain ⟨k, hk, rfl, hkr, hown⟩ := hrel
    by_cases hlt : k < n
    · have hx : xs[k]? = some (xs.getD k dPn) := by rw [List.getD, List.getElem?_eq_getElem (by rw [H.out.len]; exact hlt)]; rfl
      obtain ⟨b, o, cs, rfl, hb, hl, hr, hE⟩ := H.out.at' k _ hx
      have HNX : Hid (fl ((svs xs).take (k + 1)) = fl ((svs xs).take k) ++ fl [pnSv (xs.getD k dPn)]) := by
        show fl ((svs xs).take (k + 1)) = _
        rw [← fl_app, List.take_add_one, svs, List.getElem?_map, hx]
        rfl
      have HL : Hid ((fl ((svs xs).take k)).length = k * 4) := by show (fl ((svs xs).take k)).length = k * 4; rw [fl_len, List.length_take, svs, List.length_map, H.out.len]; congr 1; omega
      generalize fl ((svs xs).take k) = L0 at *
      generalize xs.getD k dPn = y at *
      obtain ⟨ya, yb, yc, yd, cs0, he⟩ : ∃ ya yb yc yd cs0, cs = .int .i64 ya :: .int .i64 yb :: .int .i64 yc :: .int .i64 yd :: cs0 := by
        obtain ⟨a0, n0, c0, a1, n1, c1, a2, n2, c2, a3, n3, c3, a4, n4, c4, a5, n5, c5, e, _⟩ := hE.sl
        exact ⟨_, _, _, _, _, e⟩
      have hy : pnSv y = ⟨ya, yb, yc, yd⟩ := by
        obtain ⟨a0, n0, c0, a1, n1, c1, a2, n2, c2, a3, n3, c3, a4, n4, c4, a5, n5, c5, e, _⟩ := hE.sl
        rw [he] at e
        simp only [List.cons.injEq, Value.int.injEq, true_and] at e
        obtain ⟨e1, e2, e3, e4, _⟩ := e
        rw [pnSv, e1, e2, e3, e4]
      rw [hy] at HNX
      have h1 : ∀ v ∈ cs, v.oneCell' = true := by
        obtain ⟨a0, n0, c0, a1, n1, c1, a2, n2, c2, a3, n3, c3, a4, n4, c4, a5, n5, c5, e, _⟩ := hE.sl
        rw [e]
        simp [Value.oneCell']
      generalize wr = wo at *
      obtain ⟨w1, hst, hrg, hk1⟩ := box_PnE wo cs hl h1
      have HLD : Hid ((Instr.loadAt 48 (.pointer (some ⟨b, o + k * 21, none⟩))).run Tryz.prog wo = .ok (.agg cs.toArray) wo) := run_loadAt_mid wo b (o + k * 21) _ cs _ (rangeAt_kept hr hkr (fun h => h)) Tryz.underlying48 rfl (by rw [hl]; exact sizeEPn)
      have HST : Hid ((Instr.storeAt 48 (.pointer (some ⟨wo.heap.size, 0, none⟩)) (.agg cs.toArray)).run Tryz.prog (wo.alloc (.cells #[.int .i64 0, .int .i64 0, .int .i64 0, .int .i64 0, .int .i64 0, .int .i64 0, .slice none 0 0, .slice none 0 0, .slice none 0 0, .int .i64 0, .int .i64 0, .int .i64 0, .int .i64 0, .int .i64 0, .int .i64 0, .int .i64 0, .int .i64 0, .int .i64 0, .slice none 0 0, .slice none 0 0, .slice none 0 0] 48)) = .ok () w1) := hst
      have HW : Hid (Kept No w w1) := hkr.trans hk1 (fun _ h => h.elim)
      have HOW : Hid (w1.ownsRow w.heap.size 39 4 u3 k L0) := hk1.owns hown (fun _ _ h => h)
      have hcap : k ≤ c := by have := H.out.cap; omega
      have hn' : n ≤ 9223372036854775807 := by omega
      rw [he] at hrg
      have d0 := hrg 0 _ rfl
      have d1 := hrg 1 _ rfl
      have d2 := hrg 2 _ rfl
      have d3 := hrg 3 _ rfl
      rw [Nat.add_zero] at d0
      simp only [Nat.zero_add] at d1 d2 d3
      clear hkr hr hl h1 hst hrg hk1 hE hx hown hb he hy
      generalize Value.agg cs.toArray = av at *
      go_upto_region 4 with fail
      refine wp_region_lit ?_
      refine l_take 11 rfl rfl (er_idxPn _ _ rfl b o n c k hlt hn' rfl rfl) ?_
      simp only [Act.put, List.setIfInBounds_toArray, List.set_cons_zero, List.set_cons_succ]
      refine l_take 12 rfl rfl (er_ld _ _ rfl _ _ rfl HLD.out) ?_
      simp only [Act.put, List.setIfInBounds_toArray, List.set_cons_zero, List.set_cons_succ]
      refine l_make 5 rfl rfl (er_alPn rfl) ?_
      simp only [Act.put, List.setIfInBounds_toArray, List.set_cons_zero, List.set_cons_succ]
      refine l_turn rfl rfl (er_st _ _ _ rfl _ _ rfl rfl HST.out) ?_
      clear HST HLD
      go_wp2_with (at_builtin; refine wpList_append_own_at _ rfl _ _ 36 rfl w.heap.size 39 i0 (.agg #[.int .i64 0, .int .i64 0, .int .i64 0, .int .i64 0]) 4 32 Tryz.underlying36 hi hz0 hz1 hz2 rfl (by decide) _ _ _ rfl (HOW.out.alloc _) ⟨w1.heap.size, 0, none⟩ 1 1 (fl [⟨ya, yb, yc, yd⟩]) rfl rfl (cell_four w1 ⟨ya, yb, yc, yd⟩ _) (fl_one _) (by unfold maxLen; omega) (by omega) (by have := HW.out.size; simp; omega) ?_; intro v1 w6 own1 grow1 _ at1)
      have HK6 : Hid (Kept No w w6 ∧ w6.ownsRow w.heap.size 39 4 v1 (k + 1) (fl ((svs xs).take (k + 1)))) := by
        exact ⟨(HW.out.alloc _).grown grow1 (fun g e => .inr (HOW.out.lt g e).1), by rw [HNX.out]; exact own1⟩
      clear own1 grow1 at1
      go_wp2
      go_roundw
      case rel => exact ⟨k + 1, by omega, by go_num, HK6.out.1, HK6.out.2⟩
      case measure => simp [intOf]; omega
    · have hke : k = n := by omega
      subst hke
      have HO : Hid (wr.ownsRow w.heap.size 39 4 u3 k (fl (svs xs))) := by
        rw [List.take_of_length_le (by rw [svs, List.length_map, H.out.len]; exact Nat.le_refl _)] at hown
        exact hown
      have HKR : Hid (Kept No w wr) := hkr
      clear hown hkr
      go_wp2
      go_ret
      exact ⟨_, rfl, HO.out, HKR.out⟩
end Go.Proofs.YtnmhcnppdhdhfaaGreatDoor
