/-
  One text: RDone, RStd, RPly.
-/
import Derived.Test.YtnmhcnppdhdhfaaGreatDoorHRPlay
import Derived.Test.YtnmhcnppdhdhfaaGreatDoorG36
import Derived.Test.YtnmhcnppdhdhfaaGreatDoorG16
import Derived.Test.YtnmhcnppdhdhfaaGreatDoorG26
namespace Go.Proofs.YtnmhcnppdhdhfaaGreatDoor
open Go.RowKit Rp
set_option linter.unusedVariables false
set_option linter.unusedSimpArgs false
set_option maxRecDepth 100000

/-- what doneBy answers -/
structure Dne (o : Nat → Bool) (T C : Nat → Nat) (E g N m : Nat) (f : Nat → Wr) (w w' : World) (s : Nat) (f' : Nat → Wr) : Prop where
  ln : Ln w' g N f'
  kp : Kept (At g) w w'
  at' : ∀ j, ∃ k, f' j = (f j).at k
  le : s ≤ m
  yes : ∀ i, i < s → okE (lv o T C i) (fun _ => C i) (T i) E ∧ (f' i).k.worst = wrst (lv o T C i) (fun _ => C i) (T i) E
  no : s < m → ¬ okE (lv o T C s) (fun _ => C s) (T s) E
theorem mult_eq {r E T : Nat} (hr : r % T = 0) (hE : E % T = 0) (hT : 0 < T) (h1 : E ≤ r) (h2 : r < E + T) : r = E := by
  have e1 : r = T * (r / T) := by have := Nat.div_add_mod r T; omega
  have e2 : E = T * (E / T) := by have := Nat.div_add_mod E T; omega
  have : r / T ≤ E / T := by
    apply Decidable.byContradiction
    intro hn
    have h3 : T * (E / T + 1) ≤ T * (r / T) := Nat.mul_le_mul_left T (by omega)
    rw [Nat.mul_add, Nat.mul_one] at h3
    omega
  have := Nat.mul_le_mul_left T this
  omega

theorem fin_k {A : Nat → Bool} {E g N : Nat} {f : Nat → Wr} {i : Nat} {w w' : World} {k : Wk} {T C : Nat} (hc : Cau A E (E - 1) g N f i w w' true k) (eT : (f i).k.T = T) (eC : (f i).k.C = C) (hE : E % T = 0) (h0 : 0 < E) (hrl : (f i).k.release < E + T) : (k.left = 0 ↔ okE A (fun _ => C) T E) ∧ k.worst = wrst A (fun _ => C) T E := by
  obtain ⟨hJ, hr⟩ := hc.yes rfl
  have kT := hc.eT.trans eT
  have kC := hc.eC.trans eC
  have hpT := hJ.pT
  rw [kT] at hpT
  have e : k.release = E := mult_eq (T := T) (by rw [← kT]; exact hJ.div) hE hpT (by omega) (by rcases hc.rl with e | e <;> omega)
  have := hJ.fin_ok e h0
  rw [kT, kC] at this
  have h2 := hJ.wo
  rw [kT, kC] at h2
  exact ⟨this, h2⟩

set_option maxHeartbeats 8000000 in
theorem doneBy_any {g N cap : Nat} {f : Nat → Wr} (o : Nat → Bool) (T C : Nat → Nat) (E m : Nat) (w : World) (h : Ln w g N f) (hL : LJ o T C E m f) (hrl : ∀ j, j < m → (f j).k.release < E + T j) (hm : m ≤ N) (hmc : m ≤ cap) (hcm : cap ≤ 9223372036854775807) (h0 : 0 < E) (hb : E ≤ 2199023255552) (hT : ∀ i, T i ≤ 2199023255552) (hTE : ∀ i, i < m → E % T i = 0) :
    Calls Tryz.prog 33 #[.slice (some ⟨g, 0, none⟩) m cap, .int .i64 E] w fun e w' => ∃ (s : Nat) (f' : Nat → Wr), e = .returned (.slice (some ⟨g, 0, none⟩) s cap) ∧ Dne o T C E g N m f w w' s f' := by
  have HL0 : Hid (Ln w g N f ∧ LJ o T C E m f ∧ (∀ j, j < m → (f j).k.release < E + T j) ∧ (∀ i, i < m → E % T i = 0) ∧ (∀ i, T i ≤ 2199023255552)) := ⟨h, hL, hrl, hTE, hT⟩
  have hsub : IntKind.i64.wrap ((E : Int) - 1) = ((E - 1 : Nat) : Int) := by rw [IntWalk.i64_in _ ⟨by omega, by omega⟩]; omega
  clear h hL hrl hTE hT
  go_enter Tryz.func33, Tryz.ntmps33
  go_wp2
  go_loopw [9] (fun x wr => ∃ (i : Nat) (f' : Nat → Wr), i ≤ m ∧ x = .int .i64 (i : Int) ∧ Ln wr g N f' ∧ Kept (At g) w wr ∧ (∀ j, ∃ k, f' j = (f j).at k) ∧ (∀ j, i ≤ j → f' j = f j) ∧ ∀ j, j < i → okE (lv o T C j) (fun _ => C j) (T j) E ∧ (f' j).k.worst = wrst (lv o T C j) (fun _ => C j) (T j) E) (fun x _ => m - (intOf x).toNat)
  case atStart => exact ⟨0, f, by omega, rfl, HL0.out.1, Kept.refl _ _, fun j => ⟨(f j).k, rfl⟩, fun _ _ => rfl, fun j hj => by omega⟩
  case round =>
    obtain ⟨i, f', hi, rfl, hln, K, hat, hla, hok⟩ := hrel
    have HF : Hid (Ln wr g N f' ∧ Kept (At g) w wr ∧ (∀ j, ∃ k, f' j = (f j).at k) ∧ (∀ j, i ≤ j → f' j = f j) ∧ ∀ j, j < i → okE (lv o T C j) (fun _ => C j) (T j) E ∧ (f' j).k.worst = wrst (lv o T C j) (fun _ => C j) (T j) E) := ⟨hln, K, hat, hla, hok⟩
    clear hln K hat hla hok
    by_cases hlt : i < m
    · have hiz : (i : Int) < (m : Int) := by omega
      have hmz : m ≤ 9223372036854775807 := by omega
      have hic : i ≤ cap := by omega
      have efi : f' i = f i := HF.out.2.2.2.1 i (Nat.le_refl _)
      have eT : (f' i).k.T = T i := by rw [efi]; exact HL0.out.2.1.eT i
      have eC : (f' i).k.C = C i := by rw [efi]; exact HL0.out.2.1.eC i
      have hJ : J (lv o T C i) E (f' i).k := by rw [efi]; exact HL0.out.2.1.j i hlt
      have hr0 : (f' i).k.release < E + T i := by rw [efi]; exact HL0.out.2.2.1 i hlt
      have cC := catchUp_any (lv o T C i) E (E - 1) (by omega) wr HF.out.1 (show i < N by omega) hJ hb (by rw [eT]; exact HL0.out.2.2.2.2 i)
      have HE : Hid ((f' i).k.T = T i ∧ (f' i).k.C = C i ∧ (f' i).k.release < E + T i ∧ E % T i = 0) := ⟨eT, eC, hr0, HL0.out.2.2.2.1 i hlt⟩
      clear efi hr0
      by_cases hok1 : okE (lv o T C i) (fun _ => C i) (T i) (E - 1)
      · have cY : Calls Tryz.prog 52 #[.pointer (some ⟨g, i * 11, none⟩), .int .i64 ((E - 1 : Nat) : Int)] wr fun e w' => ∃ k : Wk, e = .returned (.bool true) ∧ Cau (lv o T C i) E (E - 1) g N f' i wr w' true k :=
          cC.mono (by
            rintro e w' ⟨b, k, rfl, hc⟩
            cases b with
            | true => exact ⟨k, rfl, hc⟩
            | false => exact absurd (by rw [eT, eC]; exact hok1) (hc.no rfl))
        clear eT eC hJ cC hok1
        have HCL : Hid (∀ (w2 : World) (k : Wk), Cau (lv o T C i) E (E - 1) g N f' i wr w2 true k → w2.cell? ⟨g, i * 11 + 7, none⟩ = some (.int .i64 (k.left : Int))) := fun w2 k hc => by
          have := hc.ln.cells (show i < N by omega) 7 (by omega)
          rw [upd_at] at this
          exact this
        by_cases hok2 : okE (lv o T C i) (fun _ => C i) (T i) E
        · have HOK : Hid (okE (lv o T C i) (fun _ => C i) (T i) E) := hok2
          clear hok2
          go_wp2_with (go_at_call 52; refine cY.mono ?_; rintro e w2 ⟨k, rfl, hc⟩; have HC : Hid (Cau (lv o T C i) E (E - 1) g N f' i wr w2 true k) := hc; have hfk := fin_k hc HE.out.1 HE.out.2.1 HE.out.2.2.2 h0 HE.out.2.2.1; have hl0 : k.left = 0 := hfk.1.2 HOK.out; have HW : Hid (k.worst = wrst (lv o T C i) (fun _ => C i) (T i) E) := hfk.2; have c7 := HCL.out w2 k hc; rw [hl0] at c7; clear hc cY hfk hl0)
          go_roundw
          case rel =>
            refine ⟨i + 1, upd f' i ((f' i).at k), by omega, by go_num, HC.out.ln, HF.out.2.1.trans HC.out.kp (fun _ h => .inl h), at_at HF.out.2.2.1, fun j hj => ?_, fun j hj => ?_⟩
            · unfold upd
              rw [if_neg (by omega)]
              exact HF.out.2.2.2.1 j (by omega)
            · by_cases e : j = i
              · subst e
                rw [upd_at]
                exact ⟨HOK.out, HW.out⟩
              · unfold upd
                rw [if_neg e]
                exact HF.out.2.2.2.2 j (by omega)
          case measure => simp [intOf]; omega
        · have HOK : Hid (¬ okE (lv o T C i) (fun _ => C i) (T i) E) := hok2
          clear hok2
          go_wp2_with (go_at_call 52; refine cY.mono ?_; rintro e w2 ⟨k, rfl, hc⟩; have HC : Hid (Cau (lv o T C i) E (E - 1) g N f' i wr w2 true k) := hc; have hfk := fin_k hc HE.out.1 HE.out.2.1 HE.out.2.2.2 h0 HE.out.2.2.1; have hl0 : ¬ k.left = 0 := fun e => HOK.out (hfk.1.1 e); have hlz : (k.left : Int) > 0 := (by omega); have c7 := HCL.out w2 k hc; clear hc cY hfk hl0)
          go_ret
          refine ⟨i, upd f' i ((f' i).at k), rfl, ⟨HC.out.ln, HF.out.2.1.trans HC.out.kp (fun _ h => .inl h), at_at HF.out.2.2.1, by omega, fun j hj => ?_, fun _ => HOK.out⟩⟩
          unfold upd
          rw [if_neg (by omega)]
          exact HF.out.2.2.2.2 j hj
      · have cN : Calls Tryz.prog 52 #[.pointer (some ⟨g, i * 11, none⟩), .int .i64 ((E - 1 : Nat) : Int)] wr fun e w' => ∃ k : Wk, e = .returned (.bool false) ∧ Cau (lv o T C i) E (E - 1) g N f' i wr w' false k :=
          cC.mono (by
            rintro e w' ⟨b, k, rfl, hc⟩
            cases b with
            | false => exact ⟨k, rfl, hc⟩
            | true =>
              have h1 := (hc.yes rfl).1
              have : okE (lv o T C i) (fun _ => k.C) k.T (E - 1) := fun s h0 h2 h3 => h1.ok s h0 (by have := (hc.yes rfl).2; omega) h3
              rw [hc.eT, hc.eC, eT, eC] at this
              exact absurd this hok1)
        have HOK : Hid (¬ okE (lv o T C i) (fun _ => C i) (T i) E) := fun h => hok1 (okE_less h (by omega))
        clear eT eC hJ cC hok1
        go_wp2_with (go_at_call 52; refine cN.mono ?_; rintro e w2 ⟨k, rfl, hc⟩; have HC : Hid (Cau (lv o T C i) E (E - 1) g N f' i wr w2 false k) := hc; clear hc cN)
        go_ret
        refine ⟨i, upd f' i ((f' i).at k), rfl, ⟨HC.out.ln, HF.out.2.1.trans HC.out.kp (fun _ h => .inl h), at_at HF.out.2.2.1, by omega, fun j hj => ?_, fun _ => HOK.out⟩⟩
        unfold upd
        rw [if_neg (by omega)]
        exact HF.out.2.2.2.2 j hj
    · have hiz : ¬ (i : Int) < (m : Int) := by omega
      have him : i = m := by omega
      subst him
      go_wp2
      go_ret
      exact ⟨i, rfl, f', ⟨HF.out.1, HF.out.2.1, HF.out.2.2.1, Nat.le_refl _, HF.out.2.2.2.2, fun h => absurd h (Nat.lt_irrefl _)⟩⟩
end Go.Proofs.YtnmhcnppdhdhfaaGreatDoor

namespace Go.Proofs.YtnmhcnppdhdhfaaGreatDoor
open Go.RowKit Plain
set_option linter.unusedVariables false
set_option linter.unusedSimpArgs false
set_option maxRecDepth 100000

theorem gl_kept {G : Nat → Prop} {w w' : World} (h : Gl w) (k : Kept G w w') (hG : ¬ G 0) : Gl w' := k.cell h hG
theorem ocS_of {F G : Nat → Prop} {a : Option Addr} {c : Nat} {xs : List Srv} (w : World) (hg : Gl w) (h : Sv w F a xs.length c xs) (hF : ∀ k, F k → k < w.heap.size) (ht : timF xs xs.length = none) (hG : ∀ b, F b → ¬ G b) (h0 : ¬ G 0) : OcS (Rule.occ (sys xs)) a xs.length c G w := fun W fr n k hn hf => by
  have hs := k.size
  refine (occupants_any W (gl_kept hg k h0) (h.kept k hG) (fun i hi => by have := hF i hi; omega) ht n fr hn hf W (Kept.refl _ _)).mono ?_
  rintro e w' ⟨v, L, rfl, ho, hT, hk⟩
  obtain ⟨ta, tn, tc, rfl, htn⟩ := ow_tn ho (by have := hT.len; omega)
  exact ⟨ta, tn, tc, L, rfl, htn, hT, hk⟩
theorem hyS_of {F G : Nat → Prop} {a : Option Addr} {c : Nat} {xs : List Srv} (w : World) (hg : Gl w) (h : Sv w F a xs.length c xs) (ht : timF xs xs.length = none) (hG : ∀ b, F b → ¬ G b) (h0 : ¬ G 0) : HyS (hyp xs) a xs.length c G w := fun W k => by
  have := hyper_any F a xs.length c xs W (gl_kept hg k h0) (h.kept k hG)
  rw [(tim_yes ht).1, (tim_yes ht).2] at this
  exact this
theorem per_of {xs : List Srv} (ht : timF xs xs.length = none) : ∀ t, hyp xs ≤ t → Rule.occ (sys xs) (t + hyp xs) = Rule.occ (sys xs) t := fun t h => by
  have hv := vd_of ht
  exact Rule.again hv.bd.ok (fun i hi => hv.dvd i hi) t h
theorem line_at {xs : List Prc} {d : Array Wr} (hp : d.toList.Perm (line0 xs)) {i : Nat} (hi : i < d.size) : ∃ j, j < xs.length ∧ d[i]! = wrk (xs.getD j dPrc) j := by
  have hm : d[i]! ∈ line0 xs := by
    rw [getElem!_pos d i hi]
    exact hp.mem_iff.1 (by simp)
  unfold line0 at hm
  rw [List.mem_map] at hm
  obtain ⟨j, hj, e⟩ := hm
  exact ⟨j, List.mem_range.1 hj, e.symm⟩
/-- the processes of a partition that is analysed: each has a period and a capacity -/
def hasT (xs : List Prc) : Prop := ∀ j, j < xs.length → 0 < (xs.getD j dPrc).pe ∧ (xs.getD j dPrc).pe ≤ 2199023255552 ∧ 0 < (xs.getD j dPrc).ca ∧ (xs.getD j dPrc).ca ≤ 2199023255552
def Td (d : Array Wr) : Nat → Nat := fun i => (d[i]!).k.T
def Cd (d : Array Wr) : Nat → Nat := fun i => (d[i]!).k.C
theorem td_le {xs : List Prc} {d : Array Wr} (hp : d.toList.Perm (line0 xs)) (hT : hasT xs) (i : Nat) : Td d i ≤ 2199023255552 ∧ Cd d i ≤ 2199023255552 := by
  by_cases hi : i < d.size
  · obtain ⟨j, hj, e⟩ := line_at hp hi
    obtain ⟨h1, h2, h3, h4⟩ := hT j hj
    unfold Td Cd
    rw [e]
    simp only [wrk]
    omega
  · have e : d[i]! = default := by simp [hi]
    unfold Td Cd
    rw [e]
    exact ⟨Nat.zero_le _, Nat.zero_le _⟩
theorem pls_start {xs : List Prc} {d : Array Wr} (o : Nat → Bool) (E g n bx : Nat) (w : World) (hT : hasT xs) (hp : d.toList.Perm (line0 xs)) (hd : d.size = n) (hln : Ln w g n (fun i => d[i]!)) (hbx : w.heap[bx]? = some (.cells #[.slice (some ⟨g, 0, none⟩) n n] 60)) :
    Pls o (Td d) (Cd d) 0 E g n bx n n (fun i => d[i]!) w w n (fun i => d[i]!) := by
  refine ⟨hln, hbx, Kept.refl _ _, fun j => ⟨(d[j]!).k, rfl⟩, ⟨fun i hi => ?_, fun _ => rfl, fun _ => rfl⟩, Nat.le_refl _, fun j hj => ?_, fun h => by omega⟩
  · obtain ⟨j, hj, e⟩ := line_at hp (i := i) (by omega)
    obtain ⟨h1, h2, h3, h4⟩ := hT j hj
    simp only [e]
    exact Rp.J.start _ _ _ (by omega) (by omega)
  · obtain ⟨i, hi, e⟩ := line_at hp (i := j) (by omega)
    obtain ⟨h1, h2, h3, h4⟩ := hT i hi
    unfold Td
    simp only [e, wrk]
    omega
end Go.Proofs.YtnmhcnppdhdhfaaGreatDoor

namespace Go.Proofs.YtnmhcnppdhdhfaaGreatDoor
open Go.RowKit Plain
set_option linter.unusedVariables false
set_option linter.unusedSimpArgs false
set_option maxRecDepth 100000

/-- what play answers -/
structure Pyd (o : Nat → Bool) (E n : Nat) (xs : List Prc) (w w' : World) (g s : Nat) (d : Array Wr) (f : Nat → Wr) : Prop where
  nw : w.heap.size ≤ g
  sz : d.size = n
  pm : d.toList.Perm (line0 xs)
  sr : d.toList.Pairwise (fun x y => y.pr ≤ x.pr)
  ln : Ln w' g n f
  le : s ≤ n
  at' : ∀ j, ∃ k, f j = (d[j]!).at k
  yes : ∀ i, i < s → Rp.okE (lv o (Td d) (Cd d) i) (fun _ => Cd d i) (Td d i) E ∧ (f i).k.worst = Rp.wrst (lv o (Td d) (Cd d) i) (fun _ => Cd d i) (Td d i) E
  no : s < n → ¬ Rp.okE (lv o (Td d) (Cd d) s) (fun _ => Cd d s) (Td d s) E
  kp : Kept No w w'

theorem plays_out {o : Nat → Bool} {E n g bx m s : Nat} {xs : List Prc} {d : Array Wr} {f f' : Nat → Wr} {w w0 w1 w2 : World} (hs : d.size = n) (hp : d.toList.Perm (line0 xs)) (hr : d.toList.Pairwise (fun x y => y.pr ≤ x.pr)) (hg : w.heap.size ≤ g) (h : Pls o (Td d) (Cd d) E E g n bx n n (fun i => d[i]!) w0 w1 m f) (h2 : Dne o (Td d) (Cd d) E g n m f w1 w2 s f') (hk : Kept No w w2) :
    Pyd o E n xs w w2 g s d f' := by
  refine ⟨hg, hs, hp, hr, h2.ln, by have := h2.le; have := h.le; omega, fun j => ?_, h2.yes, fun hlt => ?_, hk⟩
  · obtain ⟨k, e⟩ := h2.at' j
    obtain ⟨k', e'⟩ := h.at' j
    exact ⟨k, by rw [e, e']; rfl⟩
  · by_cases hm : s < m
    · exact h2.no hm
    · have e : s = m := by have := h2.le; omega
      subst e
      obtain ⟨t, ht, hn⟩ := h.no hlt
      exact fun ho => hn (Rp.okE_less ho (by omega))

theorem lnl_mod {xs : List Prc} {d : Array Wr} {E : Nat} (hp : d.toList.Perm (line0 xs)) (hE : ∀ j, j < xs.length → E % (xs.getD j dPrc).pe.toNat = 0) {i : Nat} (hi : i < d.size) : E % Td d i = 0 := by
  obtain ⟨j, hj, e⟩ := line_at hp hi
  unfold Td
  rw [e]
  exact hE j hj

section
variable {o : Oper} {a : Act} {w : World}
theorem er_fIm0 (x : Operand) (ho : o.op = .fieldAddr 26 x 0) (g k : Nat) (hx : a.eval x = .pointer (some ⟨g, k, none⟩)) : (execOp a.eval o).run Tryz.prog w = .ok (.value (.pointer (some ⟨g, k, none⟩))) w := by
  simp only [execOp, ho, hx]; simp [go_sem]
theorem er_fPn5 (x : Operand) (ho : o.op = .fieldAddr 48 x 5) (g k : Nat) (hx : a.eval x = .pointer (some ⟨g, k, none⟩)) : (execOp a.eval o).run Tryz.prog w = .ok (.value (.pointer (some ⟨g, k + 8, none⟩))) w := by
  simp only [execOp, ho, hx]; simp [go_sem]
theorem er_ldPs (x : Operand) (ho : o.op = .load 22 x) (g off : Nat) (v : Value) (hx : a.eval x = .pointer (some ⟨g, off, none⟩)) (hr : w.cell? ⟨g, off, none⟩ = some v) : (execOp a.eval o).run Tryz.prog w = .ok (.value v) w := by
  simp only [execOp, ho, hx]; simp [go_sem, hr]
theorem er_ldPc (x : Operand) (ho : o.op = .load 42 x) (g off : Nat) (v : Value) (hx : a.eval x = .pointer (some ⟨g, off, none⟩)) (hr : w.cell? ⟨g, off, none⟩ = some v) : (execOp a.eval o).run Tryz.prog w = .ok (.value v) w := by
  simp only [execOp, ho, hx]; simp [go_sem, hr]
theorem er_alW (ho : o.op = .alloc 60) : (execOp a.eval o).run Tryz.prog w = .ok (.value (.pointer (some ⟨w.heap.size, 0, none⟩))) (w.alloc (.cells #[.slice none 0 0] 60)) := by
  simp only [execOp, ho, Instr.alloc, newVar]; simp [Value.cells, go_sem]
theorem er_stW (x y : Operand) (ho : o.op = .store 60 x y) (g off : Nat) (u : Value) (ad : Option Addr) (n c : Nat) (hx : a.eval x = .pointer (some ⟨g, off, none⟩)) (hy : a.eval y = .slice ad n c) (hr : w.cell? ⟨g, off, none⟩ = some u) (hf : w.frozen? ⟨g, off, none⟩ = false) : (execOp a.eval o).run Tryz.prog w = .ok .skip (w.setCell ⟨g, off, none⟩ (.slice ad n c)) := by
  simp only [execOp, ho, hx, hy]
  simp [go_sem, hr, hf]
theorem er_c_rline (x0 : Operand) (ts : Array TypeId) (ho : o.op = .call { callee := .value (.func 29), args := #[x0], argTypes := ts }) (v0 : Value) (h0 : a.eval x0 = v0) : (execOp a.eval o).run Tryz.prog w = .ok (.enter 29 #[v0]) w := by
  subst h0
  simp [execOp, ho, go_sem, Act.eval]
theorem er_c_rsrv (x0 : Operand) (ts : Array TypeId) (ho : o.op = .call { callee := .value (.func 27), args := #[x0], argTypes := ts }) (v0 : Value) (h0 : a.eval x0 = v0) : (execOp a.eval o).run Tryz.prog w = .ok (.enter 27 #[v0]) w := by
  subst h0
  simp [execOp, ho, go_sem, Act.eval]
theorem er_c_rdone (x0 x1 : Operand) (ts : Array TypeId) (ho : o.op = .call { callee := .value (.func 33), args := #[x0, x1], argTypes := ts }) (v0 v1 : Value) (h0 : a.eval x0 = v0) (h1 : a.eval x1 = v1) : (execOp a.eval o).run Tryz.prog w = .ok (.enter 33 #[v0, v1]) w := by
  subst h0; subst h1
  simp [execOp, ho, go_sem, Act.eval]
theorem er_c_reach (x0 x1 x2 x3 : Operand) (ts : Array TypeId) (ho : o.op = .call { callee := .value (.func 30), args := #[x0, x1, x2, x3], argTypes := ts }) (v0 v1 v2 v3 : Value) (h0 : a.eval x0 = v0) (h1 : a.eval x1 = v1) (h2 : a.eval x2 = v2) (h3 : a.eval x3 = v3) : (execOp a.eval o).run Tryz.prog w = .ok (.enter 30 #[v0, v1, v2, v3]) w := by
  subst h0; subst h1; subst h2; subst h3
  simp [execOp, ho, go_sem, Act.eval]
theorem er_mf (f : Nat) (x : Operand) (ho : o.op = .makeFunc (.func f) #[] #[x]) (v : Value) (hx : a.eval x = v) : (execOp a.eval o).run Tryz.prog w = .ok (.value (.func (.func f) #[] #[v])) w := by
  subst hx
  have e : (Instr.makeFunc (.func f) #[] #[a.eval x]).run Tryz.prog w = .ok (.func (.func f) #[] #[a.eval x]) w := rfl
  simp only [execOp, ho, List.map_toArray, List.map_cons, List.map_nil]; rw [Sem.run_bind, e]; rfl
theorem er_ldLn (x : Operand) (ho : o.op = .load 60 x) (g off : Nat) (v : Value) (hx : a.eval x = .pointer (some ⟨g, off, none⟩)) (hr : w.cell? ⟨g, off, none⟩ = some v) : (execOp a.eval o).run Tryz.prog w = .ok (.value v) w := by
  simp only [execOp, ho, hx]; simp [go_sem, hr]
end
theorem sizeIm : (Tryz.prog.info? 26).map (·.size) = some 3 := by kernel_rfl

set_option maxHeartbeats 8000000 in
theorem rplay_any {F : Nat → Prop} {a0 : Option Addr} {n0 c0 : Nat} (v1 v2 : Value) (ps : List Pn) (w : World) (hg : Gl w) (h : Ls 21 elPn w F a0 n0 c0 ps) (hF : ∀ k, F k → k < w.heap.size) (h32 : n0 ≤ 70000) (p q : Nat) (hp1 : 1 ≤ p) (hp2 : p ≤ n0) (ht : timF (svs ps) n0 = none) (hq : 2 ≤ q) (hE : hyp (svs ps) * q ≤ 2097152)
    (hT : hasT (ps.getD (p - 1) dPn).procs) (hn64 : (ps.getD (p - 1) dPn).procs.length ≤ 64) (hTE : ∀ j, j < (ps.getD (p - 1) dPn).procs.length → (hyp (svs ps) * q) % ((ps.getD (p - 1) dPn).procs.getD j dPrc).pe.toNat = 0) :
    Calls Tryz.prog 16 #[.agg #[.slice a0 n0 c0, v1, v2], .int .i64 (p : Int), .int .i64 ((hyp (svs ps) * q : Nat) : Int)] w fun e w' => ∃ g s d f, e = .returned (.slice (some ⟨g, 0, none⟩) s (ps.getD (p - 1) dPn).procs.length) ∧ Pyd (occB (Rule.occ (sys (svs ps))) p) (hyp (svs ps) * q) (ps.getD (p - 1) dPn).procs.length (ps.getD (p - 1) dPn).procs w w' g s d f := by
  have hlen := h.len
  have hmax := h.max
  have hcap := h.cap
  have hx : ps[p - 1]? = some (ps.getD (p - 1) dPn) := by rw [List.getD, List.getElem?_eq_getElem (by omega)]; rfl
  have HP : Hid (Ls 21 elPn w F a0 n0 c0 ps) := h
  obtain ⟨b, o, cs, rfl, hb, hl, hr, hPn⟩ := h.at' _ _ hx
  generalize hy : ps.getD (p - 1) dPn = y at *
  obtain ⟨b0, m0, k0, b1, m1, k1, b2, m2, k2, b3, m3, k3, b4, m4, k4, b5, m5, k5, he, _, _, hL, _⟩ := hPn.sl
  have HL : Hid (Ls 6 elPrc w F b2 m2 k2 y.procs) := hL
  have hn2 := hL.len
  have d8 : (w.alloc (.cells #[.slice (some ⟨b, o, none⟩) n0 c0, v1, v2] 26)).cell? ⟨b, o + (p - 1) * 21 + 8, none⟩ = some (.slice b2 m2 k2) := ((Kept.refl No w).alloc _).cell (hr 8 _ (by rw [he]; rfl)) (fun h => h)
  have d0 : (w.alloc (.cells #[.slice (some ⟨b, o, none⟩) n0 c0, v1, v2] 26)).cell? ⟨w.heap.size, 0, none⟩ = some (.slice (some ⟨b, o, none⟩) n0 c0) := by simp
  have d1 : (w.alloc (.cells #[.slice (some ⟨b, o, none⟩) n0 c0, v1, v2] 26)).cell? ⟨w.heap.size, 1, none⟩ = some v1 := by simp
  have d2 : (w.alloc (.cells #[.slice (some ⟨b, o, none⟩) n0 c0, v1, v2] 26)).cell? ⟨w.heap.size, 2, none⟩ = some v2 := by simp
  have KA : Kept No w (w.alloc (.cells #[.slice (some ⟨b, o, none⟩) n0 c0, v1, v2] 26)) := (Kept.refl No w).alloc _
  have hli := lineUp_any F b2 m2 k2 y.procs _ (hL.kept KA (fun _ _ h => h) (elPrc_kept KA (fun _ _ h => h))) (by omega) (fun i hi => by have := hT i (by omega); omega)
  generalize hwb : w.alloc (.cells #[.slice (some ⟨b, o, none⟩) n0 c0, v1, v2] 26) = wb at *
  have hsub : wrap64 ((p : Int) - 1) = ((p - 1 : Nat) : Int) := by rw [← w64i, IntWalk.i64_in _ ⟨by omega, by omega⟩]; omega
  have HKA : Hid (Kept No w wb) := KA
  clear hL he hPn hr hx h
  go_enter Tryz.func16, Tryz.ntmps16
  go_upto_region 1 with fail
  try rw [hwb]
  clear hwb
  refine wp_region_lit ?_
  refine l_take 8 rfl rfl (er_fIm0 _ rfl w.heap.size 0 rfl) ?_
  simp only [Act.put, List.setIfInBounds_toArray, List.set_cons_zero, List.set_cons_succ]
  refine l_take 9 rfl rfl (er_ldPs _ rfl w.heap.size 0 _ rfl d0) ?_
  simp only [Act.put, List.setIfInBounds_toArray, List.set_cons_zero, List.set_cons_succ]
  refine l_take 10 rfl rfl (er_mv _ rfl _ rfl) ?_
  simp only [Act.put, List.setIfInBounds_toArray, List.set_cons_zero, List.set_cons_succ]
  refine l_take 11 rfl rfl (er_sub _ _ rfl p 1 ((p - 1 : Nat) : Int) rfl rfl hsub) ?_
  simp only [Act.put, List.setIfInBounds_toArray, List.set_cons_zero, List.set_cons_succ]
  refine l_take 12 rfl rfl (er_idxPn _ _ rfl b o n0 c0 (p - 1) (by omega) (by omega) rfl rfl) ?_
  simp only [Act.put, List.setIfInBounds_toArray, List.set_cons_zero, List.set_cons_succ]
  refine l_take 13 rfl rfl (er_fPn5 _ rfl b (o + (p - 1) * 21) rfl) ?_
  simp only [Act.put, List.setIfInBounds_toArray, List.set_cons_zero, List.set_cons_succ]
  refine l_take 14 rfl rfl (er_ldPc _ rfl b (o + (p - 1) * 21 + 8) _ rfl d8) ?_
  simp only [Act.put, List.setIfInBounds_toArray, List.set_cons_zero, List.set_cons_succ]
  refine l_call 15 (f := 29) (args := #[.slice b2 m2 k2]) rfl rfl (er_c_rline (.tmp 14) _ rfl (.slice b2 m2 k2) rfl) hli ?_
  rintro e w1 ⟨g, d, rfl, hg1, hd, hpm, hsr, hln, hk1⟩
  refine ⟨_, rfl, ?_⟩
  simp only [Act.put, List.setIfInBounds_toArray, List.set_cons_zero, List.set_cons_succ]
  have hgl := hln.lt
  have kw1 := HKA.out.trans hk1 (fun _ h => h.elim)
  have hgw : w.heap.size ≤ g := Nat.le_trans HKA.out.size hg1
  have hb2 : ((w1.alloc (.cells #[.slice none 0 0] 60)).setCell ⟨w1.heap.size, 0, none⟩ (.slice (some ⟨g, 0, none⟩) m2 m2)).heap[w1.heap.size]? = some (.cells #[.slice (some ⟨g, 0, none⟩) m2 m2] 60) := by
    have := set_blkG (alloc_newG w1 (.cells #[.slice none 0 0] 60)) 0 (.slice (some ⟨g, 0, none⟩) m2 m2)
    simpa using this
  have ks : Kept No w1 ((w1.alloc (.cells #[.slice none 0 0] 60)).setCell ⟨w1.heap.size, 0, none⟩ (.slice (some ⟨g, 0, none⟩) m2 m2)) := ((Kept.refl No w1).alloc _).setCell (p := ⟨w1.heap.size, 0, none⟩) (.inr (Nat.le_refl _)) _
  have fz0 : (w1.alloc (.cells #[.slice none 0 0] 60)).frozen? ⟨w1.heap.size, 0, none⟩ = false := by
    have := alloc_newG w1 (.cells #[.slice none 0 0] 60)
    simp only [World.frozen?, this]
    rfl
  refine l_make 7 rfl rfl (er_alW rfl) ?_
  simp only [Act.put, List.setIfInBounds_toArray, List.set_cons_zero, List.set_cons_succ]
  refine l_turn rfl rfl (er_stW _ _ rfl w1.heap.size 0 (.slice none 0 0) (some ⟨g, 0, none⟩) m2 m2 rfl rfl (by simp) fz0) ?_
  generalize (w1.alloc (.cells #[.slice none 0 0] 60)).setCell ⟨w1.heap.size, 0, none⟩ (.slice (some ⟨g, 0, none⟩) m2 m2) = ws at *
  have kws := kw1.trans ks (fun _ h => h.elim)
  have kbs := hk1.trans ks (fun _ h => h.elim)
  have hlw : g ≠ w1.heap.size := by omega
  have hlns : Ln ws g m2 (fun i => d[i]!) := hln.kept ks (fun h => h)
  have s0 : ws.rangeAt w.heap.size 0 [.slice (some ⟨b, o, none⟩) n0 c0, v1, v2] := fun j v hv => by
    match j, hv with
    | 0, hv => injection hv with hv; subst hv; exact kbs.cell d0 (fun h => h)
    | 1, hv => injection hv with hv; subst hv; exact kbs.cell d1 (fun h => h)
    | 2, hv => injection hv with hv; subst hv; exact kbs.cell d2 (fun h => h)
  have HLD : (Instr.loadAt 26 (.pointer (some ⟨w.heap.size, 0, none⟩))).run Tryz.prog ws = .ok (.agg #[.slice (some ⟨b, o, none⟩) n0 c0, v1, v2]) ws := run_loadAt_mid ws w.heap.size 0 _ _ _ s0 Tryz.underlying26 rfl sizeIm
  have hps : Ls 21 elPn ws F (some ⟨b, o, none⟩) n0 c0 ps := HP.out.kept kws (fun _ _ h => h) (elPn_kept kws (fun _ _ h => h))
  have csv := serversOf_any F (some ⟨b, o, none⟩) n0 c0 v1 v2 ps ws hps h32
  have HS : Hid (Ln ws g m2 (fun i => d[i]!) ∧ ws.heap[w1.heap.size]? = some (.cells #[.slice (some ⟨g, 0, none⟩) m2 m2] 60) ∧ Kept No w ws ∧ w1.heap.size < ws.heap.size) := ⟨hlns, hb2, kws, heap_lt hb2⟩
  clear hb2 ks hli hln hk1 kw1 kws kbs hlns s0 fz0
  go_upto_region 2 with fail
  refine wp_region_lit ?_
  refine l_take 16 rfl rfl (er_ld _ _ rfl _ _ rfl HLD) ?_
  simp only [Act.put, List.setIfInBounds_toArray, List.set_cons_zero, List.set_cons_succ]
  refine l_call 17 (f := 27) (args := #[.agg #[.slice (some ⟨b, o, none⟩) n0 c0, v1, v2]]) rfl rfl (er_c_rsrv (.tmp 16) _ rfl _ rfl) csv ?_
  rintro e w3 ⟨v, rfl, hown, hk3⟩
  refine ⟨_, rfl, ?_⟩
  simp only [Act.put, List.setIfInBounds_toArray, List.set_cons_zero, List.set_cons_succ]
  have hsl : (svs ps).length = n0 := by rw [svs_len, hlen]
  obtain ⟨sa, sc, rfl, hsv⟩ := own_sv hown hsl (fun i hi => svs_ok hps i hi)
  refine l_take 18 rfl rfl (er_mv _ rfl _ rfl) ?_
  simp only [Act.put, List.setIfInBounds_toArray, List.set_cons_zero, List.set_cons_succ]
  refine l_take 19 rfl rfl (er_mv _ rfl _ rfl) ?_
  simp only [Act.put, List.setIfInBounds_toArray, List.set_cons_zero, List.set_cons_succ]
  refine l_take 20 rfl rfl (er_mf _ _ rfl (.pointer (some ⟨w1.heap.size, 0, none⟩)) rfl) ?_
  simp only [Act.put, List.setIfInBounds_toArray, List.set_cons_zero, List.set_cons_succ]
  have hb3 : w3.heap[w1.heap.size]? = some (.cells #[.slice (some ⟨g, 0, none⟩) m2 m2] 60) := hk3.at' HS.out.2.1 (fun h => h)
  have hln3 : Ln w3 g m2 (fun i => d[i]!) := HS.out.1.kept hk3 (fun h => h)
  have kw3 : Kept No w w3 := HS.out.2.2.1.trans hk3 (fun _ h => h.elim)
  have gl3 : Gl w3 := hg.kept kw3
  have hglt := hg.lt
  have hP := pls_start (occB (Rule.occ (sys (svs ps))) p) (hyp (svs ps) * q) g m2 w1.heap.size w3 hT hpm hd hln3 hb3
  have hdis : ∀ i, (Value.slice sa n0 sc).ownBlock = some i → ¬ Bx g w1.heap.size i := fun i hi hB => by
    have h1 := (hown.lt i hi).1
    have h2 := HS.out.2.2.2
    rcases hB with h3 | h3 <;> omega
  have h00 : ¬ Bx g w1.heap.size 0 := fun hB => by rcases hB with h3 | h3 <;> omega
  have hsv2 : Sv w3 (fun i => (Value.slice sa n0 sc).ownBlock = some i) sa (svs ps).length sc (svs ps) := by rw [hsl]; exact hsv
  have ht2 : timF (svs ps) (svs ps).length = none := by rw [hsl]; exact ht
  have hO := ocS_of w3 gl3 hsv2 (fun k hk => (hown.lt k hk).2) ht2 hdis h00
  have hH := hyS_of w3 gl3 hsv2 ht2 hdis h00
  have hv := vd_of ht2
  rw [hsl] at hO hH
  have cE := eachSlot_any (Rule.occ (sys (svs ps))) p (hyp (svs ps)) q (Td d) (Cd d) m2 (fun i => d[i]!) w3 w3 hP (Nat.le_refl _) hH hO (per_of ht2) hv.hyp1 hv.hyp2 hq hE (by omega) (Nat.le_refl _) (Nat.le_refl _) (by omega) (fun i => (td_le hpm hT i).1) (fun i => (td_le hpm hT i).2)
  refine l_call 21 (f := 30) (args := #[.slice sa n0 sc, .int .i64 (p : Int), .int .i64 ((hyp (svs ps) * q : Nat) : Int), .func (.func 31) #[] #[.pointer (some ⟨w1.heap.size, 0, none⟩)]]) rfl rfl (er_c_reach (.tmp 17) (.tmp 18) (.tmp 19) (.tmp 20) _ rfl _ _ _ _ rfl rfl rfl rfl) cE ?_
  rintro e w4 ⟨rfl, ⟨m', f', hP4⟩, hk4⟩
  refine ⟨_, rfl, ?_⟩
  simp only [Act.put, List.setIfInBounds_toArray, List.set_cons_zero, List.set_cons_succ]
  have H4 : Hid (Pls (occB (Rule.occ (sys (svs ps))) p) (Td d) (Cd d) (hyp (svs ps) * q) (hyp (svs ps) * q) g m2 w1.heap.size m2 m2 (fun i => d[i]!) w3 w4 m' f' ∧ Kept No w w4) := ⟨hP4, kw3.trans hk4 (fun i hi => .inr (by rcases hi with h3 | h3 <;> omega))⟩
  have c4 : w4.cell? ⟨w1.heap.size, 0, none⟩ = some (.slice (some ⟨g, 0, none⟩) m' m2) := by simp [World.cell?, hP4.bx']
  have hle4 := hP4.le
  have hEp : 0 < hyp (svs ps) * q := Nat.mul_pos hv.hyp1 (by omega)
  have hs2 : d.size = m2 := hd
  have cD := doneBy_any (occB (Rule.occ (sys (svs ps))) p) (Td d) (Cd d) (hyp (svs ps) * q) m' w4 hP4.ln hP4.lj (fun j hj => hP4.rl j hj) hle4 hle4 (by omega) hEp (by omega) (fun i => (td_le hpm hT i).1) (fun i hi => lnl_mod hpm hTE (by omega))
  clear hP4 hk4 cE hO hH hP hsv2 ht2 hdis h00 hown hk3 hb3 hln3 kw3 gl3 hsv
  generalize hEe : hyp (svs ps) * q = E at *
  go_upto_region 3 with fail
  refine wp_region_lit ?_
  refine l_take 22 rfl rfl (er_ldLn _ rfl w1.heap.size 0 _ rfl c4) ?_
  simp only [Act.put, List.setIfInBounds_toArray, List.set_cons_zero, List.set_cons_succ]
  refine l_take 23 rfl rfl (er_mv _ rfl _ rfl) ?_
  simp only [Act.put, List.setIfInBounds_toArray, List.set_cons_zero, List.set_cons_succ]
  refine l_call 24 (f := 33) (args := #[.slice (some ⟨g, 0, none⟩) m' m2, .int .i64 (E : Int)]) rfl rfl (er_c_rdone (.tmp 22) (.tmp 23) _ rfl _ _ rfl rfl) cD ?_
  rintro e w5 ⟨s, f5, rfl, hD⟩
  refine ⟨_, rfl, ?_⟩
  simp only [Act.put, List.setIfInBounds_toArray, List.set_cons_zero, List.set_cons_succ]
  have H5 : Hid (Pyd (occB (Rule.occ (sys (svs ps))) p) E m2 y.procs w w5 g s d f5) := plays_out hd hpm hsr hgw H4.out.1 hD (H4.out.2.trans hD.kp (fun i hi => .inr (by have hi' : i = g := hi; omega)))
  clear hD cD
  go_wp2
  go_ret
  rw [hn2]
  subst hEe
  exact ⟨g, s, d, f5, rfl, H5.out⟩
end Go.Proofs.YtnmhcnppdhdhfaaGreatDoor
