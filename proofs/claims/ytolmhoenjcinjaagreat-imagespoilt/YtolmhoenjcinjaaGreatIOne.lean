/-
  'ImageOneForm'.
-/
import Derived.Test.YtolmhoenjcinjaaGreatIKnown
import Derived.Deep.DeepCutAuto
namespace Go.Proofs.YtolmhoenjcinjaaGreat
open Go.RowKit
set_option linter.unusedVariables false
set_option maxRecDepth 100000

set_option maxHeartbeats 4000000 in
theorem same_nil (w : World) : Calls Tryz.prog 12 #[.agg #[.slice none 0 0, .slice none 0 0, .slice none 0 0], .agg #[.slice none 0 0, .slice none 0 0, .slice none 0 0]] w fun ex w' => ex = .returned (.bool true) ∧ Kept No w w' := by
  have hk : Kept No w ((w.alloc (.cells #[.slice none 0 0, .slice none 0 0, .slice none 0 0] 26)).alloc (.cells #[.slice none 0 0, .slice none 0 0, .slice none 0 0] 26)) := ((Kept.refl No w).alloc _).alloc _
  have b2 : Bk ((w.alloc (.cells #[.slice none 0 0, .slice none 0 0, .slice none 0 0] 26)).alloc (.cells #[.slice none 0 0, .slice none 0 0, .slice none 0 0] 26)) w.heap.size [.slice none 0 0, .slice none 0 0, .slice none 0 0] 26 := by show _ = _; rw [heap_alloc_old _ _ (by simp)]; exact heap_alloc_new w _
  have b3 : Bk ((w.alloc (.cells #[.slice none 0 0, .slice none 0 0, .slice none 0 0] 26)).alloc (.cells #[.slice none 0 0, .slice none 0 0, .slice none 0 0] 26)) (w.heap.size + 1) [.slice none 0 0, .slice none 0 0, .slice none 0 0] 26 := heap_alloc2_new w _ _
  have HK : Hid (Kept No w ((w.alloc (.cells #[.slice none 0 0, .slice none 0 0, .slice none 0 0] 26)).alloc (.cells #[.slice none 0 0, .slice none 0 0, .slice none 0 0] 26))) := hk
  have H2 : Hid (Bk ((w.alloc (.cells #[.slice none 0 0, .slice none 0 0, .slice none 0 0] 26)).alloc (.cells #[.slice none 0 0, .slice none 0 0, .slice none 0 0] 26)) w.heap.size [.slice none 0 0, .slice none 0 0, .slice none 0 0] 26) := b2
  have H3 : Hid (Bk ((w.alloc (.cells #[.slice none 0 0, .slice none 0 0, .slice none 0 0] 26)).alloc (.cells #[.slice none 0 0, .slice none 0 0, .slice none 0 0] 26)) (w.heap.size + 1) [.slice none 0 0, .slice none 0 0, .slice none 0 0] 26) := b3
  clear hk b2 b3
  go_enter Tryz.func12, Tryz.ntmps12
  go_upto_region 1 with fail
  generalize (w.alloc (.cells #[.slice none 0 0, .slice none 0 0, .slice none 0 0] 26)).alloc (.cells #[.slice none 0 0, .slice none 0 0, .slice none 0 0] 26) = w0 at *
  have y0 := H2.out.cell (j := 0) rfl
  have y1 := H2.out.cell (j := 1) rfl
  have y2 := H2.out.cell (j := 2) rfl
  have z0 := H3.out.cell (j := 0) rfl
  have z1 := H3.out.cell (j := 1) rfl
  have z2 := H3.out.cell (j := 2) rfl
  go_wp2
  go_loopw [5] (fun i wr => i = .int .i64 0 ∧ wr = w0) (fun _ _ => 0)
  case atStart => exact ⟨rfl, rfl⟩
  case round =>
    obtain ⟨rfl, rfl⟩ := hrel
    go_wp2
    go_loopw [6] (fun i wq => i = .int .i64 0 ∧ wq = wr) (fun _ _ => 0)
    case atStart => exact ⟨rfl, rfl⟩
    case round =>
      obtain ⟨rfl, hwq⟩ := hrel
      obtain rfl := hwq.symm
      go_wp2
      go_loopw [7] (fun i wp => i = .int .i64 0 ∧ wp = wr) (fun _ _ => 0)
      case atStart => exact ⟨rfl, rfl⟩
      case round =>
        obtain ⟨rfl, hwp⟩ := hrel
        obtain rfl := hwp.symm
        go_wp2
        go_ret
        exact ⟨rfl, HK.out⟩

theorem dans_two {w0 w1 : World} {bs : List Nat} {ex : Ending} (h : Dans w0 bs ex w1) : ∃ (a0 : Option Addr) (n0 c0 : Nat) (a1 : Option Addr) (n1 c1 : Nat) (a2 : Option Addr) (n2 c2 : Nat) (e : Int), ex = .returned (.tuple #[.agg #[.slice a0 n0 c0, .slice a1 n1 c1, .slice a2 n2 c2], .int .i64 e]) ∧
    Hid (Kept No w0 w1 ∧ ((imgOf bs = none ∧ e = rdErr bs ∧ a0 = none ∧ n0 = 0 ∧ c0 = 0 ∧ a1 = none ∧ n1 = 0 ∧ c1 = 0 ∧ a2 = none ∧ n2 = 0 ∧ c2 = 0) ∨ ∃ x, imgOf bs = some x ∧ e = 0 ∧ OwPn w1 w0.heap.size (.slice a0 n0 c0) x.parts ∧ OwPo w1 w0.heap.size (.slice a1 n1 c1) x.ports ∧ OwCh w1 w0.heap.size (.slice a2 n2 c2) x.chans)) := by
  rcases h with ⟨hk, ⟨h1, rfl⟩ | ⟨x, a0, n0, c0, a1, n1, c1, a2, n2, c2, h1, rfl, h2, h3, h4⟩⟩
  · exact ⟨_, _, _, _, _, _, _, _, _, _, rfl, hk, .inl ⟨h1, rfl, rfl, rfl, rfl, rfl, rfl, rfl, rfl, rfl, rfl⟩⟩
  · exact ⟨_, _, _, _, _, _, _, _, _, _, rfl, hk, .inr ⟨x, h1, rfl, h2, h3, h4⟩⟩
/-- what the law asks of a refusal -/
theorem err_fit (bs : List Nat) (n : Nat) (hl : bs.length = n) : (rdErr bs = 20 ∧ (n : Int) ≤ 1048576) ∨ (rdErr bs = 1 ∧ ¬ ((n : Int) ≤ 1048576)) := by
  unfold rdErr
  by_cases h : 1048576 < bs.length
  · right; rw [if_pos h]; exact ⟨rfl, by omega⟩
  · left; rw [if_neg h]; exact ⟨rfl, by omega⟩

/-- 'append([]byte{}, b...)' -/
theorem wpList_copy {w : World} {ops : Array Oper} {rest : List Oper} {o : Oper} {a : Act} {Q : Exit → Act → World → Prop} (hgd : o.guard = none) (s x : Operand)
    (ho : o.op = .call { callee := .builtin .append, args := #[s, x], argTypes := #[27, 27] }) (B : Nat) (v : Value) (hs : a.eval s = v) (hv : w.ownsRow B 5 1 v 0 []) (hB : B ≤ w.heap.size) (xa : Option Addr) (n c : Nat) (hx : a.eval x = .slice xa n c)
    (F : Nat → Prop) (xs : List Nat) (hz : Bs w F xa n c xs) (hn : n ≤ 140737488355328)
    (h : ∀ ya yc w', Hid (w'.ownsRow B 5 1 (.slice ya n yc) n (xs.map bv)) → Hid (Kept (fun k => v.ownBlock = some k) w w') → wpList Tryz.prog ops Q rest (a.put o.dst (.slice ya n yc)) w') : wpList Tryz.prog ops Q (o :: rest) a w := by
  obtain ⟨i0, hi, hz0, hz1, hz2⟩ := info_parts Tryz.info5
  cases xa with
  | none =>
    have hc0 := hz.nil rfl
    have hn0 : n = 0 := by have := hz.cap; omega
    have hx0 : xs = [] := List.eq_nil_of_length_eq_zero (by rw [hz.len]; exact hn0)
    subst hc0 hn0 hx0
    obtain ⟨va, vn, vc, rfl⟩ := own_slice hv
    have hvn : vn = 0 := by
      rcases owns_cells hv with ⟨h1, _⟩ | ⟨g, cap, h1, _⟩
      · injection h1
      · injection h1
    subst hvn
    refine wpList_append_own_none hgd s x 27 ho B 5 i0 1 Tryz.underlying27 hi _ _ _ hs hv hx ?_
    exact h va vc w hv (Kept.refl _ _)
  | some ad =>
    refine wpList_append_own _ hgd s x 27 ho B 5 i0 (.int .u8 0) 1 1 Tryz.underlying27 hi hz0 hz1 hz2 rfl (by decide) _ 0 [] hs hv ad n c (xs.map bv) hx (by rw [List.length_map, hz.len]; omega) hz.news (bv_one _) (by unfold maxLen; omega) (by omega) hB ?_
    intro v1 w1 own1 grow1 _
    rw [Nat.zero_add, List.nil_append] at own1
    obtain ⟨ya, yn, yc, rfl⟩ := own_slice own1
    have hyn : yn = n := by
      rcases owns_cells own1 with ⟨h1, h2⟩ | ⟨g, cap, h1, _⟩
      · injection h1 with _ h3 _; omega
      · injection h1
    subst hyn
    exact h ya yc w1 own1 ((Kept.refl (fun k => v.ownBlock = some k) w).grown grow1 (fun k e => .inl e))
theorem own0 {b k n c : Nat} (h : (Value.slice (some ⟨b, 0, none⟩) n c).ownBlock = some k) : b ≤ k := by
  injection h with h; exact Nat.le_of_eq h
theorem made0 (w : World) : (w.alloc (.cells #[] 5)).ownsRow w.heap.size 5 1 (.slice (some ⟨w.heap.size, 0, none⟩) 0 0) 0 [] := World.ownsRow_made w #[] 0 (Nat.le_refl _) (by unfold maxLen; omega) rfl
theorem Bs.row {w : World} {B n : Nat} {a : Option Addr} {c : Nat} {xs : List Nat} (h : w.ownsRow B 5 1 (.slice a n c) n (xs.map bv)) (hl : xs.length = n) (hb : ∀ x ∈ xs, x < 256) : Bs w (fun k => (Value.slice a n c).ownBlock = some k) a n c xs := by
  subst hl
  obtain ⟨a', c', hv, hz⟩ := Bs.of_owns h hb
  injection hv with q1 q2 q3
  subst q1 q3
  exact hz

set_option maxHeartbeats 16000000 in
theorem oneForm_walk (G : Nat → Prop) (a : Option Addr) (n c : Nat) (bs : List Nat) (W : World) (hB : Bs W G a n c bs) (hn : n ≤ 140737488351232) :
    Calls Tryz.prog 4 #[.slice a n c] W fun ex w' => ex = .returned (.bool true) ∧ Below W.heap.size W w' := by
  have hl := hB.len
  have HL : Hid (bs.length = n) := hl
  have HB : Hid (Bs W G a n c bs) := hB
  have HLT : Hid (∀ b ∈ bs, b < 256) := hB.lt
  have hcap := hB.cap
  have hmax := hB.max
  have hfit := err_fit bs n hl
  have HFIT : Hid ((rdErr bs = 20 ∧ (n : Int) ≤ 1048576) ∨ (rdErr bs = 1 ∧ ¬ ((n : Int) ≤ 1048576))) := hfit
  clear hB hl hfit
  go_enter Tryz.func4, Tryz.ntmps4
  go_upto_region 2 with (first
    | (at_builtin; refine wpList_copy rfl _ _ rfl W.heap.size _ rfl (made0 W) (by simp) a n c rfl G bs (HB.out.kept ((Kept.refl No W).alloc _) (fun _ _ h => h)) (by omega) ?_; intro ya yc w1 own1 k1; have HK1 : Hid (Kept No W w1) := ((Kept.refl No W).alloc _).trans k1.out (fun k hk => .inr (own0 hk)); have cd := decode_img _ ya n yc bs w1 (Bs.row own1.out HL.out HLT.out); clear k1)
    | (go_at_call 11; refine cd.mono ?_; intro ex w2 hd; obtain ⟨b0, m0, d0, b1, m1, d1, b2, m2, d2, e, rfl, HD⟩ := dans_two hd; clear hd))
  have HKD : Hid (Kept No w1 w2) := HD.out.1
  have HK3 : Hid (Kept No w2 (w2.alloc (.cells #[.slice b0 m0 d0, .slice b1 m1 d1, .slice b2 m2 d2] 26))) := (Kept.refl No w2).alloc _
  have HBX : Hid (Bk (w2.alloc (.cells #[.slice b0 m0 d0, .slice b1 m1 d1, .slice b2 m2 d2] 26)) w2.heap.size [.slice b0 m0 d0, .slice b1 m1 d1, .slice b2 m2 d2] 26) := heap_alloc_new w2 _
  clear cd own1
  generalize hW3 : (w2.alloc (.cells #[.slice b0 m0 d0, .slice b1 m1 d1, .slice b2 m2 d2] 26)) = w3 at *
  have HKW : Hid (Kept No W w3) := (HK1.out.trans HKD.out (fun _ h => h.elim)).trans HK3.out (fun _ h => h.elim)
  rcases HD.out.2 with ⟨hno, he, r0, r1, r2, r3, r4, r5, r6, r7, r8⟩ | ⟨x, hx, he, o1, o2, o3⟩
  · -- refused
    subst r0 r1 r2 r3 r4 r5 r6 r7 r8
    have cK := known_any w3
    have FIN : ∀ w5 : World, Kept No w3 w5 → Below W.heap.size W w5 := fun w5 h => (HKW.out.trans h (fun _ h => h.elim)).below0
    have HFN : Hid (∀ w5 : World, Kept No w3 w5 → Below W.heap.size W w5) := FIN
    clear hno HD HKD HK3 HK1 FIN hW3
    rcases HFIT.out with ⟨f1, f2⟩ | ⟨f1, f2⟩
    · rw [f1] at he
      subst he
      clear f1
      go_wp2_with (first
        | (go_at_call 10; refine cK.mono ?_; rintro ex w4 ⟨rfl, hk4⟩; have HK4 : Hid (Kept No w3 w4) := hk4; have y0 := (HBX.out.kept hk4 (fun h => h)).cell (j := 0) rfl; have y1 := (HBX.out.kept hk4 (fun h => h)).cell (j := 1) rfl; have y2 := (HBX.out.kept hk4 (fun h => h)).cell (j := 2) rfl; have cS := same_nil w4; clear hk4)
        | (go_at_call 12; refine cS.mono ?_; rintro ex w5 ⟨rfl, hk5⟩; have HK5 : Hid (Kept No w4 w5) := hk5; clear hk5))
      go_ret
      exact ⟨rfl, HFN.out w5 (HK4.out.trans HK5.out (fun _ h => h.elim))⟩
    · rw [f1] at he
      subst he
      clear f1
      have f3 : decide ((n : Int) ≤ 1048576) = false := by simpa using f2
      go_wp2_with (first
        | (go_at_call 10; refine cK.mono ?_; rintro ex w4 ⟨rfl, hk4⟩; have HK4 : Hid (Kept No w3 w4) := hk4; have y0 := (HBX.out.kept hk4 (fun h => h)).cell (j := 0) rfl; have y1 := (HBX.out.kept hk4 (fun h => h)).cell (j := 1) rfl; have y2 := (HBX.out.kept hk4 (fun h => h)).cell (j := 2) rfl; have cS := same_nil w4; clear hk4)
        | (go_at_call 12; refine cS.mono ?_; rintro ex w5 ⟨rfl, hk5⟩; have HK5 : Hid (Kept No w4 w5) := hk5; clear hk5))
      go_ret
      exact ⟨rfl, HFN.out w5 (HK4.out.trans HK5.out (fun _ h => h.elim))⟩
  · -- read
    subst he
    obtain ⟨hbs, hok, hlen⟩ := imgOf_some HLT.out hx
    have henc : encOk x = true := by
      unfold encOk
      rw [hbs, sealed_length] at hlen
      exact decide_eq_true hlen
    have eX : encX x = bs := by unfold encX; rw [henc, hbs]; rfl
    have eE : encE x = 0 := by unfold encE; rw [henc]; rfl
    have himg := img_of (o1.kept HK3.out (fun _ _ h => h)) (o2.kept HK3.out (fun _ _ h => h)) (o3.kept HK3.out (fun _ _ h => h))
    have ce := encode_img _ b0 m0 d0 b1 m1 d1 b2 m2 d2 x w3 himg (fun k hk => hk.2)
    rw [eX, eE, HL.out] at ce
    have y0 := HBX.out.cell (j := 0) rfl
    have y1 := HBX.out.cell (j := 1) rfl
    have y2 := HBX.out.cell (j := 2) rfl
    clear hx o1 o2 o3 hbs hok hlen henc eX eE himg HD HKD HK3 HK1 hW3
    go_upto_region 5 with (go_at_call 8; refine ce.mono ?_; rintro ex w4 ⟨ca, cn, cc, rfl, hown, hk4⟩)
    have hcn : cn = n := by
      rcases owns_cells hown with ⟨h1, h2⟩ | ⟨g, cap, h1, _⟩
      · injection h1 with _ h3 _; omega
      · injection h1
    subst hcn
    have HOC : Hid (w4.ownsRow w3.heap.size 5 1 (.slice ca cn cc) cn (bs.map bv) ∧ Kept No w3 w4) := ⟨hown, hk4⟩
    have cK := known_any w4
    clear ce hown hk4 y0 y1 y2
    go_wp2_with (first
      | (go_at_call 10; refine cK.mono ?_; rintro ex w5 ⟨rfl, hk5⟩; have HK5 : Hid (Kept No w4 w5) := hk5; have cS := same_any _ _ ca a cn cn cc c bs bs w5 (Bs.row (hk5.owns HOC.out.1 (fun _ _ h => h)) HL.out HLT.out) (HB.out.kept ((HKW.out.trans HOC.out.2 (fun _ h => h.elim)).trans hk5 (fun _ h => h.elim)) (fun _ _ h => h)); rw [decide_eq_true rfl] at cS; clear hk5)
      | (go_at_call 13; refine cS.mono ?_; rintro ex w6 ⟨rfl, kd, rfl⟩))
    go_ret
    exact ⟨rfl, (((HKW.out.trans HOC.out.2 (fun _ h => h.elim)).trans HK5.out (fun _ h => h.elim)).drewN kd).below0⟩

end Go.Proofs.YtolmhoenjcinjaaGreat
