/-
  ScriptThere: the law's walk.
-/
import Derived.Test.YtfdcmhbpnadcpabDoorEDec
import Derived.Test.YtfdcmhbpnadcpabDoorIKnw
namespace Go.Proofs.YtfdcmhbpnadcpabDoor
open Go.RowKit
set_option linter.unusedVariables false
set_option linter.unusedSimpArgs false
set_option maxRecDepth 100000

/-- 'append([]byte{}, b...)' -/
theorem wpList_copy {w : World} {ops : Array Oper} {rest : List Oper} {o : Oper} {a : Act} {Q : Exit → Act → World → Prop} (hgd : o.guard = none) (s x : Operand)
    (ho : o.op = .call { callee := .builtin .append, args := #[s, x], argTypes := #[22, 22] }) (B : Nat) (v : Value) (hs : a.eval s = v) (hv : w.ownsRow B 5 1 v 0 []) (hB : B ≤ w.heap.size) (xa : Option Addr) (n c : Nat) (hx : a.eval x = .slice xa n c)
    (F : Nat → Prop) (xs : List Nat) (hz : Bs w F xa n c xs) (hn : n ≤ 140737488355328)
    (h : ∀ ya yc w', Hid (w'.ownsRow B 5 1 (.slice ya n yc) n (xs.map bv)) → Hid (Kept (fun k => v.ownBlock = some k) w w') → wpList Tryd.prog ops Q rest (a.put o.dst (.slice ya n yc)) w') : wpList Tryd.prog ops Q (o :: rest) a w := by
  obtain ⟨i0, hi, hz0, hz1, hz2⟩ := info_parts Tryd.info5
  cases xa with
  | none =>
    have hc0 := hz.nil rfl
    have hn0 : n = 0 := by have := hz.cap; omega
    have hx0 : xs = [] := List.eq_nil_of_length_eq_zero (by rw [hz.len]; exact hn0)
    subst hc0 hn0 hx0
    obtain ⟨va, vn, vc, rfl⟩ := own_slice hv
    have hvn : vn = 0 := by
      rcases owns_cells hv with ⟨h1, _⟩ | ⟨g, cap, h1, _⟩
      · injection h1
      · injection h1
    subst hvn
    refine wpList_append_own_none hgd s x 22 ho B 5 i0 1 Tryd.underlying22 hi _ _ _ hs hv hx ?_
    exact h va vc w hv (Kept.refl _ _)
  | some ad =>
    refine wpList_append_own _ hgd s x 22 ho B 5 i0 (.int .u8 0) 1 1 Tryd.underlying22 hi hz0 hz1 hz2 rfl (by decide) _ 0 [] hs hv ad n c (xs.map bv) hx (by rw [List.length_map, hz.len]; omega) hz.news (bv_one _) (by unfold maxLen; omega) (by omega) hB ?_
    intro v1 w1 own1 grow1 _
    rw [Nat.zero_add, List.nil_append] at own1
    obtain ⟨ya, yn, yc, rfl⟩ := own_slice own1
    have hyn : yn = n := by
      rcases owns_cells own1 with ⟨h1, h2⟩ | ⟨g, cap, h1, _⟩
      · injection h1 with _ h3 _; omega
      · injection h1
    subst hyn
    exact h ya yc w1 own1 ((Kept.refl (fun k => v.ownBlock = some k) w).grown grow1 (fun k e => .inl e))
theorem own0 {b k n c : Nat} (h : (Value.slice (some ⟨b, 0, none⟩) n c).ownBlock = some k) : b ≤ k := by
  injection h with h; exact Nat.le_of_eq h
theorem made0 (w : World) : (w.alloc (.cells #[] 5)).ownsRow w.heap.size 5 1 (.slice (some ⟨w.heap.size, 0, none⟩) 0 0) 0 [] := World.ownsRow_made w #[] 0 (Nat.le_refl _) (by unfold maxLen; omega) rfl
theorem Bs.row {w : World} {B n : Nat} {a : Option Addr} {c : Nat} {xs : List Nat} (h : w.ownsRow B 5 1 (.slice a n c) n (xs.map bv)) (hl : xs.length = n) (hb : ∀ x ∈ xs, x < 256) : Bs w (fun k => (Value.slice a n c).ownBlock = some k) a n c xs := by
  subst hl
  obtain ⟨a', c', hv, hz⟩ := Bs.of_owns h hb
  injection hv with q1 q2 q3
  subst q1 q3
  exact hz

section
variable {w : World} {a : Act} {o : Oper}
theorem er_mul8 (x : Operand) (ho : o.op = .binOp .mul 3 (.const (.int .i64 8)) x 3) (n : Nat) (hx : a.eval x = .int .i64 (n : Int)) (hn : n ≤ 1000000000000) : (execOp a.eval o).run Tryd.prog w = .ok (.value (.int .i64 ((8 * n : Nat) : Int))) w := by
  have hw : IntKind.i64.wrap (8 * (n : Int)) = ((8 * n : Nat) : Int) := by
    rw [IntWalk.i64_left]
    unfold wrap64
    omega
  simp only [execOp, ho, hx]; simp [go_sem, Act.eval, hw]
theorem er_add28 (x : Operand) (ho : o.op = .binOp .add 3 x (.const (.int .i64 28)) 3) (n : Nat) (hx : a.eval x = .int .i64 (n : Int)) (hn : n ≤ 100000000000000) : (execOp a.eval o).run Tryd.prog w = .ok (.value (.int .i64 ((n + 28 : Nat) : Int))) w := by
  have hw : IntKind.i64.wrap ((n : Int) + 28) = ((n + 28 : Nat) : Int) := by
    rw [IntWalk.i64_left]
    unfold wrap64
    omega
  simp only [execOp, ho, hx]; simp [go_sem, Act.eval, hw]
theorem er_add12 (x : Operand) (ho : o.op = .binOp .add 3 x (.const (.int .i64 12)) 3) (n : Nat) (hx : a.eval x = .int .i64 (n : Int)) (hn : n ≤ 100000000000000) : (execOp a.eval o).run Tryd.prog w = .ok (.value (.int .i64 ((n + 12 : Nat) : Int))) w := by
  have hw : IntKind.i64.wrap ((n : Int) + 12) = ((n + 12 : Nat) : Int) := by
    rw [IntWalk.i64_left]
    unfold wrap64
    omega
  simp only [execOp, ho, hx]; simp [go_sem, Act.eval, hw]
theorem er_addNN (x y : Operand) (ho : o.op = .binOp .add 3 x y 3) (n m : Nat) (hx : a.eval x = .int .i64 (n : Int)) (hy : a.eval y = .int .i64 (m : Int)) (hn : n + m ≤ 100000000000000) : (execOp a.eval o).run Tryd.prog w = .ok (.value (.int .i64 ((n + m : Nat) : Int))) w := by
  have hw : IntKind.i64.wrap ((n : Int) + (m : Int)) = ((n + m : Nat) : Int) := by
    rw [IntWalk.i64_left]
    unfold wrap64
    omega
  simp only [execOp, ho, hx, hy]; simp [go_sem, Act.eval, hw]
end
theorem row_len {w : World} {B t s n m c : Nat} {a : Option Addr} {L : List Value} (h : w.ownsRow B t s (.slice a m c) n L) : m = n := by
  rcases h.2 with ⟨h2, h3⟩ | ⟨g, cap, cur, h2, _⟩
  · injection h2 with _ h4 _; omega
  · injection h2
theorem insB_snoc (l : List Inp) (x : Inp) : insB (l ++ [x]) = insB l ++ inB x := by simp [insB]
theorem insB_max {xs : List Inp} (h : ∀ x ∈ xs, x.d.length ≤ 1048576) : (insB xs).length ≤ 8388636 * xs.length := by
  induction xs with
  | nil => exact Nat.le_refl _
  | cons x xs ih =>
    have h1 := ih (fun y hy => h y (by simp [hy]))
    have h2 := h x (by simp)
    rw [insB_cons, List.length_append, inB_len, List.length_cons]
    omega
theorem enc_no_iff (xs : List Inp) : encOk xs = false ↔ 65536 < xs.length ∨ 4194304 < (encB xs).length := by
  unfold encOk
  rw [Bool.and_eq_false_iff, decide_eq_false_iff_not, decide_eq_false_iff_not]
  omega
theorem enc_lt (xs : List Inp) : ∀ y ∈ encB xs, y < 256 := by
  have hw : ∀ d : List Int, ∀ y ∈ wdB d, y < 256 := fun d y hy => by
    unfold wdB at hy
    obtain ⟨l, hl, hy⟩ := List.mem_flatten.1 hy
    obtain ⟨z, _, rfl⟩ := List.mem_map.1 hl
    exact be_lt _ _ y hy
  intro y hy
  unfold encB insB at hy
  rcases List.mem_append.1 hy with hy | hy
  · exact be_lt _ _ y hy
  · obtain ⟨l, hl, hy⟩ := List.mem_flatten.1 hy
    obtain ⟨x, _, rfl⟩ := List.mem_map.1 hl
    unfold inB hdB at hy
    rcases List.mem_append.1 hy with hy | hy
    · rcases List.mem_append.1 hy with hy | hy
      · rcases List.mem_append.1 hy with hy | hy
        · rcases List.mem_append.1 hy with hy | hy
          · exact be_lt _ _ y hy
          · exact be_lt _ _ y hy
        · exact be_lt _ _ y hy
      · exact be_lt _ _ y hy
    · exact hw _ y hy
set_option maxHeartbeats 16000000 in
theorem there_law {F : Nat → Prop} {a : Option Addr} {n c : Nat} {xs : List Inp} (w : World) (h : Il w F a n c xs) (hn : n ≤ 1048576) (hd : ∀ x ∈ xs, x.d.length ≤ 1048576) (ht : ∀ x ∈ xs, Ok6 x) (he : En w) :
    Calls Tryd.prog 4 #[.slice a n c] w fun r w' => r = .returned (.bool true) ∧ Kept No w w' := by
  have hlc := h.cap
  have hlm := h.max
  have hlen := h.len
  have hmx := insB_max hd
  have HH := hid (And.intro h (And.intro hd (And.intro ht he)))
  clear h hd ht he
  go_enter Tryd.func4, Tryd.ntmps4
  go_upto_region 2 with fail
  go_wp2
  go_loopw [3, 4] (fun u3 u4 wr => ∃ (k : Nat), k ≤ n ∧ u3 = .int .i64 ((4 + (insB (xs.take k)).length : Nat) : Int) ∧ u4 = .int .i64 k ∧ w = wr) (fun _ u4 _ => n - (intOf u4).toNat)
  case atStart => exact ⟨0, by omega, rfl, rfl, rfl⟩
  case round =>
    obtain ⟨k, hk, rfl, rfl, rfl⟩ := hrel
    by_cases hlt : k < n
    · have hltz : (k : Int) < (n : Int) := by omega
      obtain ⟨x, hx⟩ : ∃ x, xs[k]? = some x := ⟨_, List.getElem?_eq_getElem (by omega)⟩
      obtain ⟨b, o, da, dc, rfl, _, hc, ir⟩ := HH.out.1.at' k x hx
      have c3 : w.cell? ⟨b, o + k * 4 + 3, none⟩ = some (.slice da x.d.length dc) := hc 3 _ rfl
      have hdl := HH.out.2.1 x (List.mem_of_getElem? hx)
      have hcd := ir.zs.cap
      have hcm := ir.zs.max
      have et : Hid (4 + (insB (xs.take (k + 1))).length = 4 + (insB (xs.take k)).length + 28 + 8 * x.d.length) := by
        show 4 + (insB (xs.take (k + 1))).length = _
        rw [List.take_add_one, hx]
        show 4 + (insB (xs.take k ++ [x])).length = _
        rw [insB_snoc, List.length_append, inB_len]
        omega
      have hml : (insB (xs.take k)).length ≤ 8388636 * 1048576 := by
        have h1 := insB_max (xs := xs.take k) (fun y hy => HH.out.2.1 y (List.mem_of_mem_take hy))
        have h2 : 8388636 * (xs.take k).length ≤ 8388636 * 1048576 := Nat.mul_le_mul_left _ (by rw [List.length_take]; omega)
        omega
      obtain ⟨S, eS⟩ : ∃ S, (insB (xs.take k)).length = S := ⟨_, rfl⟩
      rw [eS] at et hml ⊢
      clear hc ir hx eS
      go_wp2_with (first
        | (refine l_take 23 rfl rfl (er_mul8 _ rfl x.d.length rfl (by omega)) ?_)
        | (refine l_take 16 rfl rfl (er_add28 _ rfl (4 + S) rfl (by omega)) ?_)
        | (refine l_take 24 rfl rfl (er_addNN _ _ rfl (4 + S + 28) (8 * x.d.length) rfl rfl (by omega)) ?_))
      refine ⟨⟨k + 1, by omega, by rw [et.out]; rfl, by go_num, trivial⟩, ?_⟩
      simp [intOf]; omega
    · have hltz : ¬ (k : Int) < (n : Int) := by omega
      obtain rfl : k = n := by omega
      rw [List.take_of_length_le (by omega)]
      have EL : Hid (4 + (insB xs).length = (encB xs).length) := (encB_len xs).symm
      have CC := hid (copy_list w HH.out.1 hn)
      obtain ⟨T, eT⟩ : ∃ T, 4 + (insB xs).length = T := ⟨_, rfl⟩
      have hT : T ≤ 8388636 * 1048576 + 4 := by
        have h2 : 8388636 * xs.length ≤ 8388636 * 1048576 := Nat.mul_le_mul_left _ (by omega)
        omega
      rw [eT] at EL ⊢
      clear hmx eT
      go_upto_region 7 with (first
        | (go_at_call 9; refine CC.out.mono ?_; rintro ex w1 ⟨ra, rc, rfl, il1, k1⟩; have CE := hid (encode_any An ra k rc xs w1 il1); have K1 := hid k1; clear il1 k1 CC)
        | (go_at_call 7; refine CE.out.mono ?_; rintro ex w2 ⟨ba, bn, bc, rfl, o2, k2⟩; obtain rfl := row_len o2; have H2 := hid (And.intro o2 (K1.out.trans k2 (fun _ e => e.elim))); clear o2 k2 CE))
      have CK := hid (known_yes w2 (HH.out.2.2.2.keep H2.out.2))
      cases hok : encOk xs with
      | false =>
        have hno := (enc_no_iff xs).1 hok
        rw [← EL.out, hlen] at hno
        have hq := enc_no hok
        rw [hq.1, hq.2]
        clear hq hok
        by_cases h65 : 65536 < k
        · have h65z : (65536 : Int) < (k : Int) := by omega
          clear hno
          go_wp2_with (go_at_call 6; refine CK.out.mono ?_; rintro ex w3 ⟨rfl, k3⟩; have K3 := hid k3; clear k3)
          go_ret
          exact ⟨rfl, H2.out.2.trans K3.out (fun _ e => e.elim)⟩
        · have h65z : ¬ (65536 : Int) < (k : Int) := by omega
          have hTz : (4194304 : Int) < (T : Int) := by omega
          clear hno
          go_wp2_with (go_at_call 6; refine CK.out.mono ?_; rintro ex w3 ⟨rfl, k3⟩; have K3 := hid k3; clear k3)
          go_ret
          exact ⟨rfl, H2.out.2.trans K3.out (fun _ e => e.elim)⟩
      | true =>
        obtain ⟨h1, h2⟩ := enc_ok hok
        rw [hlen] at h1
        rw [← EL.out] at h2
        have h65z : ¬ (65536 : Int) < (k : Int) := by omega
        have hTz : ¬ (4194304 : Int) < (T : Int) := by omega
        have eX : encX xs = sealed 3 (encB xs) := by unfold encX; rw [if_pos hok]
        have eE : encE xs = 0 := by unfold encE; rw [if_pos hok]
        have lX : (encX xs).length = T + 12 := by rw [eX, sealed_length, ← EL.out]
        have o2 := H2.out.1
        have hlt := sealed_lt (kind := 3) (by decide) (enc_lt xs)
        rw [eX] at o2
        have hl12 : (sealed 3 (encB xs)).length = T + 12 := by rw [sealed_length, ← EL.out]
        have hbs := Bs.row o2 rfl hlt
        rw [lX, eE]
        rw [hl12] at o2 hbs
        have HB := hid (And.intro hbs hlt)
        have HOK := hid hok
        clear o2 hbs hlt eX eE lX hok
        go_upto_region 10 with (first
          | (at_builtin; refine wpList_copy rfl _ _ rfl w2.heap.size _ rfl (made0 w2) (by simp) _ (T + 12) _ rfl _ (sealed 3 (encB xs)) (HB.out.1.kept ((Kept.refl No w2).alloc _) (fun _ _ h => h)) (by omega) ?_; intro ya yc w3 own3 k3; have HK3 : Hid (Kept No w2 w3) := ((Kept.refl No w2).alloc _).trans k3.out (fun k hk => .inr (own0 hk)); have cD := hid (decode_yes _ ya (T + 12) yc xs w3 (Bs.row own3.out hl12 HB.out.2) HOK.out HH.out.2.2.1 (enc_lt xs)); clear k3 own3)
          | (go_at_call 5; refine cD.out.mono ?_; rintro ex w4 ⟨la, lc, rfl, il4, k4⟩; have H4 := hid (And.intro il4 (HK3.out.trans k4 (fun _ e => e.elim))); have q1 := il4.cap; have q2 := il4.max; clear il4 k4 cD))
        have CK4 := hid (known_yes w4 ((HH.out.2.2.2.keep H2.out.2).keep H4.out.2))
        have K04 : Hid (Kept No w w4) := H2.out.2.trans H4.out.2 (fun _ e => e.elim)
        have il4 := H4.out.1
        rw [hlen] at il4
        have IL4 := hid il4
        clear il4 CK
        go_wp2_with (first
          | (go_at_call 6; refine CK4.out.mono ?_; rintro ex w5 ⟨rfl, k5⟩; have K5 := hid k5; have CS := hid (same_yes w5 (IL4.out.keep k5) ((HH.out.1.keep K04.out).keep k5) (by omega)); clear k5 CK4)
          | (refine l_take 68 rfl rfl (er_add12 _ rfl T rfl (by omega)) ?_)
          | (refine l_take 69 rfl rfl (er_eqlI _ _ rfl ((T + 12 : Nat) : Int) ((T + 12 : Nat) : Int) true rfl rfl (by simp)) ?_)
          | (go_at_call 10; refine CS.out.mono ?_; rintro ex w6 ⟨rfl, k6⟩; have K6 := hid (K5.out.trans k6 (fun _ e => e.elim)); clear k6 CS))
        go_ret
        exact ⟨rfl, K04.out.trans K6.out (fun _ e => e.elim)⟩
end Go.Proofs.YtfdcmhbpnadcpabDoor
