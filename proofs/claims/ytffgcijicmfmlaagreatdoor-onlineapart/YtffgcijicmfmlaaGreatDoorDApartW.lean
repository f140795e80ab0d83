/-
  The walk of OnlineApart.
-/
import Derived.Test.YtffgcijicmfmlaaGreatDoorDSpoil
namespace Go.Proofs.YtffgcijicmfmlaaGreatDoor
open Go.RowKit Plain
set_option linter.unusedVariables false
set_option maxRecDepth 100000

/-- 'append([]api.Server{}, list...)', of any list that can be -/
theorem wpList_cps {w : World} {ops : Array Oper} {rest : List Oper} {o : Oper} {a : Act} {Q : Exit → Act → World → Prop} (hgd : o.guard = none) (s x : Operand)
    (ho : o.op = .call { callee := .builtin .append, args := #[s, x], argTypes := #[22, 22] }) (B : Nat) (v : Value) (hs : a.eval s = v) (hv : w.ownsRow B 36 4 v 0 []) (hB : B ≤ w.heap.size) (xa : Option Addr) (n c : Nat) (hx : a.eval x = .slice xa n c)
    (F : Nat → Prop) (xs : List Srv) (hz : Sv w F xa n c xs) (hn : n * 32 ≤ 140737488351232)
    (h : ∀ v1 w', Hid (w'.ownsRow B 36 4 v1 n (fl xs)) → Hid (Kept (fun k => v.ownBlock = some k) w w') → wpList Tryz.prog ops Q rest (a.put o.dst v1) w') : wpList Tryz.prog ops Q (o :: rest) a w := by
  obtain ⟨i0, hi, hz0, hz1, hz2⟩ := info_parts Tryz.infoS
  cases xa with
  | none =>
    have hc0 := hz.nil rfl
    have hn0 : n = 0 := by have := hz.cap; omega
    have hx0 : xs = [] := List.eq_nil_of_length_eq_zero (by rw [hz.len]; exact hn0)
    subst hc0 hn0 hx0
    refine wpList_append_own_none hgd s x 22 ho B 36 i0 4 Tryz.underlying22 hi _ _ _ hs hv hx ?_
    exact h v w hv (Kept.refl _ _)
  | some ad =>
    refine wpList_append_own _ hgd s x 22 ho B 36 i0 (.agg #[.int .i64 0, .int .i64 0, .int .i64 0, .int .i64 0]) 4 32 Tryz.underlying22 hi hz0 hz1 hz2 rfl (by decide) _ 0 [] hs hv ad n c (fl xs) hx (by rw [fl_len, hz.len]) hz.news (fl_one _) (by unfold maxLen; omega) (by omega) hB ?_
    intro v1 w1 own1 grow1 _
    rw [Nat.zero_add, List.nil_append] at own1
    exact h v1 w1 own1 ((Kept.refl (fun k => v.ownBlock = some k) w).grown grow1 (fun k e => .inl e))

theorem able_any {F : Nat → Prop} {a : Option Addr} {c : Nat} {xs : List Srv} (w : World) (hg : Gl w) (h : Sv w F a xs.length c xs) :
    Calls Tryz.prog 9 #[.slice a xs.length c] w fun e w' => ∃ (P : Option Addr) (H : Int), e = .returned (.tuple #[.pointer P, .int .i64 H, .bool true]) ∧ (P = none ∨ ∃ d, P = some ⟨d, 0, none⟩ ∧ Vd xs ∧ Dn w' d (fun k => w.heap.size ≤ k ∧ k < w'.heap.size) xs 0) ∧ Kept No w w' := by
  cases htm : timF xs xs.length with
  | some p => exact (able_no w hg h htm).mono (by rintro e w' ⟨rfl, hk⟩; exact ⟨none, 0, rfl, .inl rfl, hk⟩)
  | none => exact (able_yes w hg h htm).mono (by rintro e w' ⟨d, rfl, hd, hk⟩; exact ⟨_, _, rfl, .inr ⟨d, rfl, vd_of htm, hd.dn⟩, hk⟩)

/-- two dispatchers of one list and one of another, all at 0, or one is not there -/
def Three (W w : World) (P1 P2 P3 : Option Addr) (xs ys : List Srv) : Prop :=
  (P1 = none ∨ P2 = none ∨ P3 = none) ∨ ∃ d1 d2 d3, P1 = some ⟨d1, 0, none⟩ ∧ P2 = some ⟨d2, 0, none⟩ ∧ P3 = some ⟨d3, 0, none⟩ ∧ Vd xs ∧ Vd ys ∧ Tri W w w.heap.size d1 d2 d3 xs ys 0 0 0
def Tmk (W w0 w3 : World) (P1 P2 P3 : Option Addr) (xs ys : List Srv) : Prop := ∃ m, w0.heap.size ≤ m ∧ Three W w3 P1 P2 P3 xs ys ∧ (∀ d1 d2 d3, P1 = some ⟨d1, 0, none⟩ → P2 = some ⟨d2, 0, none⟩ → P3 = some ⟨d3, 0, none⟩ → ∃ R1 R2 R3 : Nat → Prop, Dn w3 d1 R1 xs 0 ∧ Dn w3 d2 R2 ys 0 ∧ Dn w3 d3 R3 xs 0 ∧ (∀ k, R1 k → ¬ R2 k ∧ ¬ R3 k) ∧ (∀ k, R2 k → ¬ R3 k) ∧ (∀ k, R1 k → w0.heap.size ≤ k ∧ k < w3.heap.size) ∧ (∀ k, R2 k → w0.heap.size ≤ k ∧ k < w3.heap.size) ∧ (∀ k, R3 k → w0.heap.size ≤ k ∧ k < w3.heap.size))
theorem three_mk {W w0 w1 w2 w3 : World} {P1 P2 P3 : Option Addr} {xs ys : List Srv} (h0 : Kept No W w0) (k1 : Kept No w0 w1) (k2 : Kept No w1 w2) (k3 : Kept No w2 w3)
    (h1 : P1 = none ∨ ∃ d, P1 = some ⟨d, 0, none⟩ ∧ Vd xs ∧ Dn w1 d (fun k => w0.heap.size ≤ k ∧ k < w1.heap.size) xs 0)
    (h2 : P2 = none ∨ ∃ d, P2 = some ⟨d, 0, none⟩ ∧ Vd ys ∧ Dn w2 d (fun k => w1.heap.size ≤ k ∧ k < w2.heap.size) ys 0)
    (h3 : P3 = none ∨ ∃ d, P3 = some ⟨d, 0, none⟩ ∧ Vd xs ∧ Dn w3 d (fun k => w2.heap.size ≤ k ∧ k < w3.heap.size) xs 0) : Tmk W w0 w3 P1 P2 P3 xs ys := by
  have s0 := h0.size
  have s1 := k1.size
  have s2 := k2.size
  have s3 := k3.size
  have key : ∀ d1 d2 d3, Dn w1 d1 (fun k => w0.heap.size ≤ k ∧ k < w1.heap.size) xs 0 → Dn w2 d2 (fun k => w1.heap.size ≤ k ∧ k < w2.heap.size) ys 0 → Dn w3 d3 (fun k => w2.heap.size ≤ k ∧ k < w3.heap.size) xs 0 →
      ∃ R1 R2 R3 : Nat → Prop, Dn w3 d1 R1 xs 0 ∧ Dn w3 d2 R2 ys 0 ∧ Dn w3 d3 R3 xs 0 ∧ (∀ k, R1 k → ¬ R2 k ∧ ¬ R3 k) ∧ (∀ k, R2 k → ¬ R3 k) ∧ (∀ k, R1 k → w0.heap.size ≤ k ∧ k < w3.heap.size) ∧ (∀ k, R2 k → w0.heap.size ≤ k ∧ k < w3.heap.size) ∧ (∀ k, R3 k → w0.heap.size ≤ k ∧ k < w3.heap.size) := fun d1 d2 d3 g1 g2 g3 =>
    ⟨_, _, _, (g1.keep k2).keep k3, g2.keep k3, g3, fun k q => ⟨fun q' => by have := q.2; have := q'.1; omega, fun q' => by have := q.2; have := q'.1; omega⟩, fun k q q' => by have := q.2; have := q'.1; omega, fun k q => ⟨q.1, by have := q.2; omega⟩, fun k q => ⟨by have := q.1; omega, by have := q.2; omega⟩, fun k q => ⟨by have := q.1; omega, q.2⟩⟩
  refine ⟨w0.heap.size, Nat.le_refl _, ?_, ?_⟩
  · rcases h1 with h1 | ⟨d1, e1, v1, g1⟩
    · exact .inl (.inl h1)
    · rcases h2 with h2 | ⟨d2, e2, v2, g2⟩
      · exact .inl (.inr (.inl h2))
      · rcases h3 with h3 | ⟨d3, e3, v3, g3⟩
        · exact .inl (.inr (.inr h3))
        · obtain ⟨R1, R2, R3, a1, a2, a3, a4, a5, a6, a7, a8⟩ := key d1 d2 d3 g1 g2 g3
          exact .inr ⟨d1, d2, d3, e1, e2, e3, v1, v2, R1, R2, R3, a1, a2, a3, a4, a5, fun k q => ⟨by have := (a6 k q).1; omega, (a6 k q).2⟩, fun k q => ⟨by have := (a7 k q).1; omega, (a7 k q).2⟩, fun k q => ⟨by have := (a8 k q).1; omega, (a8 k q).2⟩, by omega, Nat.le_refl _, ((h0.trans k1 (fun _ h => h.elim)).trans k2 (fun _ h => h.elim)).trans k3 (fun _ h => h.elim)⟩
  · intro d1 d2 d3 e1 e2 e3
    rcases h1 with h1 | ⟨d1', e1', _, g1⟩
    · rw [h1] at e1; cases e1
    rcases h2 with h2 | ⟨d2', e2', _, g2⟩
    · rw [h2] at e2; cases e2
    rcases h3 with h3 | ⟨d3', e3', _, g3⟩
    · rw [h3] at e3; cases e3
    rw [e1] at e1'; rw [e2] at e2'; rw [e3] at e3'
    injection e1' with e1'; injection e2' with e2'; injection e3' with e3'
    injection e1' with e1'; injection e2' with e2'; injection e3' with e3'
    subst e1' e2' e3'
    exact key _ _ _ g1 g2 g3
/-- a write behind the lists' copy alone -/
theorem three_over {W w0 w3 w4 w5 : World} {P1 P2 P3 : Option Addr} {xs ys : List Srv} {G : Nat → Prop} (hW : W.heap.size ≤ w0.heap.size)
    (h : Tmk W w0 w3 P1 P2 P3 xs ys)
    (hk : Kept No w3 w4) (hk' : Kept G w4 w5) (hG : ∀ k, G k → W.heap.size ≤ k ∧ k < w0.heap.size) : Three W w5 P1 P2 P3 xs ys := by
  obtain ⟨m, hm, h1, h2⟩ := h
  rcases h1 with h1 | ⟨d1, d2, d3, e1, e2, e3, v1, v2, hT⟩
  · exact .inl h1
  · obtain ⟨R1, R2, R3, a1, a2, a3, a4, a5, a6, a7, a8⟩ := h2 d1 d2 d3 e1 e2 e3
    have s3 := hk.size
    have s4 := hk'.size
    exact .inr ⟨d1, d2, d3, e1, e2, e3, v1, v2, R1, R2, R3, (a1.keep hk).kept hk' (fun k q g => by have := (a6 k q).1; have := (hG k g).2; omega), (a2.keep hk).kept hk' (fun k q g => by have := (a7 k q).1; have := (hG k g).2; omega), (a3.keep hk).kept hk' (fun k q g => by have := (a8 k q).1; have := (hG k g).2; omega), a4, a5, fun k q => ⟨by have := (a6 k q).1; omega, by have := (a6 k q).2; omega⟩, fun k q => ⟨by have := (a7 k q).1; omega, by have := (a7 k q).2; omega⟩, fun k q => ⟨by have := (a8 k q).1; omega, by have := (a8 k q).2; omega⟩, by have := hT.k.size; omega, Nat.le_refl _, (hT.k.trans hk (fun _ h => h.elim)).trans hk' (fun k g => .inr (hG k g).1)⟩
theorem Three.k {W w : World} {d1 d2 d3 : Nat} {xs ys : List Srv} (h : Three W w (some ⟨d1, 0, none⟩) (some ⟨d2, 0, none⟩) (some ⟨d3, 0, none⟩) xs ys) : Vd xs ∧ Vd ys ∧ Tri W w w.heap.size d1 d2 d3 xs ys 0 0 0 := by
  rcases h with h | ⟨e1, e2, e3, h1, h2, h3, h4, h5, h6⟩
  · rcases h with h | h | h <;> cases h
  · injection h1 with h1; injection h2 with h2; injection h3 with h3
    injection h1 with h1; injection h2 with h2; injection h3 with h3
    subst h1 h2 h3
    exact ⟨h4, h5, h6⟩
theorem Three.ptr {W w : World} {P1 P2 P3 : Option Addr} {xs ys : List Srv} (h : Three W w P1 P2 P3 xs ys) : (P1 = none ∨ P2 = none ∨ P3 = none) ∨ ∃ d1 d2 d3, P1 = some ⟨d1, 0, none⟩ ∧ P2 = some ⟨d2, 0, none⟩ ∧ P3 = some ⟨d3, 0, none⟩ := by
  rcases h with h | ⟨d1, d2, d3, h1, h2, h3, _⟩
  · exact .inl h
  · exact .inr ⟨d1, d2, d3, h1, h2, h3⟩

set_option maxHeartbeats 8000000 in
theorem oapart_law {F G I : Nat → Prop} {a b : Option Addr} {c d : Nat} {xs ys : List Srv} {ps : Option Addr} {sn sc : Nat} {ss : List Int} (w : World) (hg : Gl w) (h : Sv w F a xs.length c xs) (h' : Sv w G b ys.length d ys) (hi : Is w I ps sn sc ss) (hsz : xs.length * 32 ≤ 140737488351232) :
    Calls Tryz.prog 5 #[.slice a xs.length c, .slice b ys.length d, .slice ps sn sc] w fun e w' => e = .returned (.bool true) ∧ Below w.heap.size w w' := by
  have HG : Hid (Gl w) := hg
  have HX : Hid (Sv w F a xs.length c xs) := h
  have HY : Hid (Sv w G b ys.length d ys) := h'
  have HI : Hid (Is w I ps sn sc ss) := hi
  have hcap := h.cap
  have hmax := h.max
  have hscap := hi.cap
  have hsmax := hi.max
  have q2 : ∀ (w : World) (ad : Addr), (binOp .eql 24 (.pointer (some ad)) (.pointer none)).run Tryz.prog w = .ok (.bool false) w := fun w ad => by rfl
  have q3 : ∀ (w : World), (binOp .eql 24 (.pointer none) (.pointer none)).run Tryz.prog w = .ok (.bool true) w := fun w => by rfl
  clear hg h h' hi
  go_enter Tryz.func5, Tryz.ntmps5
  go_upto_region 2 with (at_builtin; refine wpList_cps rfl _ _ rfl w.heap.size _ rfl (made0 w) (by simp) a xs.length c rfl F xs (HX.out.keep ((Kept.refl No w).alloc _)) (by omega) ?_; intro v1 w2 OW2 KW2)
  obtain ⟨a', c', hv1, hS2⟩ := own_sv OW2.out rfl (fun i hi => HX.out.ok i hi)
  have hc1 := hS2.cap
  have hc2 := hS2.max
  have HK2 : Hid (Kept No w w2) := ((Kept.refl No w).alloc _).trans KW2.out (fun k e => .inr (own0 e))
  have HO2 : Hid (∀ k, v1.ownBlock = some k → w.heap.size ≤ k ∧ k < w2.heap.size) := fun k hk => OW2.out.lt k hk
  subst hv1
  have a1 := able_any w2 (HG.out.kept HK2.out) hS2
  clear hS2 KW2
  go_upto_region 3 with (go_at_call 9; refine a1.mono ?_; rintro e w3 ⟨P1, H1, rfl, hp1, hk3⟩; have H3 : Hid ((P1 = none ∨ ∃ d, P1 = some ⟨d, 0, none⟩ ∧ Vd xs ∧ Dn w3 d (fun k => w2.heap.size ≤ k ∧ k < w3.heap.size) xs 0) ∧ Kept No w2 w3 ∧ Kept No w w3) := ⟨hp1, hk3, HK2.out.trans hk3 (fun _ h => h.elim)⟩; clear hp1 hk3 a1)
  have a2 := able_any w3 (HG.out.kept H3.out.2.2) (HY.out.keep H3.out.2.2)
  go_upto_region 4 with (go_at_call 9; refine a2.mono ?_; rintro e w4 ⟨P2, H2, rfl, hp2, hk4⟩; have H4 : Hid ((P2 = none ∨ ∃ d, P2 = some ⟨d, 0, none⟩ ∧ Vd ys ∧ Dn w4 d (fun k => w3.heap.size ≤ k ∧ k < w4.heap.size) ys 0) ∧ Kept No w3 w4 ∧ Kept No w w4) := ⟨hp2, hk4, H3.out.2.2.trans hk4 (fun _ h => h.elim)⟩; clear hp2 hk4 a2)
  have a3 := able_any w4 (HG.out.kept H4.out.2.2) (HX.out.keep H4.out.2.2)
  go_upto_region 5 with (go_at_call 9; refine a3.mono ?_; rintro e w5 ⟨P3, H5, rfl, hp3, hk5⟩; have H5' : Hid ((P3 = none ∨ ∃ d, P3 = some ⟨d, 0, none⟩ ∧ Vd xs ∧ Dn w5 d (fun k => w4.heap.size ≤ k ∧ k < w5.heap.size) xs 0) ∧ Kept No w4 w5 ∧ Kept No w w5) := ⟨hp3, hk5, H4.out.2.2.trans hk5 (fun _ h => h.elim)⟩; clear hp3 hk5 a3)
  have HT : Hid (Tmk w w2 w5 P1 P2 P3 xs ys) := three_mk HK2.out H3.out.2.1 H4.out.2.1 H5'.out.2.1 H3.out.1 H4.out.1 H5'.out.1
  have kn := known_any w5 (HG.out.kept H5'.out.2.2)
  have OW5 : Hid (w5.ownsRow w.heap.size 36 4 (.slice a' xs.length c') xs.length (fl xs)) := own_over (own_over (own_over OW2.out H3.out.2.1 (fun _ _ h => h)) H4.out.2.1 (fun _ _ h => h)) H5'.out.2.1 (fun _ _ h => h)
  have HW5 : Hid (Kept No w w5) := H5'.out.2.2
  clear H3 H4 H5' OW2
  go_wp2_with (go_at_call 10; refine kn.mono ?_; rintro e w6 ⟨rfl, hk6⟩; have H6 : Hid (w6.ownsRow w.heap.size 36 4 (.slice a' xs.length c') xs.length (fl xs) ∧ Kept No w5 w6) := ⟨own_over OW5.out hk6 (fun _ _ h => h), hk6⟩; clear hk6 kn OW5)
  have HW6 : Hid (Kept No w w6) := HW5.out.trans H6.out.2 (fun _ h => h.elim)
  go_loopw [17] (fun x wr => ∃ k : Nat, k ≤ xs.length ∧ x = .int .i64 k ∧ (∃ L, wr.ownsRow w.heap.size 36 4 (.slice a' xs.length c') xs.length L) ∧ Kept (fun k => (Value.slice a' xs.length c').ownBlock = some k) w6 wr) (fun x _ => xs.length - (intOf x).toNat)
  case atStart => exact ⟨0, Nat.zero_le _, rfl, ⟨_, H6.out.1⟩, Kept.refl _ _⟩
  case round =>
    obtain ⟨k, hk, rfl, ⟨L, hown⟩, hkr⟩ := hrel
    have HR : Hid (wr.ownsRow w.heap.size 36 4 (.slice a' xs.length c') xs.length L ∧ Kept (fun k => (Value.slice a' xs.length c').ownBlock = some k) w6 wr) := ⟨hown, hkr⟩
    clear hown hkr
    by_cases hlt : k < xs.length
    · obtain ⟨g, hg⟩ : ∃ g, a' = some ⟨g, 0, none⟩ := by
        rcases HR.out.1.2 with ⟨h1, h2⟩ | ⟨g, cap, cur, h1, _⟩
        · omega
        · injection h1 with h1
          exact ⟨g, h1⟩
      subst hg
      have hl : L.length = xs.length * 4 := HR.out.1.1
      obtain ⟨y0, e0⟩ : ∃ y, wr.cell? ⟨g, k * 4, none⟩ = some y := by rw [HR.out.1.cellAt (k * 4) (by omega)]; exact ⟨_, List.getElem?_eq_getElem (by omega)⟩
      obtain ⟨y1, e1⟩ : ∃ y, wr.cell? ⟨g, k * 4 + 1, none⟩ = some y := by rw [HR.out.1.cellAt (k * 4 + 1) (by omega)]; exact ⟨_, List.getElem?_eq_getElem (by omega)⟩
      obtain ⟨y2, e2⟩ : ∃ y, wr.cell? ⟨g, k * 4 + 2, none⟩ = some y := by rw [HR.out.1.cellAt (k * 4 + 2) (by omega)]; exact ⟨_, List.getElem?_eq_getElem (by omega)⟩
      obtain ⟨y3, e3⟩ : ∃ y, wr.cell? ⟨g, k * 4 + 3, none⟩ = some y := by rw [HR.out.1.cellAt (k * 4 + 3) (by omega)]; exact ⟨_, List.getElem?_eq_getElem (by omega)⟩
      have z0 := HR.out.1.frozenAt (k * 4)
      have z1 := HR.out.1.frozenAt (k * 4 + 1)
      have z2 := HR.out.1.frozenAt (k * 4 + 2)
      have z3 := HR.out.1.frozenAt (k * 4 + 3)
      have s0 := HR.out.1.stored (k * 4) (.int .i64 0)
      have s1 := s0.1.stored (k * 4 + 1) (.int .i64 0)
      have s2 := s1.1.stored (k * 4 + 2) (.int .i64 0)
      have s3 := s2.1.stored (k * 4 + 3) (.int .i64 0)
      have HS : Hid ((∃ L, ((((wr.setCell ⟨g, k * 4, none⟩ (.int .i64 0)).setCell ⟨g, k * 4 + 1, none⟩ (.int .i64 0)).setCell ⟨g, k * 4 + 2, none⟩ (.int .i64 0)).setCell ⟨g, k * 4 + 3, none⟩ (.int .i64 0)).ownsRow w.heap.size 36 4 (.slice (some ⟨g, 0, none⟩) xs.length c') xs.length L) ∧ Kept (fun k => (Value.slice (some ⟨g, 0, none⟩) xs.length c').ownBlock = some k) w6 ((((wr.setCell ⟨g, k * 4, none⟩ (.int .i64 0)).setCell ⟨g, k * 4 + 1, none⟩ (.int .i64 0)).setCell ⟨g, k * 4 + 2, none⟩ (.int .i64 0)).setCell ⟨g, k * 4 + 3, none⟩ (.int .i64 0))) :=
        ⟨⟨_, s3.1⟩, (((HR.out.2.grown s0.2 (fun j e => .inl e)).grown s1.2 (fun j e => .inl e)).grown s2.2 (fun j e => .inl e)).grown s3.2 (fun j e => .inl e)⟩
      clear s0 s1 s2 s3 hl
      go_wp2
      go_roundw
      case rel => exact ⟨k + 1, by omega, by go_num, HS.out.1, HS.out.2⟩
      case measure => simp [intOf]; omega
    · have hke : k = xs.length := by omega
      subst hke
      have H7 : Hid (Three w wr P1 P2 P3 xs ys ∧ Kept No w wr) := ⟨three_over HK2.out.size HT.out H6.out.2 HR.out.2 (fun k e => HO2.out k e), HW6.out.trans HR.out.2 (fun k e => .inr (HO2.out k e).1)⟩
      clear HR H6 HT HK2 HW6 HW5 HO2
      cases P1 with
      | none =>
        go_wp2
        go_ret
        exact ⟨rfl, H7.out.2.below0⟩
      | some ad1 =>
        cases P2 with
        | none =>
          go_wp2
          go_ret
          exact ⟨rfl, H7.out.2.below0⟩
        | some ad2 =>
          cases P3 with
          | none =>
            go_wp2
            go_ret
            exact ⟨rfl, H7.out.2.below0⟩
          | some ad3 =>
            obtain ⟨d1, d2, d3, e1, e2, e3⟩ : ∃ d1 d2 d3, ad1 = ⟨d1, 0, none⟩ ∧ ad2 = ⟨d2, 0, none⟩ ∧ ad3 = ⟨d3, 0, none⟩ := by
              rcases H7.out.1.ptr with h | ⟨d1, d2, d3, h1, h2, h3⟩
              · rcases h with h | h | h <;> cases h
              · injection h1 with h1; injection h2 with h2; injection h3 with h3
                exact ⟨d1, d2, d3, h1, h2, h3⟩
            subst e1 e2 e3
            obtain ⟨hvx, hvy, hT⟩ := H7.out.1.k
            have HVX : Hid (Vd xs) := hvx
            have HVY : Hid (Vd ys) := hvy
            have hn := hvx.num
            have H8 : Hid (Tri w wr wr.heap.size d1 d2 d3 xs ys 0 0 0) := hT
            clear hvx hvy hT H7
            go_wp2
            go_loopw [18] (fun x w8 => ∃ t s k m : Nat, t < 1099511627776 ∧ k ≤ sn ∧ x = .int .i64 k ∧ Tri w w8 m d1 d2 d3 xs ys t s t) (fun x _ => sn - (intOf x).toNat)
            case atStart => exact ⟨0, 0, 0, _, by omega, Nat.zero_le _, rfl, H8.out⟩
            case round =>
              obtain ⟨t, s, k, m, htM, hk2, rfl, hT⟩ := hrel
              have HT : Hid (Tri w wr m d1 d2 d3 xs ys t s t ∧ t < 1099511627776) := ⟨hT, htM⟩
              clear hT H8 htM hk hlt
              by_cases hgo : k < sn ∧ k < 200
              · obtain ⟨hg1, hg2⟩ := hgo
                have hg3 : (k : Int) < 200 := by omega
                obtain ⟨j, ej⟩ : ∃ j : Nat, (sn : Int) - 1 - (k : Int) = (j : Int) := ⟨sn - 1 - k, by omega⟩
                have hj : j < sn := by omega
                have hji : (j : Int) < (sn : Int) := by omega
                obtain ⟨x, hx⟩ : ∃ x, ss[k]? = some x := ⟨_, List.getElem?_eq_getElem (by rw [HI.out.len]; exact hg1)⟩
                obtain ⟨y, hy⟩ : ∃ y, ss[j]? = some y := ⟨_, List.getElem?_eq_getElem (by rw [HI.out.len]; exact hj)⟩
                obtain ⟨g, o, rfl, _, hc⟩ := HI.out.at' k x hx
                obtain ⟨g', o', he, _, hc'⟩ := HI.out.at' j y hy
                injection he with he; injection he with he1 he2; subst he1 he2
                have HC : Hid (∀ w', Kept No w w' → w'.cell? ⟨g, o + k, none⟩ = some (.int .i64 x)) := fun w' hk => hk.cell hc (fun h => h)
                have HD : Hid (∀ w', Kept No w w' → w'.cell? ⟨g, o + j, none⟩ = some (.int .i64 y)) := fun w' hk => hk.cell hc' (fun h => h)
                clear hc hc' hx hy
                have c1 := HC.out wr HT.out.1.k
                have ad := HT.out.1.adv1 HVX.out x
                have HE : Hid (adT t x < 1099511627776) := adT_lt HT.out.2
                obtain ⟨E, hE⟩ : ∃ E, adE t x = E := ⟨_, rfl⟩
                obtain ⟨T, hT⟩ : ∃ T, adT t x = T := ⟨_, rfl⟩
                rw [hE, hT] at ad
                have HET : Hid (adE t x = E ∧ adT t x = T ∧ T < 1099511627776) := ⟨hE, hT, by rw [← hT]; exact HE.out⟩
                clear hE hT HE
                go_upto_region 17 with (go_at_call 11; refine ad.mono ?_; rintro e w9 ⟨rfl, h9⟩; have H9 : Hid (Tri w w9 w9.heap.size d1 d2 d3 xs ys T s t) := h9; clear h9 ad)
                clear c1
                have c1 := HD.out w9 H9.out.k
                have ad := H9.out.adv2 HVY.out y
                generalize adE s y = E2 at *
                generalize adT s y = T2 at *
                go_upto_region 18 with (go_at_call 11; refine ad.mono ?_; rintro e w10 ⟨rfl, h10⟩; have H10 : Hid (Tri w w10 w10.heap.size d1 d2 d3 xs ys T T2 t) := h10; clear h10 ad)
                clear c1 ej hji
                have c1 := HC.out w10 H10.out.k
                have ad := H10.out.adv3 HVX.out x
                rw [HET.out.1, HET.out.2.1] at ad
                go_upto_region 19 with (go_at_call 11; refine ad.mono ?_; rintro e w11 ⟨rfl, h11⟩; have H11 : Hid (Tri w w11 w11.heap.size d1 d2 d3 xs ys T T2 T) := h11; clear h11 ad)
                clear c1
                obtain ⟨Ra, hra⟩ := H11.out.a
                have r1 := rests_own HVX.out hra
                clear hra
                go_upto_region 20 with (go_at_call 14; refine r1.mono ?_; rintro e w12 ⟨g1, cg1, rfl, hg11, hg12, _, _, ct1, ⟨L1, ow1⟩, hk12⟩; have H12 : Hid (Tri w w12 w11.heap.size d1 d2 d3 xs ys T T2 T ∧ w11.heap.size ≤ g1 ∧ Ct w12 g1 xs.length (fun i => (Rule.rest (sys xs) T i : Int)) ∧ w12.ownsRow w11.heap.size 3 1 (.slice (some ⟨g1, 0, none⟩) xs.length cg1) xs.length L1) := ⟨H11.out.keep hk12, hg11, ct1, ow1⟩; clear ct1 ow1 hk12 r1 hg11 hg12)
                obtain ⟨O, hO⟩ : ∃ O, Rule.occ (sys xs) T = O := ⟨_, rfl⟩
                obtain ⟨U, hU⟩ : ∃ U, Rule.until' (sys xs) T = U := ⟨_, rfl⟩
                have HOU : Hid (Rule.occ (sys xs) T = O ∧ Rule.until' (sys xs) T = U) := ⟨hO, hU⟩
                clear hO hU
                obtain ⟨Rb, hrb⟩ := H12.out.1.c
                have r2 := rests_dn HVX.out hrb
                clear hrb
                go_wp2_with (first
                  | (go_at_call 14; refine r2.mono ?_; rintro e w13 ⟨g2, cg2, rfl, _, _, _, ct2, hk13⟩; have H13 : Hid (Tri w w13 w11.heap.size d1 d2 d3 xs ys T T2 T ∧ w13.ownsRow w11.heap.size 3 1 (.slice (some ⟨g1, 0, none⟩) xs.length cg1) xs.length L1) := ⟨H12.out.1.keep hk13, own_over H12.out.2.2.2 hk13 (fun _ _ h => h)⟩; have sm := sameInts_yes (c := cg1) (c' := cg2) w13 (H12.out.2.2.1.keep hk13) ct2 hn; clear ct2 hk13 r2)
                  | (go_at_call 13; refine sm.mono ?_; rintro e w14 ⟨rfl, hk14⟩; have H14 : Hid (Tri w w14 w11.heap.size d1 d2 d3 xs ys T T2 T ∧ w14.ownsRow w11.heap.size 3 1 (.slice (some ⟨g1, 0, none⟩) xs.length cg1) xs.length L1) := ⟨H13.out.1.keep hk14, own_over H13.out.2 hk14 (fun _ _ h => h)⟩; obtain ⟨Rc, hrc⟩ := H14.out.1.a; have o1 := occ_dn HVX.out hrc; rw [HOU.out.1] at o1; clear hk14 hrc sm)
                  | (go_at_call 15; refine o1.mono ?_; rintro e w15 ⟨rfl, hk15⟩; have H15 : Hid (Tri w w15 w11.heap.size d1 d2 d3 xs ys T T2 T ∧ w15.ownsRow w11.heap.size 3 1 (.slice (some ⟨g1, 0, none⟩) xs.length cg1) xs.length L1) := ⟨H14.out.1.keep hk15, own_over H14.out.2 hk15 (fun _ _ h => h)⟩; obtain ⟨Rd, hrd⟩ := H15.out.1.c; have o2 := occ_dn HVX.out hrd; rw [HOU.out.1] at o2; clear hk15 hrd o1)
                  | (go_at_call 15; refine o2.mono ?_; rintro e w16 ⟨rfl, hk16⟩; have H16 : Hid (Tri w w16 w11.heap.size d1 d2 d3 xs ys T T2 T ∧ w16.ownsRow w11.heap.size 3 1 (.slice (some ⟨g1, 0, none⟩) xs.length cg1) xs.length L1) := ⟨H15.out.1.keep hk16, own_over H15.out.2 hk16 (fun _ _ h => h)⟩; obtain ⟨Re, hre⟩ := H16.out.1.a; have u1 := until_dn HVX.out hre HET.out.2.2; rw [HOU.out.2] at u1; clear hk16 hre o2)
                  | (go_at_call 16; refine u1.mono ?_; rintro e w17 ⟨rfl, hk17⟩; have H17 : Hid (Tri w w17 w11.heap.size d1 d2 d3 xs ys T T2 T ∧ w17.ownsRow w11.heap.size 3 1 (.slice (some ⟨g1, 0, none⟩) xs.length cg1) xs.length L1) := ⟨H16.out.1.keep hk17, own_over H16.out.2 hk17 (fun _ _ h => h)⟩; obtain ⟨Rf, hrf⟩ := H17.out.1.c; have u2 := until_dn HVX.out hrf HET.out.2.2; rw [HOU.out.2] at u2; clear hk17 hrf u1)
                  | (go_at_call 16; refine u2.mono ?_; rintro e w18 ⟨rfl, hk18⟩; have H18 : Hid (Tri w w18 w11.heap.size d1 d2 d3 xs ys T T2 T ∧ w18.ownsRow w11.heap.size 3 1 (.slice (some ⟨g1, 0, none⟩) xs.length cg1) xs.length L1) := ⟨H17.out.1.keep hk18, own_over H17.out.2 hk18 (fun _ _ h => h)⟩; obtain ⟨Rg, hrg⟩ := H18.out.1.a; have n1 := now_dn hrg; clear hk18 hrg u2)
                  | (go_at_call 12; refine n1.mono ?_; rintro e w19 ⟨rfl, hk19⟩; have H19 : Hid (Tri w w19 w11.heap.size d1 d2 d3 xs ys T T2 T ∧ w19.ownsRow w11.heap.size 3 1 (.slice (some ⟨g1, 0, none⟩) xs.length cg1) xs.length L1) := ⟨H18.out.1.keep hk19, own_over H18.out.2 hk19 (fun _ _ h => h)⟩; obtain ⟨Rh, hrh⟩ := H19.out.1.c; have n2 := now_dn hrh; clear hk19 hrh n1)
                  | (go_at_call 12; refine n2.mono ?_; rintro e w20 ⟨rfl, hk20⟩; have H20 : Hid (Tri w w20 w11.heap.size d1 d2 d3 xs ys T T2 T ∧ w20.ownsRow w11.heap.size 3 1 (.slice (some ⟨g1, 0, none⟩) xs.length cg1) xs.length L1) := ⟨H19.out.1.keep hk20, own_over H19.out.2 hk20 (fun _ _ h => h)⟩; have sp := spoilt_any w20 H20.out.2 hn H20.out.1.le; clear hk20 n2)
                  | (go_at_call 17; refine sp.mono ?_; rintro e w21 ⟨rfl, hk21⟩; have H21 : Hid (Tri w w21 w11.heap.size d1 d2 d3 xs ys T T2 T) := H20.out.1.over hk21 (fun k e => by have := H12.out.2.1; omega); clear hk21 sp))
                go_roundw
                case rel => exact ⟨T, T2, k + 1, _, HET.out.2.2, by omega, by go_num, H21.out⟩
                case measure => simp [intOf]; omega
              · by_cases hge : k < sn
                · have hg3 : ¬ (k : Int) < 200 := by omega
                  clear hgo
                  go_wp2
                  go_ret
                  exact ⟨rfl, HT.out.1.k.below0⟩
                · clear hgo hk2
                  go_wp2
                  go_ret
                  exact ⟨rfl, HT.out.1.k.below0⟩
end Go.Proofs.YtffgcijicmfmlaaGreatDoor
