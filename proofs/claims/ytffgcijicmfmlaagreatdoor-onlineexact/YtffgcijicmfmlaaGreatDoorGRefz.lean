/-
  One text: DApartW, DRef5, DRef6.
-/
import Derived.Test.YtffgcijicmfmlaaGreatDoorGTri
import Derived.Test.YtffgcijicmfmlaaGreatDoorGRefs
import Derived.Laws.ResultCell
import Derived.Deep.RegionHeld
namespace Go.Proofs.YtffgcijicmfmlaaGreatDoor
open Go.RowKit Plain
set_option linter.unusedVariables false
set_option maxRecDepth 100000

/-- 'append([]api.Server{}, list...)', of any list that can be -/
theorem wpList_cps {w : World} {ops : Array Oper} {rest : List Oper} {o : Oper} {a : Act} {Q : Exit → Act → World → Prop} (hgd : o.guard = none) (s x : Operand)
    (ho : o.op = .call { callee := .builtin .append, args := #[s, x], argTypes := #[22, 22] }) (B : Nat) (v : Value) (hs : a.eval s = v) (hv : w.ownsRow B 36 4 v 0 []) (hB : B ≤ w.heap.size) (xa : Option Addr) (n c : Nat) (hx : a.eval x = .slice xa n c)
    (F : Nat → Prop) (xs : List Srv) (hz : Sv w F xa n c xs) (hn : n * 32 ≤ 140737488351232)
    (h : ∀ v1 w', Hid (w'.ownsRow B 36 4 v1 n (fl xs)) → Hid (Kept (fun k => v.ownBlock = some k) w w') → wpList Tryz.prog ops Q rest (a.put o.dst v1) w') : wpList Tryz.prog ops Q (o :: rest) a w := by
  obtain ⟨i0, hi, hz0, hz1, hz2⟩ := info_parts Tryz.infoS
  cases xa with
  | none =>
    have hc0 := hz.nil rfl
    have hn0 : n = 0 := by have := hz.cap; omega
    have hx0 : xs = [] := List.eq_nil_of_length_eq_zero (by rw [hz.len]; exact hn0)
    subst hc0 hn0 hx0
    refine wpList_append_own_none hgd s x 22 ho B 36 i0 4 Tryz.underlying22 hi _ _ _ hs hv hx ?_
    exact h v w hv (Kept.refl _ _)
  | some ad =>
    refine wpList_append_own _ hgd s x 22 ho B 36 i0 (.agg #[.int .i64 0, .int .i64 0, .int .i64 0, .int .i64 0]) 4 32 Tryz.underlying22 hi hz0 hz1 hz2 rfl (by decide) _ 0 [] hs hv ad n c (fl xs) hx (by rw [fl_len, hz.len]) hz.news (fl_one _) (by unfold maxLen; omega) (by omega) hB ?_
    intro v1 w1 own1 grow1 _
    rw [Nat.zero_add, List.nil_append] at own1
    exact h v1 w1 own1 ((Kept.refl (fun k => v.ownBlock = some k) w).grown grow1 (fun k e => .inl e))

theorem able_any {F : Nat → Prop} {a : Option Addr} {c : Nat} {xs : List Srv} (w : World) (hg : Gl w) (h : Sv w F a xs.length c xs) :
    Calls Tryz.prog 9 #[.slice a xs.length c] w fun e w' => ∃ (P : Option Addr) (H : Int), e = .returned (.tuple #[.pointer P, .int .i64 H, .bool true]) ∧ (P = none ∨ ∃ d, P = some ⟨d, 0, none⟩ ∧ Vd xs ∧ Dn w' d (fun k => w.heap.size ≤ k ∧ k < w'.heap.size) xs 0) ∧ Kept No w w' := by
  cases htm : timF xs xs.length with
  | some p => exact (able_no w hg h htm).mono (by rintro e w' ⟨rfl, hk⟩; exact ⟨none, 0, rfl, .inl rfl, hk⟩)
  | none => exact (able_yes w hg h htm).mono (by rintro e w' ⟨d, rfl, hd, hk⟩; exact ⟨_, _, rfl, .inr ⟨d, rfl, vd_of htm, hd.dn⟩, hk⟩)

/-- two dispatchers of one list and one of another, all at 0, or one is not there -/
def Three (W w : World) (P1 P2 P3 : Option Addr) (xs ys : List Srv) : Prop :=
  (P1 = none ∨ P2 = none ∨ P3 = none) ∨ ∃ d1 d2 d3, P1 = some ⟨d1, 0, none⟩ ∧ P2 = some ⟨d2, 0, none⟩ ∧ P3 = some ⟨d3, 0, none⟩ ∧ Vd xs ∧ Vd ys ∧ Tri W w w.heap.size d1 d2 d3 xs ys 0 0 0
def Tmk (W w0 w3 : World) (P1 P2 P3 : Option Addr) (xs ys : List Srv) : Prop := ∃ m, w0.heap.size ≤ m ∧ Three W w3 P1 P2 P3 xs ys ∧ (∀ d1 d2 d3, P1 = some ⟨d1, 0, none⟩ → P2 = some ⟨d2, 0, none⟩ → P3 = some ⟨d3, 0, none⟩ → ∃ R1 R2 R3 : Nat → Prop, Dn w3 d1 R1 xs 0 ∧ Dn w3 d2 R2 ys 0 ∧ Dn w3 d3 R3 xs 0 ∧ (∀ k, R1 k → ¬ R2 k ∧ ¬ R3 k) ∧ (∀ k, R2 k → ¬ R3 k) ∧ (∀ k, R1 k → w0.heap.size ≤ k ∧ k < w3.heap.size) ∧ (∀ k, R2 k → w0.heap.size ≤ k ∧ k < w3.heap.size) ∧ (∀ k, R3 k → w0.heap.size ≤ k ∧ k < w3.heap.size))
theorem three_mk {W w0 w1 w2 w3 : World} {P1 P2 P3 : Option Addr} {xs ys : List Srv} (h0 : Kept No W w0) (k1 : Kept No w0 w1) (k2 : Kept No w1 w2) (k3 : Kept No w2 w3)
    (h1 : P1 = none ∨ ∃ d, P1 = some ⟨d, 0, none⟩ ∧ Vd xs ∧ Dn w1 d (fun k => w0.heap.size ≤ k ∧ k < w1.heap.size) xs 0)
    (h2 : P2 = none ∨ ∃ d, P2 = some ⟨d, 0, none⟩ ∧ Vd ys ∧ Dn w2 d (fun k => w1.heap.size ≤ k ∧ k < w2.heap.size) ys 0)
    (h3 : P3 = none ∨ ∃ d, P3 = some ⟨d, 0, none⟩ ∧ Vd xs ∧ Dn w3 d (fun k => w2.heap.size ≤ k ∧ k < w3.heap.size) xs 0) : Tmk W w0 w3 P1 P2 P3 xs ys := by
  have s0 := h0.size
  have s1 := k1.size
  have s2 := k2.size
  have s3 := k3.size
  have key : ∀ d1 d2 d3, Dn w1 d1 (fun k => w0.heap.size ≤ k ∧ k < w1.heap.size) xs 0 → Dn w2 d2 (fun k => w1.heap.size ≤ k ∧ k < w2.heap.size) ys 0 → Dn w3 d3 (fun k => w2.heap.size ≤ k ∧ k < w3.heap.size) xs 0 →
      ∃ R1 R2 R3 : Nat → Prop, Dn w3 d1 R1 xs 0 ∧ Dn w3 d2 R2 ys 0 ∧ Dn w3 d3 R3 xs 0 ∧ (∀ k, R1 k → ¬ R2 k ∧ ¬ R3 k) ∧ (∀ k, R2 k → ¬ R3 k) ∧ (∀ k, R1 k → w0.heap.size ≤ k ∧ k < w3.heap.size) ∧ (∀ k, R2 k → w0.heap.size ≤ k ∧ k < w3.heap.size) ∧ (∀ k, R3 k → w0.heap.size ≤ k ∧ k < w3.heap.size) := fun d1 d2 d3 g1 g2 g3 =>
    ⟨_, _, _, (g1.keep k2).keep k3, g2.keep k3, g3, fun k q => ⟨fun q' => by have := q.2; have := q'.1; omega, fun q' => by have := q.2; have := q'.1; omega⟩, fun k q q' => by have := q.2; have := q'.1; omega, fun k q => ⟨q.1, by have := q.2; omega⟩, fun k q => ⟨by have := q.1; omega, by have := q.2; omega⟩, fun k q => ⟨by have := q.1; omega, q.2⟩⟩
  refine ⟨w0.heap.size, Nat.le_refl _, ?_, ?_⟩
  · rcases h1 with h1 | ⟨d1, e1, v1, g1⟩
    · exact .inl (.inl h1)
    · rcases h2 with h2 | ⟨d2, e2, v2, g2⟩
      · exact .inl (.inr (.inl h2))
      · rcases h3 with h3 | ⟨d3, e3, v3, g3⟩
        · exact .inl (.inr (.inr h3))
        · obtain ⟨R1, R2, R3, a1, a2, a3, a4, a5, a6, a7, a8⟩ := key d1 d2 d3 g1 g2 g3
          exact .inr ⟨d1, d2, d3, e1, e2, e3, v1, v2, R1, R2, R3, a1, a2, a3, a4, a5, fun k q => ⟨by have := (a6 k q).1; omega, (a6 k q).2⟩, fun k q => ⟨by have := (a7 k q).1; omega, (a7 k q).2⟩, fun k q => ⟨by have := (a8 k q).1; omega, (a8 k q).2⟩, by omega, Nat.le_refl _, ((h0.trans k1 (fun _ h => h.elim)).trans k2 (fun _ h => h.elim)).trans k3 (fun _ h => h.elim)⟩
  · intro d1 d2 d3 e1 e2 e3
    rcases h1 with h1 | ⟨d1', e1', _, g1⟩
    · rw [h1] at e1; cases e1
    rcases h2 with h2 | ⟨d2', e2', _, g2⟩
    · rw [h2] at e2; cases e2
    rcases h3 with h3 | ⟨d3', e3', _, g3⟩
    · rw [h3] at e3; cases e3
    rw [e1] at e1'; rw [e2] at e2'; rw [e3] at e3'
    injection e1' with e1'; injection e2' with e2'; injection e3' with e3'
    injection e1' with e1'; injection e2' with e2'; injection e3' with e3'
    subst e1' e2' e3'
    exact key _ _ _ g1 g2 g3
/-- a write behind the lists' copy alone -/
theorem three_over {W w0 w3 w4 w5 : World} {P1 P2 P3 : Option Addr} {xs ys : List Srv} {G : Nat → Prop} (hW : W.heap.size ≤ w0.heap.size)
    (h : Tmk W w0 w3 P1 P2 P3 xs ys)
    (hk : Kept No w3 w4) (hk' : Kept G w4 w5) (hG : ∀ k, G k → W.heap.size ≤ k ∧ k < w0.heap.size) : Three W w5 P1 P2 P3 xs ys := by
  obtain ⟨m, hm, h1, h2⟩ := h
  rcases h1 with h1 | ⟨d1, d2, d3, e1, e2, e3, v1, v2, hT⟩
  · exact .inl h1
  · obtain ⟨R1, R2, R3, a1, a2, a3, a4, a5, a6, a7, a8⟩ := h2 d1 d2 d3 e1 e2 e3
    have s3 := hk.size
    have s4 := hk'.size
    exact .inr ⟨d1, d2, d3, e1, e2, e3, v1, v2, R1, R2, R3, (a1.keep hk).kept hk' (fun k q g => by have := (a6 k q).1; have := (hG k g).2; omega), (a2.keep hk).kept hk' (fun k q g => by have := (a7 k q).1; have := (hG k g).2; omega), (a3.keep hk).kept hk' (fun k q g => by have := (a8 k q).1; have := (hG k g).2; omega), a4, a5, fun k q => ⟨by have := (a6 k q).1; omega, by have := (a6 k q).2; omega⟩, fun k q => ⟨by have := (a7 k q).1; omega, by have := (a7 k q).2; omega⟩, fun k q => ⟨by have := (a8 k q).1; omega, by have := (a8 k q).2; omega⟩, by have := hT.k.size; omega, Nat.le_refl _, (hT.k.trans hk (fun _ h => h.elim)).trans hk' (fun k g => .inr (hG k g).1)⟩
theorem Three.k {W w : World} {d1 d2 d3 : Nat} {xs ys : List Srv} (h : Three W w (some ⟨d1, 0, none⟩) (some ⟨d2, 0, none⟩) (some ⟨d3, 0, none⟩) xs ys) : Vd xs ∧ Vd ys ∧ Tri W w w.heap.size d1 d2 d3 xs ys 0 0 0 := by
  rcases h with h | ⟨e1, e2, e3, h1, h2, h3, h4, h5, h6⟩
  · rcases h with h | h | h <;> cases h
  · injection h1 with h1; injection h2 with h2; injection h3 with h3
    injection h1 with h1; injection h2 with h2; injection h3 with h3
    subst h1 h2 h3
    exact ⟨h4, h5, h6⟩
theorem Three.ptr {W w : World} {P1 P2 P3 : Option Addr} {xs ys : List Srv} (h : Three W w P1 P2 P3 xs ys) : (P1 = none ∨ P2 = none ∨ P3 = none) ∨ ∃ d1 d2 d3, P1 = some ⟨d1, 0, none⟩ ∧ P2 = some ⟨d2, 0, none⟩ ∧ P3 = some ⟨d3, 0, none⟩ := by
  rcases h with h | ⟨d1, d2, d3, h1, h2, h3, _⟩
  · exact .inl h
  · exact .inr ⟨d1, d2, d3, h1, h2, h3⟩

set_option maxHeartbeats 8000000 in
theorem oapart_law {F G I : Nat → Prop} {a b : Option Addr} {c d : Nat} {xs ys : List Srv} {ps : Option Addr} {sn sc : Nat} {ss : List Int} (w : World) (hg : Gl w) (h : Sv w F a xs.length c xs) (h' : Sv w G b ys.length d ys) (hi : Is w I ps sn sc ss) (hsz : xs.length * 32 ≤ 140737488351232) :
    Calls Tryz.prog 5 #[.slice a xs.length c, .slice b ys.length d, .slice ps sn sc] w fun e w' => e = .returned (.bool true) ∧ Below w.heap.size w w' := by
  have HG : Hid (Gl w) := hg
  have HX : Hid (Sv w F a xs.length c xs) := h
  have HY : Hid (Sv w G b ys.length d ys) := h'
  have HI : Hid (Is w I ps sn sc ss) := hi
  have hcap := h.cap
  have hmax := h.max
  have hscap := hi.cap
  have hsmax := hi.max
  have q2 : ∀ (w : World) (ad : Addr), (binOp .eql 24 (.pointer (some ad)) (.pointer none)).run Tryz.prog w = .ok (.bool false) w := fun w ad => by rfl
  have q3 : ∀ (w : World), (binOp .eql 24 (.pointer none) (.pointer none)).run Tryz.prog w = .ok (.bool true) w := fun w => by rfl
  clear hg h h' hi
  go_enter Tryz.func5, Tryz.ntmps5
  go_upto_region 2 with (at_builtin; refine wpList_cps rfl _ _ rfl w.heap.size _ rfl (made0 w) (by simp) a xs.length c rfl F xs (HX.out.keep ((Kept.refl No w).alloc _)) (by omega) ?_; intro v1 w2 OW2 KW2)
  obtain ⟨a', c', hv1, hS2⟩ := own_sv OW2.out rfl (fun i hi => HX.out.ok i hi)
  have hc1 := hS2.cap
  have hc2 := hS2.max
  have HK2 : Hid (Kept No w w2) := ((Kept.refl No w).alloc _).trans KW2.out (fun k e => .inr (own0 e))
  have HO2 : Hid (∀ k, v1.ownBlock = some k → w.heap.size ≤ k ∧ k < w2.heap.size) := fun k hk => OW2.out.lt k hk
  subst hv1
  have a1 := able_any w2 (HG.out.kept HK2.out) hS2
  clear hS2 KW2
  go_upto_region 3 with (go_at_call 9; refine a1.mono ?_; rintro e w3 ⟨P1, H1, rfl, hp1, hk3⟩; have H3 : Hid ((P1 = none ∨ ∃ d, P1 = some ⟨d, 0, none⟩ ∧ Vd xs ∧ Dn w3 d (fun k => w2.heap.size ≤ k ∧ k < w3.heap.size) xs 0) ∧ Kept No w2 w3 ∧ Kept No w w3) := ⟨hp1, hk3, HK2.out.trans hk3 (fun _ h => h.elim)⟩; clear hp1 hk3 a1)
  have a2 := able_any w3 (HG.out.kept H3.out.2.2) (HY.out.keep H3.out.2.2)
  go_upto_region 4 with (go_at_call 9; refine a2.mono ?_; rintro e w4 ⟨P2, H2, rfl, hp2, hk4⟩; have H4 : Hid ((P2 = none ∨ ∃ d, P2 = some ⟨d, 0, none⟩ ∧ Vd ys ∧ Dn w4 d (fun k => w3.heap.size ≤ k ∧ k < w4.heap.size) ys 0) ∧ Kept No w3 w4 ∧ Kept No w w4) := ⟨hp2, hk4, H3.out.2.2.trans hk4 (fun _ h => h.elim)⟩; clear hp2 hk4 a2)
  have a3 := able_any w4 (HG.out.kept H4.out.2.2) (HX.out.keep H4.out.2.2)
  go_upto_region 5 with (go_at_call 9; refine a3.mono ?_; rintro e w5 ⟨P3, H5, rfl, hp3, hk5⟩; have H5' : Hid ((P3 = none ∨ ∃ d, P3 = some ⟨d, 0, none⟩ ∧ Vd xs ∧ Dn w5 d (fun k => w4.heap.size ≤ k ∧ k < w5.heap.size) xs 0) ∧ Kept No w4 w5 ∧ Kept No w w5) := ⟨hp3, hk5, H4.out.2.2.trans hk5 (fun _ h => h.elim)⟩; clear hp3 hk5 a3)
  have HT : Hid (Tmk w w2 w5 P1 P2 P3 xs ys) := three_mk HK2.out H3.out.2.1 H4.out.2.1 H5'.out.2.1 H3.out.1 H4.out.1 H5'.out.1
  have kn := known_any w5 (HG.out.kept H5'.out.2.2)
  have OW5 : Hid (w5.ownsRow w.heap.size 36 4 (.slice a' xs.length c') xs.length (fl xs)) := own_over (own_over (own_over OW2.out H3.out.2.1 (fun _ _ h => h)) H4.out.2.1 (fun _ _ h => h)) H5'.out.2.1 (fun _ _ h => h)
  have HW5 : Hid (Kept No w w5) := H5'.out.2.2
  clear H3 H4 H5' OW2
  go_wp2_with (go_at_call 10; refine kn.mono ?_; rintro e w6 ⟨rfl, hk6⟩; have H6 : Hid (w6.ownsRow w.heap.size 36 4 (.slice a' xs.length c') xs.length (fl xs) ∧ Kept No w5 w6) := ⟨own_over OW5.out hk6 (fun _ _ h => h), hk6⟩; clear hk6 kn OW5)
  have HW6 : Hid (Kept No w w6) := HW5.out.trans H6.out.2 (fun _ h => h.elim)
  go_loopw [17] (fun x wr => ∃ k : Nat, k ≤ xs.length ∧ x = .int .i64 k ∧ (∃ L, wr.ownsRow w.heap.size 36 4 (.slice a' xs.length c') xs.length L) ∧ Kept (fun k => (Value.slice a' xs.length c').ownBlock = some k) w6 wr) (fun x _ => xs.length - (intOf x).toNat)
  case atStart => exact ⟨0, Nat.zero_le _, rfl, ⟨_, H6.out.1⟩, Kept.refl _ _⟩
  case round =>
    obtain ⟨k, hk, rfl, ⟨L, hown⟩, hkr⟩ := hrel
    have HR : Hid (wr.ownsRow w.heap.size 36 4 (.slice a' xs.length c') xs.length L ∧ Kept (fun k => (Value.slice a' xs.length c').ownBlock = some k) w6 wr) := ⟨hown, hkr⟩
    clear hown hkr
    by_cases hlt : k < xs.length
    · obtain ⟨g, hg⟩ : ∃ g, a' = some ⟨g, 0, none⟩ := by
        rcases HR.out.1.2 with ⟨h1, h2⟩ | ⟨g, cap, cur, h1, _⟩
        · omega
        · injection h1 with h1
          exact ⟨g, h1⟩
      subst hg
      have hl : L.length = xs.length * 4 := HR.out.1.1
      obtain ⟨y0, e0⟩ : ∃ y, wr.cell? ⟨g, k * 4, none⟩ = some y := by rw [HR.out.1.cellAt (k * 4) (by omega)]; exact ⟨_, List.getElem?_eq_getElem (by omega)⟩
      obtain ⟨y1, e1⟩ : ∃ y, wr.cell? ⟨g, k * 4 + 1, none⟩ = some y := by rw [HR.out.1.cellAt (k * 4 + 1) (by omega)]; exact ⟨_, List.getElem?_eq_getElem (by omega)⟩
      obtain ⟨y2, e2⟩ : ∃ y, wr.cell? ⟨g, k * 4 + 2, none⟩ = some y := by rw [HR.out.1.cellAt (k * 4 + 2) (by omega)]; exact ⟨_, List.getElem?_eq_getElem (by omega)⟩
      obtain ⟨y3, e3⟩ : ∃ y, wr.cell? ⟨g, k * 4 + 3, none⟩ = some y := by rw [HR.out.1.cellAt (k * 4 + 3) (by omega)]; exact ⟨_, List.getElem?_eq_getElem (by omega)⟩
      have z0 := HR.out.1.frozenAt (k * 4)
      have z1 := HR.out.1.frozenAt (k * 4 + 1)
      have z2 := HR.out.1.frozenAt (k * 4 + 2)
      have z3 := HR.out.1.frozenAt (k * 4 + 3)
      have s0 := HR.out.1.stored (k * 4) (.int .i64 0)
      have s1 := s0.1.stored (k * 4 + 1) (.int .i64 0)
      have s2 := s1.1.stored (k * 4 + 2) (.int .i64 0)
      have s3 := s2.1.stored (k * 4 + 3) (.int .i64 0)
      have HS : Hid ((∃ L, ((((wr.setCell ⟨g, k * 4, none⟩ (.int .i64 0)).setCell ⟨g, k * 4 + 1, none⟩ (.int .i64 0)).setCell ⟨g, k * 4 + 2, none⟩ (.int .i64 0)).setCell ⟨g, k * 4 + 3, none⟩ (.int .i64 0)).ownsRow w.heap.size 36 4 (.slice (some ⟨g, 0, none⟩) xs.length c') xs.length L) ∧ Kept (fun k => (Value.slice (some ⟨g, 0, none⟩) xs.length c').ownBlock = some k) w6 ((((wr.setCell ⟨g, k * 4, none⟩ (.int .i64 0)).setCell ⟨g, k * 4 + 1, none⟩ (.int .i64 0)).setCell ⟨g, k * 4 + 2, none⟩ (.int .i64 0)).setCell ⟨g, k * 4 + 3, none⟩ (.int .i64 0))) :=
        ⟨⟨_, s3.1⟩, (((HR.out.2.grown s0.2 (fun j e => .inl e)).grown s1.2 (fun j e => .inl e)).grown s2.2 (fun j e => .inl e)).grown s3.2 (fun j e => .inl e)⟩
      clear s0 s1 s2 s3 hl
      go_wp2
      go_roundw
      case rel => exact ⟨k + 1, by omega, by go_num, HS.out.1, HS.out.2⟩
      case measure => simp [intOf]; omega
    · have hke : k = xs.length := by omega
      subst hke
      have H7 : Hid (Three w wr P1 P2 P3 xs ys ∧ Kept No w wr) := ⟨three_over HK2.out.size HT.out H6.out.2 HR.out.2 (fun k e => HO2.out k e), HW6.out.trans HR.out.2 (fun k e => .inr (HO2.out k e).1)⟩
      clear HR H6 HT HK2 HW6 HW5 HO2
      cases P1 with
      | none =>
        go_wp2
        go_ret
        exact ⟨rfl, H7.out.2.below0⟩
      | some ad1 =>
        cases P2 with
        | none =>
          go_wp2
          go_ret
          exact ⟨rfl, H7.out.2.below0⟩
        | some ad2 =>
          cases P3 with
          | none =>
            go_wp2
            go_ret
            exact ⟨rfl, H7.out.2.below0⟩
          | some ad3 =>
            obtain ⟨d1, d2, d3, e1, e2, e3⟩ : ∃ d1 d2 d3, ad1 = ⟨d1, 0, none⟩ ∧ ad2 = ⟨d2, 0, none⟩ ∧ ad3 = ⟨d3, 0, none⟩ := by
              rcases H7.out.1.ptr with h | ⟨d1, d2, d3, h1, h2, h3⟩
              · rcases h with h | h | h <;> cases h
              · injection h1 with h1; injection h2 with h2; injection h3 with h3
                exact ⟨d1, d2, d3, h1, h2, h3⟩
            subst e1 e2 e3
            obtain ⟨hvx, hvy, hT⟩ := H7.out.1.k
            have HVX : Hid (Vd xs) := hvx
            have HVY : Hid (Vd ys) := hvy
            have hn := hvx.num
            have H8 : Hid (Tri w wr wr.heap.size d1 d2 d3 xs ys 0 0 0) := hT
            clear hvx hvy hT H7
            go_wp2
            go_loopw [18] (fun x w8 => ∃ t s k m : Nat, t < 1099511627776 ∧ k ≤ sn ∧ x = .int .i64 k ∧ Tri w w8 m d1 d2 d3 xs ys t s t) (fun x _ => sn - (intOf x).toNat)
            case atStart => exact ⟨0, 0, 0, _, by omega, Nat.zero_le _, rfl, H8.out⟩
            case round =>
              obtain ⟨t, s, k, m, htM, hk2, rfl, hT⟩ := hrel
              have HT : Hid (Tri w wr m d1 d2 d3 xs ys t s t ∧ t < 1099511627776) := ⟨hT, htM⟩
              clear hT H8 htM hk hlt
              by_cases hgo : k < sn ∧ k < 200
              · obtain ⟨hg1, hg2⟩ := hgo
                have hg3 : (k : Int) < 200 := by omega
                obtain ⟨j, ej⟩ : ∃ j : Nat, (sn : Int) - 1 - (k : Int) = (j : Int) := ⟨sn - 1 - k, by omega⟩
                have hj : j < sn := by omega
                have hji : (j : Int) < (sn : Int) := by omega
                obtain ⟨x, hx⟩ : ∃ x, ss[k]? = some x := ⟨_, List.getElem?_eq_getElem (by rw [HI.out.len]; exact hg1)⟩
                obtain ⟨y, hy⟩ : ∃ y, ss[j]? = some y := ⟨_, List.getElem?_eq_getElem (by rw [HI.out.len]; exact hj)⟩
                obtain ⟨g, o, rfl, _, hc⟩ := HI.out.at' k x hx
                obtain ⟨g', o', he, _, hc'⟩ := HI.out.at' j y hy
                injection he with he; injection he with he1 he2; subst he1 he2
                have HC : Hid (∀ w', Kept No w w' → w'.cell? ⟨g, o + k, none⟩ = some (.int .i64 x)) := fun w' hk => hk.cell hc (fun h => h)
                have HD : Hid (∀ w', Kept No w w' → w'.cell? ⟨g, o + j, none⟩ = some (.int .i64 y)) := fun w' hk => hk.cell hc' (fun h => h)
                clear hc hc' hx hy
                have c1 := HC.out wr HT.out.1.k
                have ad := HT.out.1.adv1 HVX.out x
                have HE : Hid (adT t x < 1099511627776) := adT_lt HT.out.2
                obtain ⟨E, hE⟩ : ∃ E, adE t x = E := ⟨_, rfl⟩
                obtain ⟨T, hT⟩ : ∃ T, adT t x = T := ⟨_, rfl⟩
                rw [hE, hT] at ad
                have HET : Hid (adE t x = E ∧ adT t x = T ∧ T < 1099511627776) := ⟨hE, hT, by rw [← hT]; exact HE.out⟩
                clear hE hT HE
                go_upto_region 17 with (go_at_call 11; refine ad.mono ?_; rintro e w9 ⟨rfl, h9⟩; have H9 : Hid (Tri w w9 w9.heap.size d1 d2 d3 xs ys T s t) := h9; clear h9 ad)
                clear c1
                have c1 := HD.out w9 H9.out.k
                have ad := H9.out.adv2 HVY.out y
                generalize adE s y = E2 at *
                generalize adT s y = T2 at *
                go_upto_region 18 with (go_at_call 11; refine ad.mono ?_; rintro e w10 ⟨rfl, h10⟩; have H10 : Hid (Tri w w10 w10.heap.size d1 d2 d3 xs ys T T2 t) := h10; clear h10 ad)
                clear c1 ej hji
                have c1 := HC.out w10 H10.out.k
                have ad := H10.out.adv3 HVX.out x
                rw [HET.out.1, HET.out.2.1] at ad
                go_upto_region 19 with (go_at_call 11; refine ad.mono ?_; rintro e w11 ⟨rfl, h11⟩; have H11 : Hid (Tri w w11 w11.heap.size d1 d2 d3 xs ys T T2 T) := h11; clear h11 ad)
                clear c1
                obtain ⟨Ra, hra⟩ := H11.out.a
                have r1 := rests_own HVX.out hra
                clear hra
                go_upto_region 20 with (go_at_call 14; refine r1.mono ?_; rintro e w12 ⟨g1, cg1, rfl, hg11, hg12, _, _, ct1, ⟨L1, ow1⟩, hk12⟩; have H12 : Hid (Tri w w12 w11.heap.size d1 d2 d3 xs ys T T2 T ∧ w11.heap.size ≤ g1 ∧ Ct w12 g1 xs.length (fun i => (Rule.rest (sys xs) T i : Int)) ∧ w12.ownsRow w11.heap.size 3 1 (.slice (some ⟨g1, 0, none⟩) xs.length cg1) xs.length L1) := ⟨H11.out.keep hk12, hg11, ct1, ow1⟩; clear ct1 ow1 hk12 r1 hg11 hg12)
                obtain ⟨O, hO⟩ : ∃ O, Rule.occ (sys xs) T = O := ⟨_, rfl⟩
                obtain ⟨U, hU⟩ : ∃ U, Rule.until' (sys xs) T = U := ⟨_, rfl⟩
                have HOU : Hid (Rule.occ (sys xs) T = O ∧ Rule.until' (sys xs) T = U) := ⟨hO, hU⟩
                clear hO hU
                obtain ⟨Rb, hrb⟩ := H12.out.1.c
                have r2 := rests_dn HVX.out hrb
                clear hrb
                go_wp2_with (first
                  | (go_at_call 14; refine r2.mono ?_; rintro e w13 ⟨g2, cg2, rfl, _, _, _, ct2, hk13⟩; have H13 : Hid (Tri w w13 w11.heap.size d1 d2 d3 xs ys T T2 T ∧ w13.ownsRow w11.heap.size 3 1 (.slice (some ⟨g1, 0, none⟩) xs.length cg1) xs.length L1) := ⟨H12.out.1.keep hk13, own_over H12.out.2.2.2 hk13 (fun _ _ h => h)⟩; have sm := sameInts_yes (c := cg1) (c' := cg2) w13 (H12.out.2.2.1.keep hk13) ct2 hn; clear ct2 hk13 r2)
                  | (go_at_call 13; refine sm.mono ?_; rintro e w14 ⟨rfl, hk14⟩; have H14 : Hid (Tri w w14 w11.heap.size d1 d2 d3 xs ys T T2 T ∧ w14.ownsRow w11.heap.size 3 1 (.slice (some ⟨g1, 0, none⟩) xs.length cg1) xs.length L1) := ⟨H13.out.1.keep hk14, own_over H13.out.2 hk14 (fun _ _ h => h)⟩; obtain ⟨Rc, hrc⟩ := H14.out.1.a; have o1 := occ_dn HVX.out hrc; rw [HOU.out.1] at o1; clear hk14 hrc sm)
                  | (go_at_call 15; refine o1.mono ?_; rintro e w15 ⟨rfl, hk15⟩; have H15 : Hid (Tri w w15 w11.heap.size d1 d2 d3 xs ys T T2 T ∧ w15.ownsRow w11.heap.size 3 1 (.slice (some ⟨g1, 0, none⟩) xs.length cg1) xs.length L1) := ⟨H14.out.1.keep hk15, own_over H14.out.2 hk15 (fun _ _ h => h)⟩; obtain ⟨Rd, hrd⟩ := H15.out.1.c; have o2 := occ_dn HVX.out hrd; rw [HOU.out.1] at o2; clear hk15 hrd o1)
                  | (go_at_call 15; refine o2.mono ?_; rintro e w16 ⟨rfl, hk16⟩; have H16 : Hid (Tri w w16 w11.heap.size d1 d2 d3 xs ys T T2 T ∧ w16.ownsRow w11.heap.size 3 1 (.slice (some ⟨g1, 0, none⟩) xs.length cg1) xs.length L1) := ⟨H15.out.1.keep hk16, own_over H15.out.2 hk16 (fun _ _ h => h)⟩; obtain ⟨Re, hre⟩ := H16.out.1.a; have u1 := until_dn HVX.out hre HET.out.2.2; rw [HOU.out.2] at u1; clear hk16 hre o2)
                  | (go_at_call 16; refine u1.mono ?_; rintro e w17 ⟨rfl, hk17⟩; have H17 : Hid (Tri w w17 w11.heap.size d1 d2 d3 xs ys T T2 T ∧ w17.ownsRow w11.heap.size 3 1 (.slice (some ⟨g1, 0, none⟩) xs.length cg1) xs.length L1) := ⟨H16.out.1.keep hk17, own_over H16.out.2 hk17 (fun _ _ h => h)⟩; obtain ⟨Rf, hrf⟩ := H17.out.1.c; have u2 := until_dn HVX.out hrf HET.out.2.2; rw [HOU.out.2] at u2; clear hk17 hrf u1)
                  | (go_at_call 16; refine u2.mono ?_; rintro e w18 ⟨rfl, hk18⟩; have H18 : Hid (Tri w w18 w11.heap.size d1 d2 d3 xs ys T T2 T ∧ w18.ownsRow w11.heap.size 3 1 (.slice (some ⟨g1, 0, none⟩) xs.length cg1) xs.length L1) := ⟨H17.out.1.keep hk18, own_over H17.out.2 hk18 (fun _ _ h => h)⟩; obtain ⟨Rg, hrg⟩ := H18.out.1.a; have n1 := now_dn hrg; clear hk18 hrg u2)
                  | (go_at_call 12; refine n1.mono ?_; rintro e w19 ⟨rfl, hk19⟩; have H19 : Hid (Tri w w19 w11.heap.size d1 d2 d3 xs ys T T2 T ∧ w19.ownsRow w11.heap.size 3 1 (.slice (some ⟨g1, 0, none⟩) xs.length cg1) xs.length L1) := ⟨H18.out.1.keep hk19, own_over H18.out.2 hk19 (fun _ _ h => h)⟩; obtain ⟨Rh, hrh⟩ := H19.out.1.c; have n2 := now_dn hrh; clear hk19 hrh n1)
                  | (go_at_call 12; refine n2.mono ?_; rintro e w20 ⟨rfl, hk20⟩; have H20 : Hid (Tri w w20 w11.heap.size d1 d2 d3 xs ys T T2 T ∧ w20.ownsRow w11.heap.size 3 1 (.slice (some ⟨g1, 0, none⟩) xs.length cg1) xs.length L1) := ⟨H19.out.1.keep hk20, own_over H19.out.2 hk20 (fun _ _ h => h)⟩; have sp := spoilt_any w20 H20.out.2 hn H20.out.1.le; clear hk20 n2)
                  | (go_at_call 17; refine sp.mono ?_; rintro e w21 ⟨rfl, hk21⟩; have H21 : Hid (Tri w w21 w11.heap.size d1 d2 d3 xs ys T T2 T) := H20.out.1.over hk21 (fun k e => by have := H12.out.2.1; omega); clear hk21 sp))
                go_roundw
                case rel => exact ⟨T, T2, k + 1, _, HET.out.2.2, by omega, by go_num, H21.out⟩
                case measure => simp [intOf]; omega
              · by_cases hge : k < sn
                · have hg3 : ¬ (k : Int) < 200 := by omega
                  clear hgo
                  go_wp2
                  go_ret
                  exact ⟨rfl, HT.out.1.k.below0⟩
                · clear hgo hk2
                  go_wp2
                  go_ret
                  exact ⟨rfl, HT.out.1.k.below0⟩
end Go.Proofs.YtffgcijicmfmlaaGreatDoor

namespace Go.Proofs.YtffgcijicmfmlaaGreatDoor
open Go.RowKit Plain
set_option linter.unusedVariables false
set_option maxRecDepth 100000

/-- the document's dispatcher, as a value; its lists lie in R -/
def Xd (w : World) (R : Nat → Prop) (xs : List Srv) (t : Nat) (x : Value) : Prop :=
  ∃ a c la lc F, x = .agg #[.slice a xs.length c, .int .i64 (hyp xs : Int), .int .i64 t, .slice la xs.length lc] ∧ Sv w F a xs.length c xs ∧ (∀ k, F k → R k) ∧ Rd0 w (.slice la xs.length lc) xs.length (fun i => (Rule.rest (sys xs) t i : Int)) ∧ (∀ k, (Value.slice la xs.length lc).ownBlock = some k → R k)
theorem Sv.over {w w' : World} {F G : Nat → Prop} {a : Option Addr} {n c : Nat} {xs : List Srv} (h : Sv w F a n c xs) (hk : Kept G w w') (hG : ∀ k, F k → ¬ G k) : Sv w' F a n c xs :=
  ⟨h.len, h.cap, h.max, h.nil, fun i x hx => by
    obtain ⟨ok, b, o, e, hb, c0, c1, c2, c3⟩ := h.at' i x hx
    exact ⟨ok, b, o, e, hb, hk.cell c0 (hG b hb), hk.cell c1 (hG b hb), hk.cell c2 (hG b hb), hk.cell c3 (hG b hb)⟩⟩
theorem Rd0.over {w w' : World} {G : Nat → Prop} {v : Value} {n : Nat} {f : Nat → Int} (h : Rd0 w v n f) (hk : Kept G w w') (hG : ∀ k, v.ownBlock = some k → ¬ G k) : Rd0 w' v n f := by
  rcases h with h | ⟨g, c, rfl, h2, h3, h4⟩
  · exact .inl h
  · exact .inr ⟨g, c, rfl, h2, h3, h4.over hk (hG g rfl)⟩
theorem Xd.over {w w' : World} {R G : Nat → Prop} {xs : List Srv} {t : Nat} {x : Value} (h : Xd w R xs t x) (hk : Kept G w w') (hG : ∀ k, R k → ¬ G k) : Xd w' R xs t x := by
  obtain ⟨a, c, la, lc, F, h1, h2, h3, h4, h5⟩ := h
  exact ⟨a, c, la, lc, F, h1, h2.over hk (fun k q => hG k (h3 k q)), h3, h4.over hk (fun k q => hG k (h5 k q)), h5⟩
theorem Xd.keep {w w' : World} {R : Nat → Prop} {xs : List Srv} {t : Nat} {x : Value} (h : Xd w R xs t x) (hk : Kept No w w') : Xd w' R xs t x := h.over hk (fun _ _ h => h)
theorem Xd.mono {w : World} {R Q : Nat → Prop} {xs : List Srv} {t : Nat} {x : Value} (h : Xd w R xs t x) (hq : ∀ k, R k → Q k) : Xd w Q xs t x := by
  obtain ⟨a, c, la, lc, F, h1, h2, h3, h4, h5⟩ := h
  exact ⟨a, c, la, lc, F, h1, h2, fun k q => hq k (h3 k q), h4, fun k q => hq k (h5 k q)⟩
theorem Xd.mem {w : World} {R : Nat → Prop} {xs : List Srv} {t : Nat} {x : Value} (h : Xd w R xs t x) : Xd w (fun k => R k ∧ k < w.heap.size) xs t x := by
  obtain ⟨a, c, la, lc, F, h1, h2, h3, h4, h5⟩ := h
  refine ⟨a, c, la, lc, fun k => F k ∧ k < w.heap.size, h1, ⟨h2.len, h2.cap, h2.max, h2.nil, fun i x hx => ?_⟩, fun k q => ⟨h3 k q.1, q.2⟩, h4, fun k q => ⟨h5 k q, ?_⟩⟩
  · obtain ⟨ok, b, o, e, hb, c0, r⟩ := h2.at' i x hx
    exact ⟨ok, b, o, e, ⟨hb, cell_lt c0⟩, c0, r⟩
  · rcases h4 with ⟨e, _⟩ | ⟨g, c, e, _, _, hc⟩
    · rw [e] at q; cases q
    · rw [e] at q; injection q with q; rw [← q]; exact hc.lt

theorem heap_setCell_eqD {w : World} {q k : Nat} {cs : Array Value} {e : TypeId} (h : w.heap[q]? = some (.cells cs e)) (x : Value) : (w.setCell ⟨q, k, none⟩ x).heap[q]? = some (.cells (cs.setIfInBounds k x) e) := heap_setCell_same w q k cs e x h
theorem set4' {w : World} {q : Nat} {a b c d : Value} {e : TypeId} (h : w.heap[q]? = some (.cells #[a, b, c, d] e)) (x y z u : Value) : ((((w.setCell ⟨q, 0, none⟩ x).setCell ⟨q, 1, none⟩ y).setCell ⟨q, 2, none⟩ z).setCell ⟨q, 3, none⟩ u).heap[q]? = some (.cells #[x, y, z, u] e) := by
  rw [heap_setCell_eqD (heap_setCell_eqD (heap_setCell_eqD (heap_setCell_eqD h _) _) _) _]
  rfl
theorem ldD {w : World} {q : Nat} {a b c d : Value} (h : w.heap[q]? = some (.cells #[a, b, c, d] 43)) : (loadVar 43 ⟨q, 0, none⟩).run Tryz.prog w = .ok (.agg #[a, b, c, d]) w :=
  run_loadVar_row (P := Tryz.prog) w q 43 43 _ (0, 0) _ h Tryz.underlying43 rfl (by kernel_rfl)
theorem set4_keptF {q : Nat} (w : World) (x y z u : Value) : Kept (fun k => k = q) w ((((w.setCell ⟨q, 0, none⟩ x).setCell ⟨q, 1, none⟩ y).setCell ⟨q, 2, none⟩ z).setCell ⟨q, 3, none⟩ u) :=
  Kept.setCell (F := fun k => k = q) (p := ⟨q, 3, none⟩) (Kept.setCell (F := fun k => k = q) (p := ⟨q, 2, none⟩) (Kept.setCell (F := fun k => k = q) (p := ⟨q, 1, none⟩) (Kept.setCell (F := fun k => k = q) (p := ⟨q, 0, none⟩) (Kept.refl _ w) (.inl rfl) _) (.inl rfl) _) (.inl rfl) _) (.inl rfl) _
theorem set4_kept {F : Nat → Prop} {w0 w : World} {q : Nat} (k : Kept F w0 w) (hq : w0.heap.size ≤ q) (x y z u : Value) : Kept F w0 ((((w.setCell ⟨q, 0, none⟩ x).setCell ⟨q, 1, none⟩ y).setCell ⟨q, 2, none⟩ z).setCell ⟨q, 3, none⟩ u) :=
  Kept.setCell (p := ⟨q, 3, none⟩) (Kept.setCell (p := ⟨q, 2, none⟩) (Kept.setCell (p := ⟨q, 1, none⟩) (Kept.setCell (p := ⟨q, 0, none⟩) k (.inr hq) _) (.inr hq) _) (.inr hq) _) (.inr hq) _

set_option maxHeartbeats 4000000 in
theorem rnew_no {F : Nat → Prop} {a : Option Addr} {c : Nat} {xs : List Srv} {p : Int × Int} (w : World) (h : Sv w F a xs.length c xs) (ht : timF xs xs.length = some p) :
    Calls Tryz.prog 21 #[.slice a xs.length c] w fun e w' => e = .returned (.tuple #[.agg #[.slice none 0 0, .int .i64 0, .int .i64 0, .slice none 0 0], .int .i64 p.1]) ∧ Kept No w w' := by
  have hp := tim_neD ht
  have HH : Hid (∀ W, Kept No w W → Calls Tryz.prog 34 #[.slice a xs.length c] W fun e w' => e = .returned (.tuple #[.int .i64 0, .int .i64 p.1]) ∧ Kept No W w') := fun W hk => by
    have := rHyper_any F a xs.length c xs W (h.keep hk)
    rw [(tim_no ht).1, (tim_no ht).2] at this
    exact this
  generalize p.1 = pe at *
  clear h ht
  have hb : (pe != 0) = true := bne_iff_ne.2 hp
  go_enter Tryz.func21, Tryz.ntmps21
  go_upto_region 1 with fail
  have hc := HH.out _ ((Kept.refl No w).alloc (.cells #[.slice none 0 0, .int .i64 0, .int .i64 0, .slice none 0 0] 43))
  have b2 := World.alloc_heap_new w (.cells #[.slice none 0 0, .int .i64 0, .int .i64 0, .slice none 0 0] 43)
  have HK2 : Hid (Kept No w (w.alloc (.cells #[.slice none 0 0, .int .i64 0, .int .i64 0, .slice none 0 0] 43))) := (Kept.refl No w).alloc _
  generalize w.alloc (.cells #[.slice none 0 0, .int .i64 0, .int .i64 0, .slice none 0 0] 43) = w2 at *
  generalize hz : w.heap.size = z at *
  have HZ : Hid (w.heap.size = z ∧ w2.heap[z]? = some (.cells #[.slice none 0 0, .int .i64 0, .int .i64 0, .slice none 0 0] 43)) := ⟨hz, b2⟩
  clear hz b2
  go_upto_region 2 with (go_at_call 34; refine hc.mono ?_; rintro e w3 ⟨rfl, hk3⟩; have H3 : Hid (Kept No w2 w3) := hk3; clear hk3 hc)
  have b3 := H3.out.at' HZ.out.2 (fun h => h)
  have y0 : w3.cell? ⟨z, 0, none⟩ = some (.slice none 0 0) := by simp only [World.cell?, b3]; rfl
  have y1 : w3.cell? ⟨z, 1, none⟩ = some (.int .i64 0) := by simp only [World.cell?, b3]; rfl
  have y2 : w3.cell? ⟨z, 2, none⟩ = some (.int .i64 0) := by simp only [World.cell?, b3]; rfl
  have y3 : w3.cell? ⟨z, 3, none⟩ = some (.slice none 0 0) := by simp only [World.cell?, b3]; rfl
  have z0 : w3.frozen? ⟨z, 0, none⟩ = false := by simp [World.frozen?, b3]
  have z1 : w3.frozen? ⟨z, 1, none⟩ = false := by simp [World.frozen?, b3]
  have z2 : w3.frozen? ⟨z, 2, none⟩ = false := by simp [World.frozen?, b3]
  have z3 : w3.frozen? ⟨z, 3, none⟩ = false := by simp [World.frozen?, b3]
  have HB3 : Hid (w3.heap[z]? = some (.cells #[.slice none 0 0, .int .i64 0, .int .i64 0, .slice none 0 0] 43) ∧ Kept No w w3 ∧ w.heap.size = z) := ⟨b3, HK2.out.trans H3.out (fun _ h => h.elim), HZ.out.1⟩
  clear b3
  go_wp2
  have hld := ldD (set4' HB3.out.1 (.slice none 0 0) (.int .i64 0) (.int .i64 0) (.slice none 0 0))
  refine bodyPost_ret (v := .tuple #[.agg #[.slice none 0 0, .int .i64 0, .int .i64 0, .slice none 0 0], .int .i64 pe]) ?_ rfl ⟨rfl, set4_kept HB3.out.2.1 (by rw [HB3.out.2.2]; exact Nat.le_refl _) _ _ _ _⟩
  rw [results_cell_tmp rfl]
  simp [asAddr, Result.andThen, hld]

set_option maxHeartbeats 4000000 in
theorem rnew_yes {F : Nat → Prop} {a : Option Addr} {c : Nat} {xs : List Srv} (w : World) (h : Sv w F a xs.length c xs) (ht : timF xs xs.length = none) :
    Calls Tryz.prog 21 #[.slice a xs.length c] w fun e w' => ∃ x, e = .returned (.tuple #[x, .int .i64 0]) ∧ Xd w' (fun k => w.heap.size ≤ k) xs 0 x ∧ Kept No w w' := by
  have hv := vd_of ht
  have hn := hv.num
  have HV : Hid (Vd xs) := hv
  have HS : Hid (Sv w F a xs.length c xs) := h
  have HH : Hid (∀ W, Kept No w W → Calls Tryz.prog 34 #[.slice a xs.length c] W fun e w' => e = .returned (.tuple #[.int .i64 (hyp xs : Int), .int .i64 0]) ∧ Kept No W w') := fun W hk => by
    have := rHyper_any F a xs.length c xs W (h.keep hk)
    rw [(tim_yes ht).1, (tim_yes ht).2] at this
    exact this
  have HX : Hid (∀ w' a c la lc F, Sv w' F a xs.length c xs → (∀ k, F k → w.heap.size ≤ k) → Rd0 w' (.slice la xs.length lc) xs.length (fun i => (Rule.rest (sys xs) 0 i : Int)) → (∀ k, (Value.slice la xs.length lc).ownBlock = some k → w.heap.size ≤ k) → Xd w' (fun k => w.heap.size ≤ k) xs 0 (.agg #[.slice a xs.length c, .int .i64 (hyp xs : Int), .int .i64 0, .slice la xs.length lc])) := fun w' a c la lc F h1 h2 h3 h4 => ⟨a, c, la, lc, F, rfl, h1, h2, h3, h4⟩
  generalize hyp xs = H at *
  clear h ht hv
  go_enter Tryz.func21, Tryz.ntmps21
  go_upto_region 1 with fail
  have hc := HH.out _ ((Kept.refl No w).alloc (.cells #[.slice none 0 0, .int .i64 0, .int .i64 0, .slice none 0 0] 43))
  have b2 := World.alloc_heap_new w (.cells #[.slice none 0 0, .int .i64 0, .int .i64 0, .slice none 0 0] 43)
  have HK2 : Hid (Kept No w (w.alloc (.cells #[.slice none 0 0, .int .i64 0, .int .i64 0, .slice none 0 0] 43))) := (Kept.refl No w).alloc _
  generalize w.alloc (.cells #[.slice none 0 0, .int .i64 0, .int .i64 0, .slice none 0 0] 43) = w2 at *
  generalize hz : w.heap.size = z at *
  have HZ : Hid (w.heap.size = z ∧ w2.heap[z]? = some (.cells #[.slice none 0 0, .int .i64 0, .int .i64 0, .slice none 0 0] 43)) := ⟨hz, b2⟩
  clear hz b2
  go_upto_region 2 with (go_at_call 34; refine hc.mono ?_; rintro e w3 ⟨rfl, hk3⟩; have H3 : Hid (Kept No w2 w3) := hk3; clear hk3 hc)
  have HS3 : Hid (Sv w3 F a xs.length c xs) := (HS.out.keep HK2.out).keep H3.out
  go_upto_region 5 with fail
  have bg : ∀ W, Kept No w3 W → Calls Tryz.prog 35 #[.slice a xs.length c] W fun e w' => ∃ v', e = .returned v' ∧ Ri w' W.heap.size v' xs.length (fun i => (Rule.rest (sys xs) 0 i : Int)) ∧ Kept No W w' := fun W hk => rbegin_any HV.out W (HS3.out.keep hk)
  have HBG : Hid (∀ W, Kept No w3 W → Calls Tryz.prog 35 #[.slice a xs.length c] W fun e w' => ∃ v', e = .returned v' ∧ Ri w' W.heap.size v' xs.length (fun i => (Rule.rest (sys xs) 0 i : Int)) ∧ Kept No W w') := bg
  clear bg
  go_wp2_with (first
    | (at_builtin; refine wpList_cps rfl _ _ rfl w3.heap.size _ rfl (World.ownsRow_nil _ _ _ _) (Nat.le_refl _) a xs.length c rfl F xs HS3.out (by omega) ?_; intro v1 w4 OW4 KW4; obtain ⟨a1, c1, hv1, hS4⟩ := own_sv OW4.out rfl (fun i hi => HS3.out.ok i hi); subst hv1; have HS4 : Hid (Sv w4 (fun g => (Value.slice a1 xs.length c1).ownBlock = some g) a1 xs.length c1 xs) := hS4; clear hS4; have HK4 : Hid (Kept No w3 w4) := KW4.out.mono (fun k e => by cases e); have bg := HBG.out w4 HK4.out; clear KW4)
    | (go_at_call 35; refine bg.mono ?_; rintro e w5 ⟨v5, rfl, r5, hk5⟩; obtain ⟨la, lc, hv5⟩ := r5.rd.form; subst hv5; have H5 : Hid (Kept No w4 w5 ∧ Ri w5 w4.heap.size (.slice la xs.length lc) xs.length (fun i => (Rule.rest (sys xs) 0 i : Int))) := ⟨hk5, r5⟩; clear r5 hk5 bg; have b5 := H5.out.1.at' (HK4.out.at' (H3.out.at' HZ.out.2 (fun h => h)) (fun h => h)) (fun h => h); have y0 := cell_of_row (k := 0) (v := .slice none 0 0) b5 rfl; have y1 := cell_of_row (k := 1) (v := .int .i64 0) b5 rfl; have y2 := cell_of_row (k := 2) (v := .int .i64 0) b5 rfl; have y3 := cell_of_row (k := 3) (v := .slice none 0 0) b5 rfl; have z0 : ∀ k, w5.frozen? ⟨z, k, none⟩ = false := fun k => by simp [World.frozen?, b5]))
  have hs3 := (HK2.out.trans H3.out (fun _ h => h.elim)).size
  have hs4 := HK4.out.size
  have hld := ldD (set4' b5 (.slice a1 xs.length c1) (.int .i64 (H : Int)) (.int .i64 0) (.slice la xs.length lc))
  have hz2 : z < w2.heap.size := heap_lt HZ.out.2
  have hs3' := H3.out.size
  have kf := set4_keptF (q := z) w5 (.slice a1 xs.length c1) (.int .i64 (H : Int)) (.int .i64 0) (.slice la xs.length lc)
  have hX := HX.out _ a1 c1 la lc _ ((HS4.out.keep H5.out.1).over kf (fun k e e2 => by have := (OW4.out.lt k e).1; omega)) (fun k e => by have := (OW4.out.lt k e).1; omega) (H5.out.2.rd.over kf (fun k e e2 => by have := (World.ownsRow.lt H5.out.2 k e).1; omega)) (fun k e => by have := (World.ownsRow.lt H5.out.2 k e).1; omega)
  have hK := set4_kept (((HK2.out.trans H3.out (fun _ h => h.elim)).trans HK4.out (fun _ h => h.elim)).trans H5.out.1 (fun _ h => h.elim)) (q := z) (by rw [HZ.out.1]; exact Nat.le_refl _) (.slice a1 xs.length c1) (.int .i64 (H : Int)) (.int .i64 0) (.slice la xs.length lc)
  have hw := HZ.out.1
  refine bodyPost_ret (v := .tuple #[.agg #[.slice a1 xs.length c1, .int .i64 (H : Int), .int .i64 0, .slice la xs.length lc], .int .i64 0]) ?_ rfl ⟨_, rfl, by rw [hw]; exact hX, hK⟩
  rw [results_cell_tmp rfl]
  simp [asAddr, Result.andThen, hld]
end Go.Proofs.YtffgcijicmfmlaaGreatDoor

namespace Go.Proofs.YtffgcijicmfmlaaGreatDoor
open Go.RowKit Plain
set_option linter.unusedVariables false
set_option maxRecDepth 100000

theorem two_new (w : World) (A B : Obj) : ((w.alloc A).alloc B).heap[w.heap.size]? = some A ∧ ((w.alloc A).alloc B).heap[w.heap.size + 1]? = some B := by
  have h1 := World.alloc_heap_new w A
  have h2 := World.alloc_heap_new (w.alloc A) B
  rw [World.size_alloc] at h2
  exact ⟨(Below.heap_alloc _ _ _ (heap_lt h1)).trans h1, h2⟩
/-- the two boxes of Advance -/
structure Bx (w w' : World) (z : Nat) (A B : Array Value) : Prop where
  k : Kept No w w'
  z0 : w.heap.size = z
  a : w'.heap[z]? = some (.cells A 43)
  b : w'.heap[z + 1]? = some (.cells B 43)
theorem Bx.on {w w' w2 : World} {z : Nat} {A B : Array Value} (h : Bx w w' z A B) (hk : Kept No w' w2) : Bx w w2 z A B :=
  ⟨h.k.trans hk (fun _ h => h.elim), h.z0, hk.at' h.a (fun h => h), hk.at' h.b (fun h => h)⟩
theorem Bx.setA {w w' : World} {z : Nat} {A B : Array Value} (h : Bx w w' z A B) (k : Nat) (v : Value) : Bx w (w'.setCell ⟨z, k, none⟩ v) z (A.setIfInBounds k v) B :=
  ⟨Kept.setCell (p := ⟨z, k, none⟩) h.k (.inr (Nat.le_of_eq h.z0)) _, h.z0, heap_setCell_same _ _ _ _ _ _ h.a, by rw [heap_setCell_other _ ⟨z, k, none⟩ (z + 1) _ (by simp)]; exact h.b⟩
theorem Bx.out4 {w w' : World} {z : Nat} {A : Array Value} {a b c d : Value} (h : Bx w w' z A #[a, b, c, d]) (x y u v : Value) : Bx w ((((w'.setCell ⟨z + 1, 0, none⟩ x).setCell ⟨z + 1, 1, none⟩ y).setCell ⟨z + 1, 2, none⟩ u).setCell ⟨z + 1, 3, none⟩ v) z A #[x, y, u, v] :=
  ⟨set4_kept h.k (by have := h.z0; omega) _ _ _ _, h.z0, (by
    have := set4_keptF (q := z + 1) w' x y u v
    exact this.at' h.a (by omega)), set4' h.b _ _ _ _⟩
theorem Bx.ca {w w' : World} {z : Nat} {A B : Array Value} (h : Bx w w' z A B) {k : Nat} {v : Value} (hv : A[k]? = some v) : w'.cell? ⟨z, k, none⟩ = some v := cell_of_row h.a hv
theorem Bx.cb {w w' : World} {z : Nat} {A B : Array Value} (h : Bx w w' z A B) {k : Nat} {v : Value} (hv : B[k]? = some v) : w'.cell? ⟨z + 1, k, none⟩ = some v := cell_of_row h.b hv
theorem Bx.fa {w w' : World} {z : Nat} {A B : Array Value} (h : Bx w w' z A B) (k : Nat) : w'.frozen? ⟨z, k, none⟩ = false := by simp [World.frozen?, h.a]
theorem Bx.fb {w w' : World} {z : Nat} {A B : Array Value} (h : Bx w w' z A B) (k : Nat) : w'.frozen? ⟨z + 1, k, none⟩ = false := by simp [World.frozen?, h.b]

section
variable {o : Oper} {a : Act} {w : World}
theorem er_faX0 (x : Operand) (ho : o.op = .fieldAddr 43 x 0) (g : Nat) (hx : a.eval x = .pointer (some ⟨g, 0, none⟩)) : (execOp a.eval o).run Tryz.prog w = .ok (.value (.pointer (some ⟨g, 0, none⟩))) w := by
  simp only [execOp, ho, hx]; rfl
theorem er_faX1 (x : Operand) (ho : o.op = .fieldAddr 43 x 1) (g : Nat) (hx : a.eval x = .pointer (some ⟨g, 0, none⟩)) : (execOp a.eval o).run Tryz.prog w = .ok (.value (.pointer (some ⟨g, 1, none⟩))) w := by
  simp only [execOp, ho, hx]; rfl
theorem er_faX3 (x : Operand) (ho : o.op = .fieldAddr 43 x 3) (g : Nat) (hx : a.eval x = .pointer (some ⟨g, 0, none⟩)) : (execOp a.eval o).run Tryz.prog w = .ok (.value (.pointer (some ⟨g, 3, none⟩))) w := by
  simp only [execOp, ho, hx]; rfl
theorem er_ldS (x : Operand) (ho : o.op = .load 22 x) (g off : Nat) (v : Value) (hx : a.eval x = .pointer (some ⟨g, off, none⟩)) (hr : w.cell? ⟨g, off, none⟩ = some v) : (execOp a.eval o).run Tryz.prog w = .ok (.value v) w := by
  simp only [execOp, ho, hx]; simp [go_sem, hr]
theorem er_remX (x y : Operand) (ho : o.op = .binOp .rem 3 x y 3) (k l r : Int) (hx : a.eval x = .int .i64 k) (hy : a.eval y = .int .i64 l) (h0 : ¬ l = 0) (hr : Int.tmod k l = r) (h6 : 0 ≤ r ∧ r ≤ 1099511627776) : (execOp a.eval o).run Tryz.prog w = .ok (.value (.int .i64 r)) w := by
  simp only [execOp, ho, hx, hy]
  simp [go_sem, h0, hr]
theorem er_cbeg (x0 : Operand) (ts : Array TypeId) (ho : o.op = .call { callee := .value (.func 35), args := #[x0], argTypes := ts }) (v0 : Value) (h0 : a.eval x0 = v0) : (execOp a.eval o).run Tryz.prog w = .ok (.enter 35 #[v0]) w := by
  subst h0; simp [execOp, ho, go_sem, Act.eval]
theorem er_cled (x0 x1 x2 x3 : Operand) (ts : Array TypeId) (ho : o.op = .call { callee := .value (.func 39), args := #[x0, x1, x2, x3], argTypes := ts }) (v0 v1 v2 v3 : Value) (h0 : a.eval x0 = v0) (h1 : a.eval x1 = v1) (h2 : a.eval x2 = v2) (h3 : a.eval x3 = v3) : (execOp a.eval o).run Tryz.prog w = .ok (.enter 39 #[v0, v1, v2, v3]) w := by
  subst h0 h1 h2 h3; simp [execOp, ho, go_sem, Act.eval]
theorem er_stS (x y : Operand) (ho : o.op = .store 23 x y) (g off : Nat) (v : Value) (p : Option Addr) (n c : Nat) (hx : a.eval x = .pointer (some ⟨g, off, none⟩)) (hy : a.eval y = .slice p n c) (hc : w.cell? ⟨g, off, none⟩ = some v) (hf : w.frozen? ⟨g, off, none⟩ = false) : (execOp a.eval o).run Tryz.prog w = .ok .skip (w.setCell ⟨g, off, none⟩ (.slice p n c)) := by
  simp only [execOp, ho, hx, hy]
  simp [go_sem, hc, hf]
end

set_option maxHeartbeats 4000000 in
theorem radv_bad {R F : Nat → Prop} {a la : Option Addr} {c lc : Nat} {xs : List Srv} {t : Nat} (hv : Vd xs) (ht : t < 1099511627776) (w : World) (hS : Sv w F a xs.length c xs) (hF : ∀ k, F k → R k) (hr : Rd0 w (.slice la xs.length lc) xs.length (fun i => (Rule.rest (sys xs) t i : Int))) (hl : ∀ k, (Value.slice la xs.length lc).ownBlock = some k → R k) (x : Int) (hx : x < t ∨ 1099511627775 < x) :
    Calls Tryz.prog 24 #[.agg #[.slice a xs.length c, .int .i64 (hyp xs : Int), .int .i64 t, .slice la xs.length lc], .int .i64 x] w fun e w' => ∃ xv, e = .returned (.tuple #[xv, .int .i64 2]) ∧ Xd w' (fun k => R k ∨ w.heap.size ≤ k) xs t xv ∧ Kept No w w' := by
  have HX : Hid (∀ w', Kept No w w' → Xd w' (fun k => R k ∨ w.heap.size ≤ k) xs t (.agg #[.slice a xs.length c, .int .i64 (hyp xs : Int), .int .i64 t, .slice la xs.length lc])) := fun w' hk => ⟨a, c, la, lc, F, rfl, hS.keep hk, fun k q => .inl (hF k q), hr.keep hk, fun k q => .inl (hl k q)⟩
  clear hS hF hr hl hv
  generalize hyp xs = H at *
  by_cases hlo : x < (t : Int)
  · clear hx
    go_enter Tryz.func24, Tryz.ntmps24
    go_upto_region 1 with fail
    have HB : Hid (Bx w ((w.alloc (.cells #[.slice a xs.length c, .int .i64 (H : Int), .int .i64 t, .slice la xs.length lc] 43)).alloc (.cells #[.slice none 0 0, .int .i64 0, .int .i64 0, .slice none 0 0] 43)) w.heap.size #[.slice a xs.length c, .int .i64 (H : Int), .int .i64 t, .slice la xs.length lc] #[.slice none 0 0, .int .i64 0, .int .i64 0, .slice none 0 0]) := ⟨((Kept.refl No w).alloc _).alloc _, rfl, (two_new w _ _).1, (two_new w _ _).2⟩
    generalize (w.alloc (.cells #[.slice a xs.length c, .int .i64 (H : Int), .int .i64 t, .slice la xs.length lc] 43)).alloc (.cells #[.slice none 0 0, .int .i64 0, .int .i64 0, .slice none 0 0] 43) = w2 at *
    try simp only [World.size_alloc]
    generalize hz : w.heap.size = z at *
    have HZ : Hid (w.heap.size = z) := hz
    clear hz
    have y0 := HB.out.ca (k := 0) (v := .slice a xs.length c) rfl
    have y1 := HB.out.ca (k := 1) (v := .int .i64 (H : Int)) rfl
    have y2 := HB.out.ca (k := 2) (v := .int .i64 t) rfl
    have y3 := HB.out.ca (k := 3) (v := .slice la xs.length lc) rfl
    have o0 := HB.out.cb (k := 0) (v := .slice none 0 0) rfl
    have o1 := HB.out.cb (k := 1) (v := .int .i64 0) rfl
    have o2 := HB.out.cb (k := 2) (v := .int .i64 0) rfl
    have o3 := HB.out.cb (k := 3) (v := .slice none 0 0) rfl
    have fo := HB.out.fb
    go_wp2
    have B2 := HB.out.out4 (.slice a xs.length c) (.int .i64 (H : Int)) (.int .i64 t) (.slice la xs.length lc)
    have hld := ldD B2.b
    refine bodyPost_ret (v := .tuple #[.agg #[.slice a xs.length c, .int .i64 (H : Int), .int .i64 t, .slice la xs.length lc], .int .i64 2]) ?_ rfl ⟨_, rfl, by rw [HZ.out]; exact HX.out _ B2.k, B2.k⟩
    rw [results_cell_tmp rfl]
    simp [asAddr, Result.andThen, hld]
  · have hhi : 1099511627776 ≤ x := by omega
    clear hx
    go_enter Tryz.func24, Tryz.ntmps24
    go_upto_region 1 with fail
    have HB : Hid (Bx w ((w.alloc (.cells #[.slice a xs.length c, .int .i64 (H : Int), .int .i64 t, .slice la xs.length lc] 43)).alloc (.cells #[.slice none 0 0, .int .i64 0, .int .i64 0, .slice none 0 0] 43)) w.heap.size #[.slice a xs.length c, .int .i64 (H : Int), .int .i64 t, .slice la xs.length lc] #[.slice none 0 0, .int .i64 0, .int .i64 0, .slice none 0 0]) := ⟨((Kept.refl No w).alloc _).alloc _, rfl, (two_new w _ _).1, (two_new w _ _).2⟩
    generalize (w.alloc (.cells #[.slice a xs.length c, .int .i64 (H : Int), .int .i64 t, .slice la xs.length lc] 43)).alloc (.cells #[.slice none 0 0, .int .i64 0, .int .i64 0, .slice none 0 0] 43) = w2 at *
    try simp only [World.size_alloc]
    generalize hz : w.heap.size = z at *
    have HZ : Hid (w.heap.size = z) := hz
    clear hz
    have y0 := HB.out.ca (k := 0) (v := .slice a xs.length c) rfl
    have y1 := HB.out.ca (k := 1) (v := .int .i64 (H : Int)) rfl
    have y2 := HB.out.ca (k := 2) (v := .int .i64 t) rfl
    have y3 := HB.out.ca (k := 3) (v := .slice la xs.length lc) rfl
    have o0 := HB.out.cb (k := 0) (v := .slice none 0 0) rfl
    have o1 := HB.out.cb (k := 1) (v := .int .i64 0) rfl
    have o2 := HB.out.cb (k := 2) (v := .int .i64 0) rfl
    have o3 := HB.out.cb (k := 3) (v := .slice none 0 0) rfl
    have fo := HB.out.fb
    go_wp2
    have B2 := HB.out.out4 (.slice a xs.length c) (.int .i64 (H : Int)) (.int .i64 t) (.slice la xs.length lc)
    have hld := ldD B2.b
    refine bodyPost_ret (v := .tuple #[.agg #[.slice a xs.length c, .int .i64 (H : Int), .int .i64 t, .slice la xs.length lc], .int .i64 2]) ?_ rfl ⟨_, rfl, by rw [HZ.out]; exact HX.out _ B2.k, B2.k⟩
    rw [results_cell_tmp rfl]
    simp [asAddr, Result.andThen, hld]
set_option maxHeartbeats 4000000 in
theorem radv_near {R F : Nat → Prop} {a la : Option Addr} {c lc : Nat} {xs : List Srv} {t : Nat} (hv : Vd xs) (ht : t < 1099511627776) (w : World) (hS : Sv w F a xs.length c xs) (hF : ∀ k, F k → R k) (hr : Rd0 w (.slice la xs.length lc) xs.length (fun i => (Rule.rest (sys xs) t i : Int))) (hl : ∀ k, (Value.slice la xs.length lc).ownBlock = some k → R k) (u : Nat) (hx1 : t ≤ u) (hx2 : u < 1099511627776) (hne : u ≤ t + 3 * hyp xs) :
    Calls Tryz.prog 24 #[.agg #[.slice a xs.length c, .int .i64 (hyp xs : Int), .int .i64 t, .slice la xs.length lc], .int .i64 (u : Int)] w fun e w' => ∃ xv, e = .returned (.tuple #[xv, .int .i64 0]) ∧ Xd w' (fun k => R k ∨ w.heap.size ≤ k) xs u xv ∧ Kept No w w' := by
  have hH1 := hv.hyp1
  have hH2 := hv.hyp2
  have HX : Hid (∀ w' la5 lc5, Kept No w w' → Rd0 w' (.slice la5 xs.length lc5) xs.length (fun i => (Rule.rest (sys xs) u i : Int)) → (∀ k, (Value.slice la5 xs.length lc5).ownBlock = some k → w.heap.size ≤ k) → Xd w' (fun k => R k ∨ w.heap.size ≤ k) xs u (.agg #[.slice a xs.length c, .int .i64 (hyp xs : Int), .int .i64 (u : Int), .slice la5 xs.length lc5])) := fun w' la5 lc5 hk h5 h6 => ⟨a, c, la5, lc5, F, rfl, hS.keep hk, fun k q => .inl (hF k q), h5, fun k q => .inr (h6 k q)⟩
  have HL : Hid (∀ W, Kept No w W → Calls Tryz.prog 39 #[.slice a xs.length c, .slice la xs.length lc, .int .i64 t, .int .i64 u] W fun e w' => ∃ v', e = .returned v' ∧ Ri w' W.heap.size v' xs.length (fun i => (Rule.rest (sys xs) u i : Int)) ∧ Kept No W w') := fun W hk => led_any hv W (hS.keep hk) t u hx1 (by omega) (hr.keep hk)
  clear hS hF hr hl hv
  generalize hyp xs = H at *
  have hl1 : ¬ (u : Int) < (t : Int) := by omega
  have hl2 : ¬ (1099511627776 : Int) ≤ (u : Int) := by omega
  have hl3 : (u : Int) - (t : Int) ≤ 3 * (H : Int) := by omega
  go_enter Tryz.func24, Tryz.ntmps24
  go_upto_region 1 with fail
  have HB : Hid (Bx w ((w.alloc (.cells #[.slice a xs.length c, .int .i64 (H : Int), .int .i64 t, .slice la xs.length lc] 43)).alloc (.cells #[.slice none 0 0, .int .i64 0, .int .i64 0, .slice none 0 0] 43)) w.heap.size #[.slice a xs.length c, .int .i64 (H : Int), .int .i64 t, .slice la xs.length lc] #[.slice none 0 0, .int .i64 0, .int .i64 0, .slice none 0 0]) := ⟨((Kept.refl No w).alloc _).alloc _, rfl, (two_new w _ _).1, (two_new w _ _).2⟩
  generalize (w.alloc (.cells #[.slice a xs.length c, .int .i64 (H : Int), .int .i64 t, .slice la xs.length lc] 43)).alloc (.cells #[.slice none 0 0, .int .i64 0, .int .i64 0, .slice none 0 0] 43) = w2 at *
  try simp only [World.size_alloc]
  generalize hz : w.heap.size = z at *
  have HZ : Hid (w.heap.size = z) := hz
  clear hz
  have y0 := HB.out.ca (k := 0) (v := .slice a xs.length c) rfl
  have y1 := HB.out.ca (k := 1) (v := .int .i64 (H : Int)) rfl
  have y2 := HB.out.ca (k := 2) (v := .int .i64 t) rfl
  have y3 := HB.out.ca (k := 3) (v := .slice la xs.length lc) rfl
  have ld := HL.out w2 HB.out.k
  go_upto_region 6 with (go_at_call 39; refine ld.mono ?_; rintro e w5 ⟨v5, rfl, r5, hk5⟩; obtain ⟨la5, lc5, hv5⟩ := r5.rd.form; subst hv5; have H5 : Hid (Bx w w5 z #[.slice a xs.length c, .int .i64 (H : Int), .int .i64 t, .slice la xs.length lc] #[.slice none 0 0, .int .i64 0, .int .i64 0, .slice none 0 0] ∧ Ri w5 w2.heap.size (.slice la5 xs.length lc5) xs.length (fun i => (Rule.rest (sys xs) u i : Int)) ∧ z + 1 < w2.heap.size) := ⟨HB.out.on hk5, r5, heap_lt HB.out.b⟩; have y3 := H5.out.1.ca (k := 3) (v := .slice la xs.length lc) rfl; have y2 := H5.out.1.ca (k := 2) (v := .int .i64 t) rfl; have fa := H5.out.1.fa; clear r5 hk5 ld)
  have B5 := (H5.out.1.setA 3 (.slice la5 xs.length lc5)).setA 2 (.int .i64 (u : Int))
  have HB6 : Hid (Bx w ((w5.setCell ⟨z, 3, none⟩ (.slice la5 xs.length lc5)).setCell ⟨z, 2, none⟩ (.int .i64 (u : Int))) z #[.slice a xs.length c, .int .i64 (H : Int), .int .i64 (u : Int), .slice la5 xs.length lc5] #[.slice none 0 0, .int .i64 0, .int .i64 0, .slice none 0 0]) := B5
  clear B5
  go_upto_region 7 with fail
  clear y0 y1 y2 y3 fa
  have HKF : Hid (Kept (fun k => k = z) w5 ((w5.setCell ⟨z, 3, none⟩ (.slice la5 xs.length lc5)).setCell ⟨z, 2, none⟩ (.int .i64 (u : Int)))) := Kept.setCell (F := fun k => k = z) (p := ⟨z, 2, none⟩) (Kept.setCell (F := fun k => k = z) (p := ⟨z, 3, none⟩) (Kept.refl _ w5) (.inl rfl) _) (.inl rfl) _
  generalize (w5.setCell ⟨z, 3, none⟩ (.slice la5 xs.length lc5)).setCell ⟨z, 2, none⟩ (.int .i64 (u : Int)) = w6 at *
  have y0 := HB6.out.ca (k := 0) (v := .slice a xs.length c) rfl
  have y1 := HB6.out.ca (k := 1) (v := .int .i64 (H : Int)) rfl
  have y2 := HB6.out.ca (k := 2) (v := .int .i64 (u : Int)) rfl
  have y3 := HB6.out.ca (k := 3) (v := .slice la5 xs.length lc5) rfl
  have o0 := HB6.out.cb (k := 0) (v := .slice none 0 0) rfl
  have o1 := HB6.out.cb (k := 1) (v := .int .i64 0) rfl
  have o2 := HB6.out.cb (k := 2) (v := .int .i64 0) rfl
  have o3 := HB6.out.cb (k := 3) (v := .slice none 0 0) rfl
  have fo := HB6.out.fb
  go_wp2
  have B2 := HB6.out.out4 (.slice a xs.length c) (.int .i64 (H : Int)) (.int .i64 (u : Int)) (.slice la5 xs.length lc5)
  have hld := ldD B2.b
  have hk7 := (HKF.out.mono (fun _ h => Or.inl h : ∀ k, k = z → k = z ∨ k = z + 1)).trans (set4_keptF (q := z + 1) w6 (.slice a xs.length c) (.int .i64 (H : Int)) (.int .i64 (u : Int)) (.slice la5 xs.length lc5)) (fun k h => .inl (.inr h))
  have hrd := H5.out.2.1.rd.over hk7 (fun k e h => by have := (World.ownsRow.lt H5.out.2.1 k e).1; have := H5.out.2.2; omega)
  refine bodyPost_ret (v := .tuple #[.agg #[.slice a xs.length c, .int .i64 (H : Int), .int .i64 (u : Int), .slice la5 xs.length lc5], .int .i64 0]) ?_ rfl ⟨_, rfl, by rw [HZ.out]; exact HX.out _ la5 lc5 B2.k hrd (fun k e => by have := (World.ownsRow.lt H5.out.2.1 k e).1; have := H5.out.2.2; omega), B2.k⟩
  rw [results_cell_tmp rfl]
  simp [asAddr, Result.andThen, hld]
set_option maxHeartbeats 4000000 in
theorem radv_far {R F : Nat → Prop} {a la : Option Addr} {c lc : Nat} {xs : List Srv} {t : Nat} (hv : Vd xs) (ht : t < 1099511627776) (w : World) (hS : Sv w F a xs.length c xs) (hF : ∀ k, F k → R k) (hr : Rd0 w (.slice la xs.length lc) xs.length (fun i => (Rule.rest (sys xs) t i : Int))) (hl : ∀ k, (Value.slice la xs.length lc).ownBlock = some k → R k) (u : Nat) (hx1 : t ≤ u) (hx2 : u < 1099511627776) (hne : t + 3 * hyp xs < u) :
    Calls Tryz.prog 24 #[.agg #[.slice a xs.length c, .int .i64 (hyp xs : Int), .int .i64 t, .slice la xs.length lc], .int .i64 (u : Int)] w fun e w' => ∃ xv, e = .returned (.tuple #[xv, .int .i64 0]) ∧ Xd w' (fun k => R k ∨ w.heap.size ≤ k) xs u xv ∧ Kept No w w' := by
  have hH1 := hv.hyp1
  have hH2 := hv.hyp2
  have HX : Hid (∀ w' la5 lc5, Kept No w w' → Rd0 w' (.slice la5 xs.length lc5) xs.length (fun i => (Rule.rest (sys xs) u i : Int)) → (∀ k, (Value.slice la5 xs.length lc5).ownBlock = some k → w.heap.size ≤ k) → Xd w' (fun k => R k ∨ w.heap.size ≤ k) xs u (.agg #[.slice a xs.length c, .int .i64 (hyp xs : Int), .int .i64 (u : Int), .slice la5 xs.length lc5])) := fun w' la5 lc5 hk h5 h6 => ⟨a, c, la5, lc5, F, rfl, hS.keep hk, fun k q => .inl (hF k q), h5, fun k q => .inr (h6 k q)⟩
  obtain ⟨M, hM⟩ : ∃ M, (u - 2 * hyp xs) % hyp xs = M := ⟨_, rfl⟩
  have hMl : M < hyp xs := by rw [← hM]; exact Nat.mod_lt _ (by omega)
  have eM : Int.tmod ((u : Int) - 2 * (hyp xs : Int)) (hyp xs : Int) = (M : Int) := by
    rw [show (u : Int) - 2 * (hyp xs : Int) = ((u - 2 * hyp xs : Nat) : Int) by omega, ← hM]
    exact Int.ofNat_tmod _ _
  have eM2 : ((u : Int) - 2 * (hyp xs : Int)) % (hyp xs : Int) = (M : Int) := by
    rw [show (u : Int) - 2 * (hyp xs : Int) = ((u - 2 * hyp xs : Nat) : Int) by omega, ← hM]
    rfl
  have hturn : ∀ i, i < xs.length → (Rule.rest (sys xs) (2 * hyp xs + M) i : Int) = (Rule.rest (sys xs) u i : Int) := fun i hi => by
    have := Rule.rest_turns hv.bd.ok hH1 (fun i hi => hv.dvd i hi) (2 * hyp xs + M) (by omega) hi ((u - 2 * hyp xs) / hyp xs)
    have e : 2 * hyp xs + M + (u - 2 * hyp xs) / hyp xs * hyp xs = u := by
      have := Nat.mod_add_div (u - 2 * hyp xs) (hyp xs)
      rw [hM, Nat.mul_comm] at this
      omega
    rw [e] at this
    rw [this]
  have HBG : Hid (∀ W, Kept No w W → Calls Tryz.prog 35 #[.slice a xs.length c] W fun e w' => ∃ v', e = .returned v' ∧ Ri w' W.heap.size v' xs.length (fun i => (Rule.rest (sys xs) 0 i : Int)) ∧ Kept No W w') := fun W hk => rbegin_any hv W (hS.keep hk)
  have HL : Hid (∀ W la4 lc4, Kept No w W → Rd0 W (.slice la4 xs.length lc4) xs.length (fun i => (Rule.rest (sys xs) 0 i : Int)) → Calls Tryz.prog 39 #[.slice a xs.length c, .slice la4 xs.length lc4, .int .i64 0, .int .i64 (2 * (hyp xs : Int) + (M : Int))] W fun e w' => ∃ v', e = .returned v' ∧ Ri w' W.heap.size v' xs.length (fun i => (Rule.rest (sys xs) u i : Int)) ∧ Kept No W w') := fun W la4 lc4 hk h4 => by
    have := led_any hv W (hS.keep hk) 0 (2 * hyp xs + M) (by omega) (by omega) h4
    rw [show ((2 * hyp xs + M : Nat) : Int) = 2 * (hyp xs : Int) + (M : Int) by omega] at this
    exact this.mono (by rintro e w' ⟨v', rfl, h1, h2⟩; exact ⟨v', rfl, h1.like hturn, h2⟩)
  clear hS hF hr hl hv hM hturn
  generalize hyp xs = H at *
  have hl1 : ¬ (u : Int) < (t : Int) := by omega
  have hl2 : ¬ (1099511627776 : Int) ≤ (u : Int) := by omega
  have hl3 : ¬ (u : Int) - (t : Int) ≤ 3 * (H : Int) := by omega
  go_enter Tryz.func24, Tryz.ntmps24
  go_upto_region 1 with fail
  have HB : Hid (Bx w ((w.alloc (.cells #[.slice a xs.length c, .int .i64 (H : Int), .int .i64 t, .slice la xs.length lc] 43)).alloc (.cells #[.slice none 0 0, .int .i64 0, .int .i64 0, .slice none 0 0] 43)) w.heap.size #[.slice a xs.length c, .int .i64 (H : Int), .int .i64 t, .slice la xs.length lc] #[.slice none 0 0, .int .i64 0, .int .i64 0, .slice none 0 0]) := ⟨((Kept.refl No w).alloc _).alloc _, rfl, (two_new w _ _).1, (two_new w _ _).2⟩
  generalize (w.alloc (.cells #[.slice a xs.length c, .int .i64 (H : Int), .int .i64 t, .slice la xs.length lc] 43)).alloc (.cells #[.slice none 0 0, .int .i64 0, .int .i64 0, .slice none 0 0] 43) = w2 at *
  try simp only [World.size_alloc]
  generalize hz : w.heap.size = z at *
  have HZ : Hid (w.heap.size = z) := hz
  clear hz
  have y0 := HB.out.ca (k := 0) (v := .slice a xs.length c) rfl
  have y1 := HB.out.ca (k := 1) (v := .int .i64 (H : Int)) rfl
  have y2 := HB.out.ca (k := 2) (v := .int .i64 t) rfl
  have y3 := HB.out.ca (k := 3) (v := .slice la xs.length lc) rfl
  have HBD : Hid (Bx w w2.drew z #[.slice a xs.length c, .int .i64 (H : Int), .int .i64 t, .slice la xs.length lc] #[.slice none 0 0, .int .i64 0, .int .i64 0, .slice none 0 0]) := HB.out.on ((Kept.refl No w2).drew)
  have e2H : wrap64 (2 * (H : Int)) = 2 * (H : Int) := by unfold wrap64; omega
  have eSu : wrap64 ((u : Int) - 2 * (H : Int)) = (u : Int) - 2 * (H : Int) := by unfold wrap64; omega
  have eAd : wrap64 (2 * (H : Int) + (M : Int)) = 2 * (H : Int) + (M : Int) := by unfold wrap64; omega
  have hH0 : ¬ (H : Int) = 0 := by omega
  have HC1 : Hid (Calls Tryz.prog 35 #[.slice a xs.length c] w2.drew fun e w' => ∃ v, e = .returned v ∧ (w'.cell? ⟨z, 0, none⟩ = some (.slice a xs.length c) ∧ w'.cell? ⟨z, 1, none⟩ = some (.int .i64 (H : Int))) ∧ (∃ la4 lc4, v = .slice la4 xs.length lc4 ∧ Bx w w' z #[.slice a xs.length c, .int .i64 (H : Int), .int .i64 t, .slice la xs.length lc] #[.slice none 0 0, .int .i64 0, .int .i64 0, .slice none 0 0] ∧ w2.heap.size ≤ w'.heap.size ∧ Rd0 w' (.slice la4 xs.length lc4) xs.length (fun i => (Rule.rest (sys xs) 0 i : Int)))) := (HBG.out w2.drew HBD.out.k).mono (by
    rintro e w4 ⟨v4, rfl, r4, hk4⟩
    obtain ⟨la4, lc4, hv4⟩ := r4.rd.form
    have b4 := HBD.out.on hk4
    exact ⟨v4, rfl, ⟨b4.ca rfl, b4.ca rfl⟩, la4, lc4, hv4, b4, hk4.size, by rw [← hv4]; exact r4.rd⟩)
  go_upto_region 5 with fail
  refine wp_region_held_drew (S := fun w' => w'.cell? ⟨z, 0, none⟩ = some (.slice a xs.length c) ∧ w'.cell? ⟨z, 1, none⟩ = some (.int .i64 (H : Int))) (by kernel_rfl) ⟨HBD.out.ca rfl, HBD.out.ca rfl⟩ (fun hS => ?_)
  refine d_take 0 32 rfl rfl (by kernel_rfl) (by kernel_rfl) (by kernel_rfl) (fun _ _ _ h => h) rfl (fun w' hw' => er_faX0 _ rfl z rfl) hS ?_
  simp only [Act.put, List.setIfInBounds_toArray, List.set_cons_zero, List.set_cons_succ]
  refine d_take 1 33 rfl rfl (by kernel_rfl) (by kernel_rfl) (by kernel_rfl) (fun _ _ _ h => h) rfl (fun w' hw' => er_ldS _ rfl z 0 (.slice a xs.length c) rfl hw'.1) hS ?_
  simp only [Act.put, List.setIfInBounds_toArray, List.set_cons_zero, List.set_cons_succ]
  refine d_take 2 34 rfl rfl (by kernel_rfl) (by kernel_rfl) (by kernel_rfl) (fun _ _ _ h => h) rfl (fun w' hw' => er_faX0 _ rfl z rfl) hS ?_
  simp only [Act.put, List.setIfInBounds_toArray, List.set_cons_zero, List.set_cons_succ]
  refine d_take 3 35 rfl rfl (by kernel_rfl) (by kernel_rfl) (by kernel_rfl) (fun _ _ _ h => h) rfl (fun w' hw' => er_ldS _ rfl z 0 (.slice a xs.length c) rfl hw'.1) hS ?_
  simp only [Act.put, List.setIfInBounds_toArray, List.set_cons_zero, List.set_cons_succ]
  refine d_take 5 37 rfl rfl (by kernel_rfl) (by kernel_rfl) (by kernel_rfl) (fun _ _ _ h => h) rfl (fun w' hw' => er_faX1 _ rfl z rfl) hS ?_
  simp only [Act.put, List.setIfInBounds_toArray, List.set_cons_zero, List.set_cons_succ]
  refine d_take 6 38 rfl rfl (by kernel_rfl) (by kernel_rfl) (by kernel_rfl) (fun _ _ _ h => h) rfl (fun w' hw' => er_ldI _ rfl z 1 (.int .i64 (H : Int)) rfl hw'.2) hS ?_
  simp only [Act.put, List.setIfInBounds_toArray, List.set_cons_zero, List.set_cons_succ]
  refine d_take 7 39 rfl rfl (by kernel_rfl) (by kernel_rfl) (by kernel_rfl) (fun _ _ _ h => h) rfl (fun w' hw' => er_mulI _ _ rfl 2 (H : Int) (2 * (H : Int)) rfl rfl e2H) hS ?_
  simp only [Act.put, List.setIfInBounds_toArray, List.set_cons_zero, List.set_cons_succ]
  refine d_take 8 40 rfl rfl (by kernel_rfl) (by kernel_rfl) (by kernel_rfl) (fun _ _ _ h => h) rfl (fun w' hw' => er_mvw _ rfl (.int .i64 (u : Int)) rfl) hS ?_
  simp only [Act.put, List.setIfInBounds_toArray, List.set_cons_zero, List.set_cons_succ]
  refine d_take 9 41 rfl rfl (by kernel_rfl) (by kernel_rfl) (by kernel_rfl) (fun _ _ _ h => h) rfl (fun w' hw' => er_faX1 _ rfl z rfl) hS ?_
  simp only [Act.put, List.setIfInBounds_toArray, List.set_cons_zero, List.set_cons_succ]
  refine d_take 10 42 rfl rfl (by kernel_rfl) (by kernel_rfl) (by kernel_rfl) (fun _ _ _ h => h) rfl (fun w' hw' => er_ldI _ rfl z 1 (.int .i64 (H : Int)) rfl hw'.2) hS ?_
  simp only [Act.put, List.setIfInBounds_toArray, List.set_cons_zero, List.set_cons_succ]
  refine d_take 11 43 rfl rfl (by kernel_rfl) (by kernel_rfl) (by kernel_rfl) (fun _ _ _ h => h) rfl (fun w' hw' => er_mulI _ _ rfl 2 (H : Int) (2 * (H : Int)) rfl rfl e2H) hS ?_
  simp only [Act.put, List.setIfInBounds_toArray, List.set_cons_zero, List.set_cons_succ]
  refine d_take 12 44 rfl rfl (by kernel_rfl) (by kernel_rfl) (by kernel_rfl) (fun _ _ _ h => h) rfl (fun w' hw' => er_subI _ _ rfl (u : Int) (2 * (H : Int)) ((u : Int) - 2 * (H : Int)) rfl rfl eSu) hS ?_
  simp only [Act.put, List.setIfInBounds_toArray, List.set_cons_zero, List.set_cons_succ]
  refine d_take 13 45 rfl rfl (by kernel_rfl) (by kernel_rfl) (by kernel_rfl) (fun _ _ _ h => h) rfl (fun w' hw' => er_faX1 _ rfl z rfl) hS ?_
  simp only [Act.put, List.setIfInBounds_toArray, List.set_cons_zero, List.set_cons_succ]
  refine d_take 14 46 rfl rfl (by kernel_rfl) (by kernel_rfl) (by kernel_rfl) (fun _ _ _ h => h) rfl (fun w' hw' => er_ldI _ rfl z 1 (.int .i64 (H : Int)) rfl hw'.2) hS ?_
  simp only [Act.put, List.setIfInBounds_toArray, List.set_cons_zero, List.set_cons_succ]
  refine d_take 15 47 rfl rfl (by kernel_rfl) (by kernel_rfl) (by kernel_rfl) (fun _ _ _ h => h) rfl (fun w' hw' => er_remX _ _ rfl ((u : Int) - 2 * (H : Int)) (H : Int) (M : Int) rfl rfl hH0 eM (by omega)) hS ?_
  simp only [Act.put, List.setIfInBounds_toArray, List.set_cons_zero, List.set_cons_succ]
  refine d_take 16 48 rfl rfl (by kernel_rfl) (by kernel_rfl) (by kernel_rfl) (fun _ _ _ h => h) rfl (fun w' hw' => er_addI _ _ rfl (2 * (H : Int)) (M : Int) (2 * (H : Int) + (M : Int)) rfl rfl eAd) hS ?_
  simp only [Act.put, List.setIfInBounds_toArray, List.set_cons_zero, List.set_cons_succ]
  refine d_callN (fun v w' => ∃ la4 lc4, v = .slice la4 xs.length lc4 ∧ Bx w w' z #[.slice a xs.length c, .int .i64 (H : Int), .int .i64 t, .slice la xs.length lc] #[.slice none 0 0, .int .i64 0, .int .i64 0, .slice none 0 0] ∧ w2.heap.size ≤ w'.heap.size ∧ Rd0 w' (.slice la4 xs.length lc4) xs.length (fun i => (Rule.rest (sys xs) 0 i : Int))) 4 36 (by kernel_rfl) rfl rfl rfl (er_cbeg _ _ rfl (.slice a xs.length c) rfl) HC1.out (fun v w4 hS4 hT4 => ?_)
  simp only [Act.put, List.setIfInBounds_toArray, List.set_cons_zero, List.set_cons_succ]
  obtain ⟨la4, lc4, rfl, hb4, hs4, hr4⟩ := hT4
  have hc2 := (HL.out w4 la4 lc4 hb4.k hr4).mono (R' := fun e w' => ∃ v, e = .returned v ∧ (w'.cell? ⟨z, 0, none⟩ = some (.slice a xs.length c) ∧ w'.cell? ⟨z, 1, none⟩ = some (.int .i64 (H : Int))) ∧ (∃ la5 lc5, v = .slice la5 xs.length lc5 ∧ Bx w w' z #[.slice a xs.length c, .int .i64 (H : Int), .int .i64 t, .slice la xs.length lc] #[.slice none 0 0, .int .i64 0, .int .i64 0, .slice none 0 0] ∧ Ri w' w2.heap.size (.slice la5 xs.length lc5) xs.length (fun i => (Rule.rest (sys xs) u i : Int)))) (by
    rintro e w5 ⟨v5, rfl, r5, hk5⟩
    obtain ⟨la5, lc5, hv5⟩ := r5.rd.form
    have b5 := hb4.on hk5
    exact ⟨v5, rfl, ⟨b5.ca rfl, b5.ca rfl⟩, la5, lc5, hv5, b5, by rw [← hv5]; exact own_base r5 hs4⟩)
  refine d_callN (fun v w' => ∃ la5 lc5, v = .slice la5 xs.length lc5 ∧ Bx w w' z #[.slice a xs.length c, .int .i64 (H : Int), .int .i64 t, .slice la xs.length lc] #[.slice none 0 0, .int .i64 0, .int .i64 0, .slice none 0 0] ∧ Ri w' w2.heap.size (.slice la5 xs.length lc5) xs.length (fun i => (Rule.rest (sys xs) u i : Int))) 17 49 (by kernel_rfl) rfl rfl rfl (er_cled _ _ _ _ _ rfl (.slice a xs.length c) (.slice la4 xs.length lc4) (.int .i64 0) (.int .i64 (2 * (H : Int) + (M : Int))) rfl rfl rfl rfl) hc2 (fun v w5 hS5 hT5 => ?_)
  simp only [Act.put, List.setIfInBounds_toArray, List.set_cons_zero, List.set_cons_succ]
  obtain ⟨la5, lc5, rfl, hb5, hr5⟩ := hT5
  have H5 : Hid (Bx w w5 z #[.slice a xs.length c, .int .i64 (H : Int), .int .i64 t, .slice la xs.length lc] #[.slice none 0 0, .int .i64 0, .int .i64 0, .slice none 0 0] ∧ Ri w5 w2.heap.size (.slice la5 xs.length lc5) xs.length (fun i => (Rule.rest (sys xs) u i : Int)) ∧ z + 1 < w2.heap.size) := ⟨hb5, hr5, heap_lt HB.out.b⟩
  have b6 := hb5.setA 3 (.slice la5 xs.length lc5)
  refine d_read 18 50 (by kernel_rfl) rfl rfl rfl (er_faX3 _ rfl z rfl) hS5 ?_
  simp only [Act.put, List.setIfInBounds_toArray, List.set_cons_zero, List.set_cons_succ]
  refine d_turn 19 (by kernel_rfl) rfl rfl rfl (er_stS _ _ rfl z 3 (.slice la xs.length lc) la5 xs.length lc5 rfl rfl (hb5.ca rfl) (hb5.fa 3)) ⟨b6.ca rfl, b6.ca rfl⟩ ?_
  refine wpAnyH_done (by kernel_rfl) ?_ _
  have y3 := hb5.ca (k := 3) (v := .slice la xs.length lc) rfl
  have y2 := b6.ca (k := 2) (v := .int .i64 t) rfl
  have fa := b6.fa
  clear hb5 hr5 hS5 hS4 hb4 hs4 hr4 hc2 b6 HC1 HBD hS eM eSu eAd e2H
  have B5 := (H5.out.1.setA 3 (.slice la5 xs.length lc5)).setA 2 (.int .i64 (u : Int))
  have HB6 : Hid (Bx w ((w5.setCell ⟨z, 3, none⟩ (.slice la5 xs.length lc5)).setCell ⟨z, 2, none⟩ (.int .i64 (u : Int))) z #[.slice a xs.length c, .int .i64 (H : Int), .int .i64 (u : Int), .slice la5 xs.length lc5] #[.slice none 0 0, .int .i64 0, .int .i64 0, .slice none 0 0]) := B5
  clear B5
  go_upto_region 7 with fail
  clear y0 y1 y2 y3 fa
  have HKF : Hid (Kept (fun k => k = z) w5 ((w5.setCell ⟨z, 3, none⟩ (.slice la5 xs.length lc5)).setCell ⟨z, 2, none⟩ (.int .i64 (u : Int)))) := Kept.setCell (F := fun k => k = z) (p := ⟨z, 2, none⟩) (Kept.setCell (F := fun k => k = z) (p := ⟨z, 3, none⟩) (Kept.refl _ w5) (.inl rfl) _) (.inl rfl) _
  generalize (w5.setCell ⟨z, 3, none⟩ (.slice la5 xs.length lc5)).setCell ⟨z, 2, none⟩ (.int .i64 (u : Int)) = w6 at *
  have y0 := HB6.out.ca (k := 0) (v := .slice a xs.length c) rfl
  have y1 := HB6.out.ca (k := 1) (v := .int .i64 (H : Int)) rfl
  have y2 := HB6.out.ca (k := 2) (v := .int .i64 (u : Int)) rfl
  have y3 := HB6.out.ca (k := 3) (v := .slice la5 xs.length lc5) rfl
  have o0 := HB6.out.cb (k := 0) (v := .slice none 0 0) rfl
  have o1 := HB6.out.cb (k := 1) (v := .int .i64 0) rfl
  have o2 := HB6.out.cb (k := 2) (v := .int .i64 0) rfl
  have o3 := HB6.out.cb (k := 3) (v := .slice none 0 0) rfl
  have fo := HB6.out.fb
  go_wp2
  have B2 := HB6.out.out4 (.slice a xs.length c) (.int .i64 (H : Int)) (.int .i64 (u : Int)) (.slice la5 xs.length lc5)
  have hld := ldD B2.b
  have hk7 := (HKF.out.mono (fun _ h => Or.inl h : ∀ k, k = z → k = z ∨ k = z + 1)).trans (set4_keptF (q := z + 1) w6 (.slice a xs.length c) (.int .i64 (H : Int)) (.int .i64 (u : Int)) (.slice la5 xs.length lc5)) (fun k h => .inl (.inr h))
  have hrd := H5.out.2.1.rd.over hk7 (fun k e h => by have := (World.ownsRow.lt H5.out.2.1 k e).1; have := H5.out.2.2; omega)
  refine bodyPost_ret (v := .tuple #[.agg #[.slice a xs.length c, .int .i64 (H : Int), .int .i64 (u : Int), .slice la5 xs.length lc5], .int .i64 0]) ?_ rfl ⟨_, rfl, by rw [HZ.out]; exact HX.out _ la5 lc5 B2.k hrd (fun k e => by have := (World.ownsRow.lt H5.out.2.1 k e).1; have := H5.out.2.2; omega), B2.k⟩
  rw [results_cell_tmp rfl]
  simp [asAddr, Result.andThen, hld]
theorem radv_any {R : Nat → Prop} {xs : List Srv} {t : Nat} {xv : Value} (hv : Vd xs) (ht : t < 1099511627776) (w : World) (h : Xd w R xs t xv) (x : Int) :
    Calls Tryz.prog 24 #[xv, .int .i64 x] w fun e w' => ∃ xv', e = .returned (.tuple #[xv', .int .i64 (adE t x)]) ∧ Xd w' (fun k => R k ∨ w.heap.size ≤ k) xs (adT t x) xv' ∧ Kept No w w' := by
  obtain ⟨a, c, la, lc, F, rfl, h1, h2, h3, h4⟩ := h
  by_cases hx : (t : Int) ≤ x ∧ x < 1099511627776
  · obtain ⟨u, rfl⟩ : ∃ u : Nat, x = (u : Int) := ⟨x.toNat, by omega⟩
    unfold adE adT
    rw [if_pos hx, if_pos hx, Int.toNat_natCast]
    by_cases hn : u ≤ t + 3 * hyp xs
    · exact radv_near hv ht w h1 h2 h3 h4 u (by omega) (by omega) hn
    · exact radv_far hv ht w h1 h2 h3 h4 u (by omega) (by omega) (by omega)
  · unfold adE adT
    rw [if_neg hx, if_neg hx]
    exact radv_bad hv ht w h1 h2 h3 h4 x (by omega)
end Go.Proofs.YtffgcijicmfmlaaGreatDoor
