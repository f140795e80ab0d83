/-
  ReportEvents: the walk.
-/
import Derived.Test.YtehbfankjpaloaaGreatDoorZEv
import Derived.Test.YtehbfankjpaloaaGreatDoorZWk
namespace Go.Proofs.YtehbfankjpaloaaGreatDoor
open Go.RowKit Go.Shelf Plain
set_option linter.unusedVariables false
set_option linter.unusedSimpArgs false
set_option maxRecDepth 100000

def flE (es : List Evt) : List Value := es.flatMap Evt.v
theorem v_len (x : Evt) : x.v.length = 7 := rfl
theorem flE_len : ∀ es : List Evt, (flE es).length = es.length * 7
  | [] => rfl
  | x :: r => by simp only [flE, List.flatMap_cons, List.length_append, v_len, List.length_cons]; have := flE_len r; simp only [flE] at this; omega
theorem flE_app (es fs : List Evt) : flE (es ++ fs) = flE es ++ flE fs := by simp [flE]
theorem flE_at : ∀ (es : List Evt) (i j : Nat) (v : Value), i < es.length → (es.getD i dEvt).v[j]? = some v → (flE es)[i * 7 + j]? = some v
  | [], i, j, v, hi, h => by simp at hi
  | x :: r, 0, j, v, hi, h => by
    have hj : j < 7 := by have := (List.getElem?_eq_some_iff.1 h).1; rw [v_len] at this; exact this
    simp only [flE, List.flatMap_cons]
    rw [List.getElem?_append_left (by rw [v_len]; omega)]
    simpa using h
  | x :: r, i + 1, j, v, hi, h => by
    simp only [flE, List.flatMap_cons]
    rw [List.getElem?_append_right (by rw [v_len]; omega), v_len, show (i + 1) * 7 + j - 7 = i * 7 + j by omega]
    exact flE_at r i j v (by simpa using hi) (by simpa using h)
theorem own_cell {w : World} {B t k g m c : Nat} {L : List Value} (h : w.ownsRow B t k (.slice (some ⟨g, 0, none⟩) m c) m L) {j : Nat} {u : Value} (hj : L[j]? = some u) : w.cell? ⟨g, j, none⟩ = some u := by
  have := h.cells (g := g) rfl j u hj
  rw [add_none, Nat.zero_add] at this
  exact this
theorem own_cap {w : World} {B t k m c : Nat} {a : Option Addr} {L : List Value} (h : w.ownsRow B t k (.slice a m c) m L) : m ≤ c ∧ c ≤ 9223372036854775807 := by
  obtain ⟨h1, ⟨h2, h3⟩ | ⟨g', cap, cur, h2, h3, h4, h5, h6, h7, h8⟩⟩ := h
  · injection h2 with _ _ h9; subst h9; omega
  · injection h2 with h2 _ h9
    subst h9
    unfold maxLen at h6
    omega
theorem own_some {w : World} {B t z m c : Nat} {a : Option Addr} {L : List Value} (h : w.ownsRow B t z (.slice a m c) m L) : (a = none → c = 0) ∧ (0 < m → ∃ g, a = some ⟨g, 0, none⟩ ∧ B ≤ g ∧ g < w.heap.size) := by
  rcases h.2 with ⟨h2, h3⟩ | ⟨g, cap, cur, h2, h3, h4, _⟩
  · injection h2 with h4 h5 h6
    exact ⟨fun _ => h6, fun hm => by omega⟩
  · injection h2 with h5 _ _
    refine ⟨fun e => ?_, fun _ => ⟨g, h5, h3, heap_lt h4⟩⟩
    rw [e] at h5
    cases h5
theorem es_own {w : World} {B : Nat} {v : Value} {n : Nat} {es : List Evt} (h : w.ownsRow B 25 7 v n (flE es)) (hl : es.length = n) : ∃ a c, v = .slice a n c ∧ Es w (fun k => B ≤ k ∧ k < w.heap.size) a n c es := by
  have hsh : ∃ a c, v = .slice a n c := by
    rcases h.2 with ⟨h5, h6⟩ | ⟨g, cap, cur, h5, _⟩
    · exact ⟨none, 0, by rw [h5, h6]⟩
    · exact ⟨_, _, h5⟩
  obtain ⟨a, c, rfl⟩ := hsh
  have hc := own_cap h
  refine ⟨a, c, rfl, hl, hc.1, hc.2, fun i hi => ?_⟩
  obtain ⟨g, rfl, g1, g2⟩ := (own_some h).2 (by omega)
  refine ⟨g, 0, rfl, ⟨g1, g2⟩, fun j v hv => ?_⟩
  rw [Nat.zero_add]
  exact own_cell h (flE_at es i j v (by omega) hv)
/-- the parts' counts together -/
def suE (es : List Evt) (m : Nat) : Nat → Nat → Int
  | 0, _ => 0
  | p + 1, k => suE es m p k + ctE es (p : Int) m k
theorem suE_bd (es : List Evt) (m : Nat) : ∀ p k, 0 ≤ suE es m p k ∧ suE es m p k ≤ (p : Int) * m
  | 0, k => by simp [suE]
  | p + 1, k => by
    have h1 := suE_bd es m p k
    have h2 := ctE_bd es (p : Int) m k
    rw [suE, Int.natCast_add, Int.add_mul]
    simp
    omega
def ckE (es : List Evt) : Nat → Nat → Int
  | 0, _ => 0
  | n + 1, k => ckE es n k + (if (es.getD n dEvt).k = (k : Int) + 1 then 1 else 0)
theorem ckE_bd (es : List Evt) : ∀ n k, 0 ≤ ckE es n k ∧ ckE es n k ≤ n
  | 0, k => ⟨Int.le_refl _, Int.le_refl _⟩
  | n + 1, k => by
    have := ckE_bd es n k
    rw [ckE]
    split <;> omega
theorem ck_su {es : List Evt} (k : Nat) : ∀ n, (∀ i, i < n → 0 ≤ (es.getD i dEvt).p ∧ (es.getD i dEvt).p ≤ 3) → ckE es n k = suE es n 4 k
  | 0, _ => by simp [ckE, suE, ctE]
  | n + 1, h => by
    have ih := ck_su k n (fun i hi => h i (by omega))
    have hp := h n (by omega)
    simp only [suE] at ih ⊢
    rw [ckE, ctE, ctE, ctE, ctE, ih]
    by_cases hk : (es.getD n dEvt).k = (k : Int) + 1
    · rw [if_pos hk]
      have : (es.getD n dEvt).p = 0 ∨ (es.getD n dEvt).p = 1 ∨ (es.getD n dEvt).p = 2 ∨ (es.getD n dEvt).p = 3 := by omega
      rcases this with e | e | e | e <;> (rw [e]; simp only [hk, and_true]; simp) <;> omega
    · simp only [hk, and_false, if_false]
      omega

set_option maxHeartbeats 16000000 in
theorem events_law {F : Nat → Prop} {a : Option Addr} {n c : Nat} {xs : List Evt} (w : World) (hg : Gl w) (h : Es w F a n c xs) (hF : ∀ k, F k → k < w.heap.size) (hb : n * 72 ≤ 140737488351232) :
    Calls Tryz.prog 3 #[.slice a n c] w fun e w' => e = .returned (.bool true) ∧ Kept No w w' := by
  have hn : n ≤ 9223372036854775807 := Nat.le_trans h.cap h.max
  have HE := hid (And.intro h hF)
  have HG := hid hg
  have HB := hid hb
  have hW : Hid (∀ W, Kept No w W → Calls Tryz.prog 5 #[] W fun e w' => e = .returned (.bool true) ∧ Kept No W w') := fun W k => works_any W (hg.kept k)
  obtain ⟨i0, hi, hz0, hz1, hz2⟩ := info_parts Tryz.infoEv
  have hnb : (n : Int) ≤ 1954687338213 := by omega
  clear hg h hF hb
  go_enter Tryz.func3, Tryz.ntmps3
  go_wp2
  go_loopw [3, 4] (fun v y wr => ∃ (k : Nat) (es : List Evt), y = .int .i64 k ∧ k ≤ n ∧ es.length ≤ k ∧ wr.ownsRow w.heap.size 25 7 v es.length (flE es) ∧ (∀ x ∈ es, 0 ≤ x.p ∧ x.p ≤ 3) ∧ Kept No w wr) (fun _ y _ => n - (intOf y).toNat)
  case atStart => exact ⟨0, [], rfl, Nat.zero_le _, Nat.le_refl _, World.ownsRow_nil _ _ _ _, (fun x hx => by cases hx), Kept.refl _ _⟩
  case round =>
    obtain ⟨k, es, rfl, hk, hes, hown, hpp, K⟩ := hrel
    have HL := hid (And.intro hown (And.intro hpp K))
    clear hown hpp K
    by_cases hlt : k < n
    · have hkn : (k : Int) < (n : Int) := by omega
      obtain ⟨b, o, rfl, hb, hc⟩ := HE.out.1.at' k hlt
      have hc2 : ∀ j v, (xs.getD k dEvt).v[j]? = some v → wr.cell? ⟨b, o + k * 7 + j, none⟩ = some v := fun j v hv => HL.out.2.2.cell (hc j v hv) (fun h => h)
      generalize xs.getD k dEvt = x at *
      obtain ⟨xt, xp, xk, xr, xa, xb, xda, xdn, xdc⟩ := x
      have r0 := hc2 0 _ rfl
      have r1 := hc2 1 _ rfl
      have r2 := hc2 2 _ rfl
      have r3 := hc2 3 _ rfl
      have r4 := hc2 4 _ rfl
      have r5 := hc2 5 _ rfl
      have r6 := hc2 6 _ rfl
      rw [Nat.add_zero] at r0
      simp only at r0 r1 r2 r3 r4 r5 r6
      clear hc hc2
      have HLK := hid (And.intro hes hlt)
      clear hes
      by_cases hp0 : 0 ≤ xp
      · by_cases hp3 : xp ≤ 3
        · have g0 : decide (0 ≤ xp) = true := decide_eq_true hp0
          have g3 : decide (xp ≤ 3) = true := decide_eq_true hp3
          have HP := hid (And.intro hp0 hp3)
          have hcell : ∀ j u, ([.int .i64 xt, .int .i64 xp, .int .i64 xk, .int .i64 xr, .int .i64 xa, .int .i64 xb, .slice xda xdn xdc] : List Value)[j]? = some u → (wr.alloc (.cells #[.int .i64 xt, .int .i64 xp, .int .i64 xk, .int .i64 xr, .int .i64 xa, .int .i64 xb, .slice xda xdn xdc] 25)).cell? (Addr.add ⟨wr.heap.size, 0, none⟩ j) = some u := fun j u hj => by
            match j, hj with
            | 0, hj => simp at hj; subst hj; simp [Addr.add]
            | 1, hj => simp at hj; subst hj; simp [Addr.add]
            | 2, hj => simp at hj; subst hj; simp [Addr.add]
            | 3, hj => simp at hj; subst hj; simp [Addr.add]
            | 4, hj => simp at hj; subst hj; simp [Addr.add]
            | 5, hj => simp at hj; subst hj; simp [Addr.add]
            | 6, hj => simp at hj; subst hj; simp [Addr.add]
            | j + 7, hj => simp at hj
          have hone : ∀ y ∈ ([.int .i64 xt, .int .i64 xp, .int .i64 xk, .int .i64 xr, .int .i64 xa, .int .i64 xb, .slice xda xdn xdc] : List Value), y.oneCell' = true := by simp [Value.oneCell']
          have HCE := hid (And.intro hcell hone)
          clear hcell hone
          go_wp2_with (at_builtin; refine wpList_append_own_at _ rfl _ _ 22 rfl w.heap.size 25 i0 (.agg #[.int .i64 0, .int .i64 0, .int .i64 0, .int .i64 0, .int .i64 0, .int .i64 0, .slice none 0 0]) 7 72 Tryz.underlying22 hi hz0 hz1 hz2 rfl (by decide) _ _ _ rfl (HL.out.1.alloc _) ⟨wr.heap.size, 0, none⟩ 1 1 [.int .i64 xt, .int .i64 xp, .int .i64 xk, .int .i64 xr, .int .i64 xa, .int .i64 xb, .slice xda xdn xdc] rfl rfl HCE.out.1 HCE.out.2 (by have := HLK.out; have := HB.out; unfold maxLen; omega) (by have := HLK.out; have := HB.out; omega) (by have := HL.out.2.2.size; simp; omega) ?_; intro v1 w6 own1 grow1 _ at1)
          have H6 : Hid (Kept No w w6 ∧ w6.ownsRow w.heap.size 25 7 v1 (es.length + 1) (flE (es ++ [⟨xt, xp, xk, xr, xa, xb, xda, xdn, xdc⟩]))) := by
            refine ⟨(HL.out.2.2.alloc _).grown grow1 (fun g e => .inr (HL.out.1.lt g e).1), ?_⟩
            rw [flE_app]
            exact own1
          clear own1 grow1 at1
          go_wp2
          go_roundw
          case rel =>
            refine ⟨k + 1, es ++ [⟨xt, xp, xk, xr, xa, xb, xda, xdn, xdc⟩], by go_num, by omega, by have := HLK.out; simp; omega, by rw [List.length_append]; exact H6.out.2, fun y hy => ?_, H6.out.1⟩
            rcases List.mem_append.1 hy with hy | hy
            · exact HL.out.2.1 y hy
            · simp at hy; subst hy; exact HP.out
          case measure => have := HLK.out; simp [intOf]; omega
        · have g0 : decide (0 ≤ xp) = true := decide_eq_true hp0
          have g3 : decide (xp ≤ 3) = false := decide_eq_false hp3
          go_wp2
          go_roundw
          case rel => exact ⟨k + 1, es, by go_num, by omega, by have := HLK.out; omega, HL.out.1, HL.out.2.1, HL.out.2.2⟩
          case measure => have := HLK.out; simp [intOf]; omega
      · have g0 : decide (0 ≤ xp) = false := decide_eq_false hp0
        go_wp2
        go_roundw
        case rel => exact ⟨k + 1, es, by go_num, by omega, by have := HLK.out; omega, HL.out.1, HL.out.2.1, HL.out.2.2⟩
        case measure => have := HLK.out; simp [intOf]; omega
    · have hown := HL.out.1
      obtain ⟨la, lc, rfl, hEs⟩ := es_own hown rfl
      clear hown
      obtain ⟨m, hm⟩ : ∃ m, m = es.length := ⟨_, rfl⟩
      rw [← hm] at hEs hes
      rw [← hm]
      have hPt : ∀ i, i < m → 0 ≤ (es.getD i dEvt).p ∧ (es.getD i dEvt).p ≤ 3 := fun i hi => HL.out.2.1 _ (by
        rw [List.getD, List.getElem?_eq_getElem (by omega)]
        exact List.getElem_mem _)
      have HES := hid (And.intro hEs hPt)
      have HK1 := hid HL.out.2.2
      have hmb : (m : Int) ≤ 1954687338213 := by omega
      have hm9 : m ≤ 1954687338213 := by omega
      have HMB := hid hm9
      have hkn : ¬ (k : Int) < (n : Int) := by omega
      clear hEs hPt hm HL hes hk hlt hm9
      generalize wr = w1 at *
      go_upto_region 7 with fail
      clear hkn
      obtain ⟨w2, hmk, hcw, hk2, hs2⟩ := make_row w1 12 (by omega)
      rw [show ((12 : Nat) : Int) = 12 from rfl] at hmk
      obtain ⟨gs, hgs⟩ : ∃ gs, gs = w1.heap.size := ⟨_, rfl⟩
      have HGS := hid hgs
      rw [← hgs] at hmk hcw
      have H2 := hid (And.intro (hcw.congr' (f' := suE es m 0) (fun j hj => rfl)) hk2)
      clear hcw hk2 hs2 hgs
      have HEG : Hid (∀ k, (w.heap.size ≤ k ∧ k < w1.heap.size) → k ≠ gs) := fun k hk e => by have := HGS.out; omega
      go_upto_region 8 with fail
      clear hmk
      go_wp2
      go_loopw [6] (fun x wr => ∃ p : Nat, x = .int .i64 p ∧ p ≤ 4 ∧ Cw wr gs 12 (suE es m p) ∧ Kept (fun b => b = gs) w1 wr) (fun x _ => 4 - (intOf x).toNat)
      case atStart => exact ⟨0, rfl, by omega, H2.out.1, H2.out.2.mono (fun _ h => h.elim)⟩
      case round =>
        obtain ⟨p, rfl, hp, hcw, K⟩ := hrel
        have HL := hid (And.intro hcw K)
        clear hcw K H2
        by_cases hlt : p < 4
        · have hp4 : (p : Int) ≤ 3 := by omega
          have HEw : Hid (Es wr (fun k => w.heap.size ≤ k ∧ k < w1.heap.size) la m lc es) := HES.out.1.kept HL.out.2 (fun b hb => HEG.out b hb)
          have hct := counts_any (p : Int) wr HEw.out (fun k hk => Nat.lt_of_lt_of_le hk.2 HL.out.2.size)
          have HP := hid hlt
          clear hp hlt
          go_wp2_with (go_at_call 4; refine hct.mono ?_; rintro e w3 ⟨gc, rfl, q1, q2, q3⟩; have H3 := hid (And.intro q1 (And.intro q2 q3)); clear hct q1 q2 q3)
          have HGN : Hid (gc ≠ gs) := by
            have := H3.out.1
            have := HL.out.1.blk
            show gc ≠ gs
            omega
          have HC3 : Hid (Cw w3 gs 12 (fun j => if j < 0 then suE es m p j + ctE es (p : Int) m j else suE es m p j)) := (HL.out.1.keep H3.out.2.2).congr' (fun j hj => by rw [if_neg (by omega)])
          clear HEw
          generalize wr = wo at *
          go_loopw [8] (fun x wr => ∃ k : Nat, x = .int .i64 k ∧ k ≤ 12 ∧ Cw wr gs 12 (fun j => if j < k then suE es m p j + ctE es (p : Int) m j else suE es m p j) ∧ Kept (fun b => b = gs) w3 wr) (fun x _ => 12 - (intOf x).toNat)
          case atStart => exact ⟨0, rfl, by omega, HC3.out, Kept.refl _ _⟩
          case round =>
            obtain ⟨k, rfl, hk, hcw, K⟩ := hrel
            have HI := hid (And.intro hcw K)
            clear hcw K HC3
            by_cases hlt : k < 12
            · have hk12 : (k : Int) < 12 := by omega
              have c0 := HI.out.1.at' k hlt
              rw [if_neg (by omega)] at c0
              have d0 : wr.cell? ⟨gc, k, none⟩ = some (.int .i64 (ctE es (p : Int) m k)) := HI.out.2.cell (H3.out.2.1.at' k hlt) HGN.out
              have hfz := HI.out.1.fz
              have b0 := suE_bd es m p k
              have b1 := ctE_bd es (p : Int) m k
              have b2 : (p : Int) * (m : Int) ≤ 4 * 1954687338213 := Int.mul_le_mul (by have := HP.out; omega) hmb (by omega) (by omega)
              have HST : Hid (∀ v, v = suE es m p k + ctE es (p : Int) m k → Cw (wr.setCell ⟨gs, k, none⟩ (.int .i64 v)) gs 12 (fun j => if j < k + 1 then suE es m p j + ctE es (p : Int) m j else suE es m p j)) := fun v hv => by
                refine (Cw.set HI.out.1 k v).congr' (fun j hj => ?_)
                unfold upI
                by_cases e : j = k
                · subst e; rw [if_pos rfl, if_pos (by omega)]; exact hv
                · rw [if_neg e]; dsimp only
                  by_cases e2 : j < k
                  · rw [if_pos e2, if_pos (by omega)]
                  · rw [if_neg e2, if_neg (by omega)]
              have HSK : Hid (∀ v, Kept (fun b => b = gs) w3 (wr.setCell ⟨gs, k, none⟩ v)) := fun v => HI.out.2.trans kept_set (fun _ h => .inl h)
              have HKK := hid hlt
              generalize suE es m p k = s0 at *
              generalize ctE es (p : Int) m k = s1 at *
              have b3 : s0 ≤ 7818749352852 := by omega
              have b4 : s1 ≤ 1954687338213 := by omega
              have b5 : 0 ≤ s0 := b0.1
              have b6 : 0 ≤ s1 := b1.1
              clear b0 b1 b2 hlt hk
              generalize wr = wi at *
              go_upto_region 17 with fail
              go_region
              go_wp2
              go_roundw
              case rel => exact ⟨k + 1, by go_num, by have := HKK.out; omega, (HST.out _ rfl).keep ((Kept.refl No _).drew), (HSK.out _).drew⟩
              case measure => have := HKK.out; simp [intOf]; omega
            · have e : k = 12 := by omega
              subst e
              have HS5 : Hid (Cw wr gs 12 (suE es m (p + 1))) := HI.out.1.congr' (fun j hj => by rw [if_pos hj, suE])
              have HK5 : Hid (Kept (fun b => b = gs) w1 wr) := (HL.out.2.trans H3.out.2.2 (fun _ h => h.elim)).trans HI.out.2 (fun _ h => .inl h)
              go_wp2
              go_roundw
              case rel => exact ⟨p + 1, by go_num, by have := HP.out; omega, HS5.out, HK5.out⟩
              case measure => have := HP.out; simp [intOf]; omega
        · have e : p = 4 := by omega
          subst e
          have HS4 := hid HL.out.1
          have hk4 : Kept No w wr := HK1.out.trans HL.out.2 (fun b e => .inr (by have := HK1.out.size; rw [e, HGS.out]; exact this))
          have HK4 := hid hk4
          have HEw : Hid (Es wr (fun k => w.heap.size ≤ k ∧ k < w1.heap.size) la m lc es) := HES.out.1.kept HL.out.2 (fun b hb => HEG.out b hb)
          have HPT := hid HES.out.2
          clear HL hk4
          generalize wr = w4 at *
          go_wp2
          go_loopw [9] (fun x wr => ∃ k : Nat, x = .int .i64 k ∧ k ≤ 12 ∧ wr = w4) (fun x _ => 12 - (intOf x).toNat)
          case atStart => exact ⟨0, rfl, by omega, rfl⟩
          case round =>
            obtain ⟨k, rfl, hk, hw⟩ := hrel
            obtain rfl := hw.symm
            clear hw
            by_cases hlt : k < 12
            · have hk12 : (k : Int) < 12 := by omega
              have HKK := hid hlt
              clear hlt hk
              go_wp2
              go_loopw [10, 11] (fun x y wr => ∃ i : Nat, y = .int .i64 i ∧ x = .int .i64 (ckE es i k) ∧ i ≤ m ∧ wr = w4) (fun _ y _ => m - (intOf y).toNat)
              case atStart => exact ⟨0, rfl, rfl, Nat.zero_le _, rfl⟩
              case round =>
                obtain ⟨i, rfl, rfl, him, hw⟩ := hrel
                obtain rfl := hw.symm
                clear hw
                by_cases hlt : i < m
                · have him2 : (i : Int) < (m : Int) := by omega
                  obtain ⟨b, o, rfl, hb, hc⟩ := HEw.out.at' i hlt
                  have HCS : Hid (ckE es (i + 1) k = ckE es i k + (if (es.getD i dEvt).k = (k : Int) + 1 then 1 else 0)) := rfl
                  have hcb := ckE_bd es i k
                  have HII := hid hlt
                  have hlc : m ≤ lc ∧ lc ≤ 9223372036854775807 := ⟨HEw.out.cap, HEw.out.max⟩
                  generalize es.getD i dEvt = x at *
                  obtain ⟨xt, xp, xk, xr, xa, xb, xda, xdn, xdc⟩ := x
                  have r2 := hc 2 _ rfl
                  simp only at r2 HCS
                  have hcb2 : ckE es i k ≤ 1954687338213 := by omega
                  have hcb3 : 0 ≤ ckE es i k := hcb.1
                  have hib : (i : Int) ≤ 1954687338213 := by omega
                  clear hc hcb
                  by_cases hkd : xk = (k : Int) + 1
                  · have HC1 : Hid (ckE es (i + 1) k = ckE es i k + 1) := by
                      show _ = _
                      rw [HCS.out, if_pos hkd]
                    subst hkd
                    generalize ckE es i k = v at *
                    go_wp2
                    go_roundw
                    case rel => exact ⟨i + 1, by go_num, by rw [HC1.out], by have := HII.out; omega, trivial⟩
                    case measure => have := HII.out; simp [intOf]; omega
                  · have HC1 : Hid (ckE es (i + 1) k = ckE es i k) := by
                      show _ = _
                      rw [HCS.out, if_neg hkd]; omega
                    have g2 : (xk == (k : Int) + 1) = false := by simpa using hkd
                    generalize ckE es i k = v at *
                    go_wp2
                    go_roundw
                    case rel => exact ⟨i + 1, by go_num, by rw [HC1.out], by have := HII.out; omega, trivial⟩
                    case measure => have := HII.out; simp [intOf]; omega
                · have e : m = i := by omega
                  subst e
                  have c0 := HS4.out.at' k HKK.out
                  rw [← ck_su k m HPT.out] at c0
                  generalize ckE es m k = v at *
                  have hv : (v != v) = false := by simp
                  go_wp2
                  go_roundw
                  case rel => exact ⟨k + 1, by go_num, by have := HKK.out; omega, trivial⟩
                  case measure => have := HKK.out; simp [intOf]; omega
            · have e : k = 12 := by omega
              subst e
              have hw5 := hW.out w4 HK4.out
              go_wp2_with (go_at_call 5; refine hw5.mono ?_; rintro e w5 ⟨rfl, k5⟩; have H5 := hid k5; clear hw5 k5)
              go_ret
              exact ⟨rfl, HK4.out.trans H5.out (fun _ h => h.elim)⟩
end Go.Proofs.YtehbfankjpaloaaGreatDoor
