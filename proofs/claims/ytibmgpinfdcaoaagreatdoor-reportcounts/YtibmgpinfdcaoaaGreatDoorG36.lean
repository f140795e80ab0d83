/-
  One text: KNm, ZEv, KAl.
-/
import Derived.Test.YtibmgpinfdcaoaaGreatDoorG35
import Derived.BigQuiet
import Derived.Test.YtibmgpinfdcaoaaGreatDoorG09
import Derived.Deep.MidRow
import Derived.Deep.RegionHeld
namespace Go.Proofs.YtibmgpinfdcaoaaGreatDoor
open Go.RowKit Plain
set_option linter.unusedVariables false
set_option linter.unusedSimpArgs false
set_option maxRecDepth 100000

/-- a list of numbers that is read -/
structure Nm (w : World) (G : Nat → Prop) (a : Option Addr) (n c : Nat) (f : Nat → Int) : Prop where
  cap : n ≤ c
  max : c ≤ 9223372036854775807
  at' : ∀ i, i < n → ∃ b, a = some ⟨b, 0, none⟩ ∧ G b ∧ w.cell? ⟨b, i, none⟩ = some (.int .i64 (f i))
theorem Nm.kept {w w' : World} {G H : Nat → Prop} {a : Option Addr} {m c : Nat} {f : Nat → Int} (h : Nm w G a m c f) (k : Kept H w w') (hd : ∀ b, G b → ¬ H b) : Nm w' G a m c f :=
  ⟨h.cap, h.max, fun i hi => by obtain ⟨b, e, hg, hc⟩ := h.at' i hi; exact ⟨b, e, hg, k.cell hc (hd b hg)⟩⟩
theorem Nm.keep {w w' : World} {G : Nat → Prop} {a : Option Addr} {m c : Nat} {f : Nat → Int} (h : Nm w G a m c f) (k : Kept No w w') : Nm w' G a m c f := h.kept k (fun _ _ h => h)
theorem Nm.mono {w : World} {G H : Nat → Prop} {a : Option Addr} {m c : Nat} {f : Nat → Int} (h : Nm w G a m c f) (hd : ∀ b, G b → H b) : Nm w H a m c f :=
  ⟨h.cap, h.max, fun i hi => by obtain ⟨b, e, hg, hc⟩ := h.at' i hi; exact ⟨b, e, hd b hg, hc⟩⟩
theorem nm_nil (w : World) (G : Nat → Prop) (f : Nat → Int) : Nm w G none 0 0 f := ⟨Nat.le_refl _, by omega, fun i hi => by omega⟩
def ncL (f : Nat → Int) (m : Nat) : List Value := (List.range m).map (fun i => .int .i64 (f i))
theorem ncL_succ (f : Nat → Int) (m : Nat) : ncL f (m + 1) = ncL f m ++ [.int .i64 (f m)] := by simp [ncL, List.range_succ]
theorem ncL_get (f : Nat → Int) {m i : Nat} (h : i < m) : (ncL f m)[i]? = some (.int .i64 (f i)) := by simp [ncL, h]
theorem Nm.of {w : World} {base : Nat} {v : Value} {f : Nat → Int} {m : Nat} (h : w.ownsRow base 3 1 v m (ncL f m)) : ∃ a c, v = .slice a m c ∧ Nm w (fun k => base ≤ k ∧ k < w.heap.size) a m c f := by
  rcases owns_cells h with ⟨rfl, h2⟩ | ⟨g, cap, rfl, h2, h3, h4, h5, h6, h7⟩
  · subst h2
    exact ⟨none, 0, rfl, nm_nil _ _ _⟩
  · refine ⟨_, cap, rfl, h4, by unfold maxLen at h5; omega, fun i hi => ⟨g, rfl, ⟨h2, h3⟩, h6 i _ (ncL_get f hi)⟩⟩


/-- a row of numbers that is its holder's -/
structure Rw9 (w : World) (lo : Nat) (a : Option Addr) (n : Nat) (f : Nat → Int) : Prop where
  sh : (a = none ∧ n = 0) ∨ ∃ g, a = some ⟨g, 0, none⟩ ∧ lo ≤ g ∧ g < w.heap.size ∧ (∀ i, i < n → w.cell? ⟨g, i, none⟩ = some (.int .i64 (f i))) ∧ ∀ k, w.frozen? ⟨g, k, none⟩ = false
  max : n ≤ 9223372036854775807
theorem Rw9.nm {w : World} {lo : Nat} {a : Option Addr} {n : Nat} {f : Nat → Int} (h : Rw9 w lo a n f) : Nm w (fun k => lo ≤ k ∧ k < w.heap.size) a n n f := by
  refine ⟨Nat.le_refl _, h.max, fun i hi => ?_⟩
  rcases h.sh with ⟨_, h0⟩ | ⟨g, e, h1, h2, h3, _⟩
  · omega
  · exact ⟨g, e, ⟨h1, h2⟩, h3 i hi⟩
theorem Rw9.kept {w w' : World} {lo : Nat} {a : Option Addr} {n : Nat} {f : Nat → Int} {G : Nat → Prop} (h : Rw9 w lo a n f) (k : Kept G w w') (hd : ∀ b, Bk9 a b → ¬ G b) : Rw9 w' lo a n f := by
  refine ⟨?_, h.max⟩
  rcases h.sh with h0 | ⟨g, e, h1, h2, h3, h4⟩
  · exact .inl h0
  · have hg := hd g e
    refine .inr ⟨g, e, h1, Nat.lt_of_lt_of_le h2 k.size, fun i hi => k.cell (h3 i hi) hg, fun j => ?_⟩
    have eb := k.block g h2 hg
    have := h4 j
    simp only [World.frozen?] at this ⊢
    rw [eb]; exact this
theorem Rw9.keep {w w' : World} {lo : Nat} {a : Option Addr} {n : Nat} {f : Nat → Int} (h : Rw9 w lo a n f) (k : Kept No w w') : Rw9 w' lo a n f := h.kept k (fun _ _ h => h)
theorem Rw9.set {w : World} {lo g n : Nat} {f : Nat → Int} (h : Rw9 w lo (some ⟨g, 0, none⟩) n f) (k : Nat) (x : Int) (hk : k < n) : Rw9 (w.setCell ⟨g, k, none⟩ (.int .i64 x)) lo (some ⟨g, 0, none⟩) n (fun i => if i = k then x else f i) := by
  refine ⟨?_, h.max⟩
  rcases h.sh with ⟨h0, _⟩ | ⟨g', e, h1, h2, h3, h4⟩
  · cases h0
  · injection e with e; injection e with e _ _; subst e
    refine .inr ⟨g, rfl, h1, by simpa [World.setCell] using h2, fun i hi => ?_, fun j => by rw [World.frozen?_setCell]; exact h4 j⟩
    rw [cell_set (h3 i hi)]
    by_cases e : i = k
    · rw [if_pos e, if_pos e]
    · rw [if_neg e, if_neg e]
theorem Rw9.ext {w : World} {lo : Nat} {a : Option Addr} {n : Nat} {f f' : Nat → Int} (h : Rw9 w lo a n f) (he : ∀ i, i < n → f i = f' i) : Rw9 w lo a n f' := by
  refine ⟨?_, h.max⟩
  rcases h.sh with h0 | ⟨g, e, h1, h2, h3, h4⟩
  · exact .inl h0
  · exact .inr ⟨g, e, h1, h2, fun i hi => by rw [← he i hi]; exact h3 i hi, h4⟩


theorem Cw.rw9 {w : World} {g n lo : Nat} {f : Nat → Int} (h : Cw w g n f) (hl : lo ≤ g) (hn : n ≤ 9223372036854775807) : Rw9 w lo (some ⟨g, 0, none⟩) n f := ⟨.inr ⟨g, rfl, hl, h.blk, h.at', h.fz⟩, hn⟩
theorem rw9_nil (w : World) (lo : Nat) (f : Nat → Int) : Rw9 w lo none 0 f := ⟨.inl ⟨rfl, rfl⟩, by omega⟩
theorem Rw9.low {w : World} {lo lo' : Nat} {a : Option Addr} {n : Nat} {f : Nat → Int} (h : Rw9 w lo a n f) (hl : lo' ≤ lo) : Rw9 w lo' a n f := by
  refine ⟨?_, h.max⟩
  rcases h.sh with h0 | ⟨g, e, h1, r⟩
  · exact .inl h0
  · exact .inr ⟨g, e, by omega, r⟩
theorem Rw9.bk {w : World} {lo : Nat} {a : Option Addr} {n : Nat} {f : Nat → Int} (h : Rw9 w lo a n f) {b : Nat} (hb : Bk9 a b) : lo ≤ b ∧ b < w.heap.size := by
  rcases h.sh with ⟨e, _⟩ | ⟨g, e, h1, h2, _⟩
  · rw [hb] at e; cases e
  · rw [hb] at e; injection e with e; injection e with e _ _; subst e; exact ⟨h1, h2⟩
set_option maxHeartbeats 2000000 in
theorem sameI_yes {F G : Nat → Prop} {a a2 : Option Addr} {n c c2 : Nat} {f : Nat → Int} (w : World) (h : Nm w F a n c f) (h2 : Nm w G a2 n c2 f) :
    Calls Tryz.prog 11 #[.slice a n c, .slice a2 n c2] w fun e w' => e = .returned (.bool true) ∧ Kept No w w' := by
  have HS : Hid (Nm w F a n c f ∧ Nm w G a2 n c2 f) := ⟨h, h2⟩
  have hcap := h.cap
  have hmax := h.max
  have hcap2 := h2.cap
  have hmax2 := h2.max
  clear h h2
  go_enter Tryz.func11, Tryz.ntmps11
  go_wp2
  go_loopw [5] (fun x wr => ∃ k : Nat, k ≤ n ∧ x = .int .i64 k ∧ Kept No w wr) (fun x _ => n - (intOf x).toNat)
  case atStart => exact ⟨0, Nat.zero_le _, rfl, Kept.refl No w⟩
  case round =>
    obtain ⟨k, hk, rfl, hkr⟩ := hrel
    have HKR : Hid (Kept No w wr) := hkr
    clear hkr
    by_cases hlt : k < n
    · have hltz : (k : Int) < (n : Int) := by omega
      obtain ⟨b, rfl, _, e0⟩ := HS.out.1.at' k hlt
      obtain ⟨b2, rfl, _, d0⟩ := HS.out.2.at' k hlt
      have e0' := HKR.out.cell e0 (fun h => h)
      have d0' := HKR.out.cell d0 (fun h => h)
      generalize f k = y0 at *
      clear e0 d0
      go_upto_region 6 with fail
      go_quiet (fail)
      clear e0' d0'
      go_wp2
      go_roundw
      case rel => exact ⟨k + 1, by omega, by go_num, HKR.out.drewN _⟩
      case measure => simp [intOf]; omega
    · have hltz : ¬ (k : Int) < (n : Int) := by omega
      clear hk
      go_wp2
      go_ret
      exact ⟨rfl, HKR.out⟩
theorem Nm.of2 {w : World} {base : Nat} {v : Value} {f : Nat → Int} {m : Nat} (h : w.ownsRow base 3 1 v m (ncL f m)) : ∃ a c, v = .slice a m c ∧ Nm w (fun k => base ≤ k ∧ k < w.heap.size) a m c f ∧ Rw9 w base a m f := by
  rcases owns_cells h with ⟨rfl, h2⟩ | ⟨g, cap, rfl, h2, h3, h4, h5, h6, h7⟩
  · subst h2
    exact ⟨none, 0, rfl, nm_nil _ _ _, rw9_nil _ _ _⟩
  · have hc : cap ≤ 9223372036854775807 := by unfold maxLen at h5; omega
    exact ⟨_, cap, rfl, ⟨h4, hc, fun i hi => ⟨g, rfl, ⟨h2, h3⟩, h6 i _ (ncL_get f hi)⟩⟩, ⟨.inr ⟨g, rfl, h2, h3, fun i hi => h6 i _ (ncL_get f hi), h7⟩, by omega⟩⟩
end Go.Proofs.YtibmgpinfdcaoaaGreatDoor

namespace Go.Proofs.YtibmgpinfdcaoaaGreatDoor
open Go.RowKit Plain
set_option linter.unusedVariables false
set_option linter.unusedSimpArgs false
set_option maxRecDepth 100000

structure Evt where
  t : Int
  p : Int
  k : Int
  r : Int
  ea : Int
  eb : Int
  da : Option Addr
  dn : Nat
  dc : Nat
def dEvt : Evt := ⟨0, 0, 0, 0, 0, 0, none, 0, 0⟩
def Evt.v (x : Evt) : List Value := [.int .i64 x.t, .int .i64 x.p, .int .i64 x.k, .int .i64 x.r, .int .i64 x.ea, .int .i64 x.eb, .slice x.da x.dn x.dc]
structure Es (w : World) (F : Nat → Prop) (a : Option Addr) (n c : Nat) (xs : List Evt) : Prop where
  len : xs.length = n
  cap : n ≤ c
  max : c ≤ 9223372036854775807
  at' : ∀ i, i < n → ∃ b o, a = some ⟨b, o, none⟩ ∧ F b ∧ (∀ j v, (xs.getD i dEvt).v[j]? = some v → w.cell? ⟨b, o + i * 7 + j, none⟩ = some v)
theorem Es.kept {w w' : World} {F G : Nat → Prop} {a : Option Addr} {n c : Nat} {xs : List Evt} (h : Es w F a n c xs) (k : Kept G w w') (hd : ∀ b, F b → ¬ G b) : Es w' F a n c xs :=
  ⟨h.len, h.cap, h.max, fun i hi => by obtain ⟨b, o, e, hb, hc⟩ := h.at' i hi; exact ⟨b, o, e, hb, fun j v hv => k.cell (hc j v hv) (hd b hb)⟩⟩
theorem Es.keep {w w' : World} {F : Nat → Prop} {a : Option Addr} {n c : Nat} {xs : List Evt} (h : Es w F a n c xs) (k : Kept No w w') : Es w' F a n c xs := h.kept k (fun _ _ h => h)
theorem Tryz.infoE : (Tryz.prog.info? 54).map (·.size) = some 7 := by kernel_rfl
theorem Tryz.infoEv : (Tryz.prog.info? 54).map (fun i => (i.zero, i.size, i.bytes)) = some (some (.agg #[.int .i64 0, .int .i64 0, .int .i64 0, .int .i64 0, .int .i64 0, .int .i64 0, .slice none 0 0]), 7, 72) := by kernel_rfl
theorem run_ldE {w : World} {b o : Nat} {x : Evt} (h : ∀ j v, x.v[j]? = some v → w.cell? ⟨b, o + j, none⟩ = some v) : (Instr.loadAt 54 (.pointer (some ⟨b, o, none⟩))).run Tryz.prog w = .ok (.agg x.v.toArray) w :=
  run_loadAt_mid w b o _ x.v _ h Tryz.underlying54 rfl Tryz.infoE

/-- how many of the first n are of this part and this kind -/
def ctE (xs : List Evt) (p : Int) : Nat → Nat → Int
  | 0, _ => 0
  | n + 1, k => ctE xs p n k + (if (xs.getD n dEvt).p = p ∧ (xs.getD n dEvt).k = (k : Int) + 1 then 1 else 0)
theorem ctE_bd (xs : List Evt) (p : Int) : ∀ n k, 0 ≤ ctE xs p n k ∧ ctE xs p n k ≤ n
  | 0, _ => ⟨Int.le_refl _, Int.le_refl _⟩
  | n + 1, k => by
    have := ctE_bd xs p n k
    rw [ctE]
    split <;> omega

theorem ctE_hit {xs : List Evt} {p : Int} {n q : Nat} (h1 : (xs.getD n dEvt).p = p) (h2 : (xs.getD n dEvt).k = (q : Int) + 1) : ctE xs p (n + 1) = upI (ctE xs p n) q (ctE xs p n q + 1) := by
  funext j
  rw [ctE]
  by_cases e : j = q
  · subst e; rw [upI_same, if_pos ⟨h1, h2⟩]
  · rw [upI_oth _ _ e, if_neg (fun h => e (by have := h.2; omega))]; omega
theorem ctE_miss {xs : List Evt} {p : Int} {n : Nat} (h : ¬ ((xs.getD n dEvt).p = p ∧ 1 ≤ (xs.getD n dEvt).k ∧ (xs.getD n dEvt).k ≤ 12)) : ∀ j, j < 12 → ctE xs p n j = ctE xs p (n + 1) j := fun j hj => by
  rw [ctE, if_neg (fun h' => h ⟨h'.1, by have := h'.2; omega, by have := h'.2; omega⟩)]
  omega
theorem Cw.congr {w : World} {g m : Nat} {f f' : Nat → Int} (h : Cw w g m f) (e : ∀ j, j < m → f j = f' j) : Cw w g m f' := ⟨fun i hi => by rw [← e i hi]; exact h.at' i hi, h.fz, h.blk⟩

set_option maxHeartbeats 8000000 in
theorem counts_any {F : Nat → Prop} {a : Option Addr} {n c : Nat} {xs : List Evt} (p : Int) (w : World) (h : Es w F a n c xs) (hF : ∀ k, F k → k < w.heap.size) :
    Calls Tryz.prog 9 #[.slice a n c, .int .i64 p] w fun e w' => ∃ g, e = .returned (.slice (some ⟨g, 0, none⟩) 12 12) ∧ w.heap.size ≤ g ∧ Cw w' g 12 (ctE xs p n) ∧ Kept No w w' := by
  have hn : n ≤ 9223372036854775807 := Nat.le_trans h.cap h.max
  obtain ⟨w1, hm, hcw, hk1, hs1⟩ := make_row w 12 (by omega)
  have HM : Hid (Cw w1 w.heap.size 12 (fun _ => 0) ∧ Kept No w w1 ∧ w1.heap.size = w.heap.size + 1) := ⟨hcw, hk1, hs1⟩
  have HE : Hid (Es w F a n c xs ∧ ∀ k, F k → k < w.heap.size) := ⟨h, hF⟩
  clear hcw hk1 hs1 h hF
  obtain ⟨g, hg⟩ : ∃ g, g = w.heap.size := ⟨_, rfl⟩
  have HG : Hid (g = w.heap.size) := hg
  rw [← hg, show ((12 : Nat) : Int) = 12 from rfl] at hm
  clear hg
  go_enter Tryz.func9, Tryz.ntmps9
  go_upto_region 2 with fail
  go_wp2
  go_loopw [11] (fun i wr => ∃ k : Nat, k ≤ n ∧ i = .int .i64 k ∧ Cw wr g 12 (ctE xs p k) ∧ Kept (fun b => b = g) w1 wr) (fun i _ => n - (intOf i).toNat)
  case atStart =>
    refine ⟨0, by omega, rfl, ?_, Kept.refl _ _⟩
    have := HM.out.1
    rw [← HG.out] at this
    exact this
  case round =>
    obtain ⟨k, hk, rfl, hcw, K⟩ := hrel
    have HC : Hid (Cw wr g 12 (ctE xs p k) ∧ Kept (fun b => b = g) w1 wr) := ⟨hcw, K⟩
    clear hcw K
    by_cases hlt : k < n
    · have KW : Kept (fun b => b = g) w wr := (HM.out.2.1.mono (fun _ h => h.elim)).trans HC.out.2 (fun k h => .inl h)
      obtain ⟨b, o, rfl, hb, hc⟩ := HE.out.1.at' k hlt
      have hbg : b ≠ g := fun e => by have := HE.out.2 b hb; rw [e, HG.out] at this; omega
      have hc2 : ∀ j v, (xs.getD k dEvt).v[j]? = some v → wr.cell? ⟨b, o + k * 7 + j, none⟩ = some v := fun j v hv => KW.cell (hc j v hv) hbg
      have HB : Hid (∀ q, 0 ≤ ctE xs p k q ∧ ctE xs p k q ≤ k) := ctE_bd xs p k
      obtain ⟨x, hx⟩ : ∃ x, x = xs.getD k dEvt := ⟨_, rfl⟩
      have HH : Hid (∀ q : Nat, x.p = p → x.k = (q : Int) + 1 → ctE xs p (k + 1) = upI (ctE xs p k) q (ctE xs p k q + 1)) := fun q h1 h2 => ctE_hit (by rw [← hx]; exact h1) (by rw [← hx]; exact h2)
      have HM2 : Hid (¬ (x.p = p ∧ 1 ≤ x.k ∧ x.k ≤ 12) → ∀ j, j < 12 → ctE xs p k j = ctE xs p (k + 1) j) := fun h => ctE_miss (by rw [← hx]; exact h)
      rw [← hx] at hc hc2
      clear hx
      obtain ⟨xt, xp, xk, xr, xa, xb, xda, xdn, xdc⟩ := x
      simp only at HH HM2
      have hi2 : (k : Int) < (n : Int) := by omega
      have HA : Hid (∀ o, Cw (wr.alloc o) g 12 (ctE xs p k) ∧ Kept (fun b => b = g) w1 (wr.alloc o)) := fun o => ⟨HC.out.1.keep ((Kept.refl No wr).alloc o), HC.out.2.alloc o⟩
      have r0 := hc2 0 _ rfl
      have r1 := hc2 1 _ rfl
      have r2 := hc2 2 _ rfl
      have r3 := hc2 3 _ rfl
      have r4 := hc2 4 _ rfl
      have r5 := hc2 5 _ rfl
      have r6 := hc2 6 _ rfl
      rw [Nat.add_zero] at r0
      clear hc hc2 KW
      simp only at r0 r1 r2 r3 r4 r5 r6
      have hkm : (k : Int) ≤ 9223372036854775807 := by omega
      by_cases hp : xp = p
      · by_cases hk1 : 1 ≤ xk
        · by_cases hk2 : xk ≤ 12
          · subst hp
            obtain ⟨q, rfl⟩ : ∃ q : Nat, xk = (q : Int) + 1 := ⟨(xk - 1).toNat, by omega⟩
            have hq : q < 12 := by omega
            have HR : Hid (ctE xs xp (k + 1) = upI (ctE xs xp k) q (ctE xs xp k q + 1)) := HH.out q rfl rfl
            have hb := HB.out q
            obtain ⟨f0, hf0⟩ : ∃ f0, f0 = ctE xs xp k := ⟨_, rfl⟩
            rw [← hf0] at HA HR hb
            have HC2 : Hid (∀ o, ((wr.alloc o).cell? ⟨g, q, none⟩ = some (.int .i64 (f0 q))) ∧ (wr.alloc o).frozen? ⟨g, q, none⟩ = false) := fun o => ⟨(HA.out o).1.at' q hq, (HA.out o).1.fz q⟩
            have c1 := fun o => (HC2.out o).1
            have c2 := fun o => (HC2.out o).2
            have hq2 : (q : Int) < 12 := by omega
            have e1 : ((q : Int) + 1) - 1 = (q : Int) := by omega
            clear hf0
            go_wp2
            go_roundw
            case rel =>
              refine ⟨k + 1, by omega, by go_num, ?_, (HA.out _).2.trans kept_set (fun b hb => .inl hb)⟩
              rw [HR.out]
              exact (HA.out _).1.set q (f0 q + 1)
            case measure => simp [intOf]; omega
          · have HN : Hid (∀ j, j < 12 → ctE xs p k j = ctE xs p (k + 1) j) := HM2.out (fun h => by first | exact hp h.1 | exact hk1 h.2.1 | exact hk2 h.2.2)
            have g2 : decide (xk ≤ 12) = false := decide_eq_false hk2
            go_wp2
            go_roundw
            case rel => exact ⟨k + 1, by omega, by go_num, (HA.out _).1.congr HN.out, (HA.out _).2⟩
            case measure => simp [intOf]; omega
        · have HN : Hid (∀ j, j < 12 → ctE xs p k j = ctE xs p (k + 1) j) := HM2.out (fun h => by first | exact hp h.1 | exact hk1 h.2.1 | exact hk2 h.2.2)
          have g2 : decide (1 ≤ xk) = false := decide_eq_false hk1
          go_wp2
          go_roundw
          case rel => exact ⟨k + 1, by omega, by go_num, (HA.out _).1.congr HN.out, (HA.out _).2⟩
          case measure => simp [intOf]; omega
      · have HN : Hid (∀ j, j < 12 → ctE xs p k j = ctE xs p (k + 1) j) := HM2.out (fun h => by first | exact hp h.1 | exact hk1 h.2.1 | exact hk2 h.2.2)
        have g2 : (xp == p) = false := by simpa using hp
        go_wp2
        go_roundw
        case rel => exact ⟨k + 1, by omega, by go_num, (HA.out _).1.congr HN.out, (HA.out _).2⟩
        case measure => simp [intOf]; omega
    · obtain rfl : k = n := by omega
      go_wp2
      go_ret
      refine ⟨g, rfl, ?_, HC.out.1, ?_⟩
      · rw [HG.out]; exact Nat.le_refl _
      · exact HM.out.2.1.trans HC.out.2 (fun b hb => .inr (by subst hb; rw [HG.out]; exact Nat.le_refl _))
end Go.Proofs.YtibmgpinfdcaoaaGreatDoor

namespace Go.Proofs.YtibmgpinfdcaoaaGreatDoor
open Go.RowKit Plain
set_option linter.unusedVariables false
set_option linter.unusedSimpArgs false
set_option maxRecDepth 100000

theorem used_all {F : Nat → Prop} {a : Option Addr} {c : Nat} {xs : List Srv} (fr be : Int) (w : World) (hg : Gl w) (h : Sv w F a xs.length c xs) (hF : ∀ k, F k → k < w.heap.size) :
    Calls Tryz.prog 5 #[.slice a xs.length c, .int .i64 fr, .int .i64 be] w fun e w' => ∃ ra, e = .returned (.tuple #[.slice ra (uN xs fr be) (uN xs fr be), .int .i64 (uE xs fr be)]) ∧ Rw9 w' w.heap.size ra (uN xs fr be) (uF xs fr be) ∧ Kept No w w' := by
  cases ht : timF xs xs.length with
  | some p =>
    obtain ⟨e1, e2, _⟩ := uE_some (fr := fr) (be := be) ht
    rw [e1, e2]
    refine (used_err fr be p.1 w (tim_neQ ht) (spanE_tim fr be w hg h ht)).mono ?_
    rintro e w' ⟨rfl, k⟩
    exact ⟨none, rfl, rw9_nil _ _ _, k⟩
  | none =>
    cases hs : spO fr be with
    | false =>
      obtain ⟨e1, e2⟩ := uE_bad (fr := fr) (be := be) ht hs
      rw [e1, e2]
      refine (used_err fr be 2 w (by omega) (spanE_bad fr be w hg h ht (by have := spO_no hs; omega))).mono ?_
      rintro e w' ⟨rfl, k⟩
      exact ⟨none, rfl, rw9_nil _ _ _, k⟩
    | true =>
      obtain ⟨e1, e2⟩ := uE_yes (fr := fr) (be := be) ht hs
      obtain ⟨s1, s2, s3⟩ := spO_yes hs
      rw [e1, e2]
      have hc := used_yes fr.toNat be.toNat w hg h hF ht (by omega) (by omega)
      rw [show ((fr.toNat : Nat) : Int) = fr by omega, show ((be.toNat : Nat) : Int) = be by omega] at hc
      have hn := (vd_of ht).num
      refine hc.mono ?_
      rintro e w' ⟨g, rfl, hgl, hcw, k⟩
      exact ⟨_, rfl, hcw.rw9 hgl (by omega), k⟩
theorem shares_all {F : Nat → Prop} {a : Option Addr} {c : Nat} {xs : List Srv} (w : World) (hg : Gl w) (h : Sv w F a xs.length c xs) (hF : ∀ k, F k → k < w.heap.size) :
    Calls Tryz.prog 7 #[.slice a xs.length c] w fun e w' => ∃ ra, e = .returned (.tuple #[.slice ra (sN xs) (sN xs), .int .i64 (sE xs)]) ∧ Rw9 w' w.heap.size ra (sN xs) (sF xs) ∧ Kept No w w' := by
  cases ht : timF xs xs.length with
  | some p =>
    obtain ⟨_, _, e1, e2⟩ := uE_some (fr := 0) (be := 0) ht
    rw [e1, e2]
    refine (shares_err w hg h ht).mono ?_
    rintro e w' ⟨rfl, k⟩
    exact ⟨none, rfl, rw9_nil _ _ _, k⟩
  | none =>
    obtain ⟨e1, e2⟩ := sE_yes ht
    have hy := cyU_of ht
    have hn := (vd_of ht).num
    rw [e1, e2]
    refine (shares_yes w hg h hF ht hy.bd (sL xs) hy.L hy.Ln).mono ?_
    rintro e w' ⟨g, D, rfl, hgl, hcw, hp, ho, k⟩
    refine ⟨_, rfl, (hcw.congr' (f' := sF xs) (fun j hj => ?_)).rw9 hgl (by omega), k⟩
    unfold sF
    have e := inc_sel (K := rmK (cyU xs) (hyp xs)) hp ho hy.Ln hj
    rw [← e]
    rfl
theorem counts_all {F : Nat → Prop} {a : Option Addr} {n c : Nat} {xs : List Evt} (p : Int) (w : World) (h : Es w F a n c xs) (hF : ∀ k, F k → k < w.heap.size) :
    Calls Tryz.prog 9 #[.slice a n c, .int .i64 p] w fun e w' => ∃ ra, e = .returned (.slice ra 12 12) ∧ Rw9 w' w.heap.size ra 12 (ctE xs p n) ∧ Kept No w w' := by
  refine (counts_any p w h hF).mono ?_
  rintro e w' ⟨g, rfl, hgl, hcw, k⟩
  exact ⟨_, rfl, hcw.rw9 hgl (by omega), k⟩
theorem rspan_any (fr be : Int) (w : World) : Calls Tryz.prog 21 #[.int .i64 fr, .int .i64 be] w fun e w' => e = .returned (.bool (spO fr be)) ∧ w' = w := by
  cases h : spO fr be with
  | true =>
    obtain ⟨h1, h2, h3⟩ := spO_yes h
    clear h
    go_enter Tryz.func21, Tryz.ntmps21
    go_wp2
    go_ret
    first
      | exact ⟨rfl, rfl⟩
      | exact ⟨by simp [Array.getD] <;> omega, rfl⟩
  | false =>
    rcases spO_no h with h1 | ⟨h1, h2⟩ | ⟨h1, h2, h3⟩
    · clear h
      go_enter Tryz.func21, Tryz.ntmps21
      go_wp2
      go_ret
      first
        | exact ⟨rfl, rfl⟩
        | exact ⟨by simp [Array.getD] <;> omega, rfl⟩
    · clear h
      go_enter Tryz.func21, Tryz.ntmps21
      go_wp2
      go_ret
      first
        | exact ⟨rfl, rfl⟩
        | exact ⟨by simp [Array.getD] <;> omega, rfl⟩
    · clear h
      go_enter Tryz.func21, Tryz.ntmps21
      go_wp2
      go_ret
      first
        | exact ⟨rfl, rfl⟩
        | exact ⟨by simp [Array.getD] <;> omega, rfl⟩

end Go.Proofs.YtibmgpinfdcaoaaGreatDoor
