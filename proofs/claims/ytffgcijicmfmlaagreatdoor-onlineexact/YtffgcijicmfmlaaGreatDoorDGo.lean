/-
  One text: DFill, DPlay, DPlayW.
-/
import Derived.Test.YtffgcijicmfmlaaGreatDoorDPass
namespace Go.Proofs.YtffgcijicmfmlaaGreatDoor
open Go.RowKit Plain
set_option linter.unusedVariables false
set_option maxRecDepth 100000

/-- the rests behind a row of releases -/
def fR (s : Rule.Sys) (T : List Fi) (r : Nat → Int) (i : Nat) : Int := if T.any (fun y => y.i == (i : Int)) then (s.B i : Int) else r i
theorem fR_nil (s : Rule.Sys) (r : Nat → Int) : fR s [] r = r := by funext i; rfl
theorem fR_snoc (s : Rule.Sys) (T : List Fi) (y : Fi) (r : Nat → Int) (i : Nat) (hy : y.i = (i : Int)) : (fun j => if j = i then (s.B i : Int) else fR s T r j) = fR s (T ++ [y]) r := by
  funext j
  unfold fR
  rw [List.any_append]
  by_cases e : j = i
  · subst e
    simp [hy]
  · have : (y.i == (j : Int)) = false := beq_eq_false_iff_ne.2 (by omega)
    simp [e, this]
theorem fR_yes {s : Rule.Sys} {T : List Fi} {r : Nat → Int} {i : Nat} {y : Fi} (h1 : y ∈ T) (h2 : y.i = (i : Int)) : fR s T r i = (s.B i : Int) := by
  unfold fR
  have h : T.any (fun y => y.i == (i : Int)) = true := List.any_eq_true.2 ⟨y, h1, by simpa using h2⟩
  rw [if_pos h]
theorem fR_no {s : Rule.Sys} {T : List Fi} {r : Nat → Int} {i : Nat} (h : ∀ y, y ∈ T → y.i ≠ (i : Int)) : fR s T r i = r i := by
  unfold fR
  have h : ¬ T.any (fun y => y.i == (i : Int)) = true := fun h' => by
    obtain ⟨y, h1, h2⟩ := List.any_eq_true.1 h'
    exact h y h1 (by simpa using h2)
  rw [if_neg h]

set_option maxHeartbeats 4000000 in
theorem fill_any {w : World} {d gR bW : Nat} {a : Option Addr} {c : Nat} {FS FW : Nat → Prop} {xs : List Srv} {now : Nat} {r : Nat → Int} {nw : Nat} {L : List Fi} (hv : Vd xs) (h : Dr w d gR bW a c FS FW xs now r nw L) {B : Nat} {v : Value} {T : List Fi} (hrow : w.ownsRow B 98 2 v T.length (fcL T)) (hlen : T.length ≤ 65536) (hT : ∀ x, x ∈ T → ∃ i : Nat, i < xs.length ∧ x.i = (i : Int)) (hnot : ∀ g, v.ownBlock = some g → ¬ Fd d gR FS FW g) :
    Calls Tryz.prog 45 #[.pointer (some ⟨d, 0, none⟩), v] w fun e w' => e = .returned (.tuple #[]) ∧ Dr w' d gR bW a c FS FW xs now (fR (sys xs) T r) nw L ∧ Kept (fun j => j = gR) w w' := by
  have HV : Hid (Vd xs) := hv
  have HT : Hid (∀ x, x ∈ T → ∃ i : Nat, i < xs.length ∧ x.i = (i : Int)) := hT
  have hn := hv.num
  obtain ⟨va, vc, hvv⟩ := row_slice hrow
  subst hvv
  have HD : Hid (Dr w d gR bW a c FS FW xs now r nw L ∧ w.ownsRow B 98 2 (.slice va T.length vc) T.length (fcL T) ∧ (∀ g, (Value.slice va T.length vc).ownBlock = some g → g ≠ gR)) := ⟨h, hrow, fun g hg e => hnot g hg (.inr (.inl e))⟩
  clear h hrow hT hnot hv
  go_enter Tryz.func45, Tryz.ntmps45
  go_wp2
  go_loopw [8] (fun x wr => ∃ k : Nat, k ≤ T.length ∧ x = .int .i64 k ∧ Dr wr d gR bW a c FS FW xs now (fR (sys xs) (T.take k) r) nw L ∧ wr.ownsRow B 98 2 (.slice va T.length vc) T.length (fcL T) ∧ Kept (fun j => j = gR) w wr) (fun x _ => T.length - (intOf x).toNat)
  case atStart => exact ⟨0, Nat.zero_le _, rfl, by rw [List.take_zero, fR_nil]; exact HD.out.1, HD.out.2.1, Kept.refl _ w⟩
  case round =>
    obtain ⟨k, hk, rfl, hdr, hrw, hkp⟩ := hrel
    by_cases hlt : k < T.length
    · obtain ⟨y, hy⟩ : ∃ y, T[k]? = some y := ⟨T[k], by rw [List.getElem?_eq_getElem hlt]⟩
      obtain ⟨i, hi, ey⟩ := HT.out y (List.mem_of_getElem? hy)
      obtain ⟨g, rfl⟩ : ∃ g, va = some ⟨g, 0, none⟩ := by
        obtain ⟨_, ⟨h1, h2⟩ | ⟨g, cap, cur, h1, _⟩⟩ := hrw
        · omega
        · injection h1 with h1 _ _; exact ⟨g, h1⟩
      obtain ⟨t0, t1⟩ := trow_at hrw hy
      rw [ey] at t1
      have HTK : Hid (T.take (k + 1) = T.take k ++ [y] ∧ y.i = (i : Int)) := ⟨by rw [List.take_add_one, hy]; rfl, ey⟩
      have HP : Hid (Dr wr d gR bW a c FS FW xs now (fR (sys xs) (T.take k) r) nw L ∧ wr.ownsRow B 98 2 (.slice (some ⟨g, 0, none⟩) T.length vc) T.length (fcL T) ∧ Kept (fun j => j = gR) w wr) := ⟨hdr, hrw, hkp⟩
      clear hdr hrw hkp hy ey
      generalize y.t = yt at *
      go_upto_region 3 with fail
      have kal : Kept No wr (wr.alloc (.cells #[.int .i64 yt, .int .i64 (i : Int)] 98)) := (Kept.refl No wr).alloc _
      have b2 := World.alloc_heap_new wr (.cells #[.int .i64 yt, .int .i64 (i : Int)] 98)
      have HP2 : Hid (Dr (wr.alloc (.cells #[.int .i64 yt, .int .i64 (i : Int)] 98)) d gR bW a c FS FW xs now (fR (sys xs) (T.take k) r) nw L ∧ (wr.alloc (.cells #[.int .i64 yt, .int .i64 (i : Int)] 98)).ownsRow B 98 2 (.slice (some ⟨g, 0, none⟩) T.length vc) T.length (fcL T) ∧ Kept (fun j => j = gR) w (wr.alloc (.cells #[.int .i64 yt, .int .i64 (i : Int)] 98))) := ⟨HP.out.1.keep kal, kal.owns HP.out.2.1 (fun _ _ h => h), HP.out.2.2.trans kal (fun _ h => h.elim)⟩
      clear kal t0 t1 HP
      generalize wr.alloc (.cells #[.int .i64 yt, .int .i64 (i : Int)] 98) = wq at *
      generalize hz : wr.heap.size = z at *
      have z1 : wq.cell? ⟨z, 1, none⟩ = some (.int .i64 (i : Int)) := by simp only [World.cell?, b2]; rfl
      clear hz b2
      have d0 := HP2.out.1.c0
      have d3 := HP2.out.1.c3
      have x1 := HP2.out.1.ct.at' i hi
      have xf := HP2.out.1.ct.fz i
      have hcap := HP2.out.1.sv.cap
      have hmax := HP2.out.1.sv.max
      obtain ⟨hok4, b, o, rfl, hbb, e0, e1, e2, e3⟩ := HP2.out.1.sv.gs4 hi
      have hB := HV.out.bud i hi
      have hBn : (gs xs i).b = ((sys xs).B i : Int) := by show (gs xs i).b = (((gs xs i).b.toNat : Nat) : Int); omega
      rw [hBn] at e1
      have HN : Hid (Dr (wq.setCell ⟨gR, i, none⟩ (.int .i64 ((sys xs).B i : Int))) d gR bW (some ⟨b, o, none⟩) c FS FW xs now (fR (sys xs) (T.take (k + 1)) r) nw L ∧ (wq.setCell ⟨gR, i, none⟩ (.int .i64 ((sys xs).B i : Int))).ownsRow B 98 2 (.slice (some ⟨g, 0, none⟩) T.length vc) T.length (fcL T) ∧ Kept (fun j => j = gR) w (wq.setCell ⟨gR, i, none⟩ (.int .i64 ((sys xs).B i : Int)))) := by
        obtain ⟨p1, p2, p3⟩ := HP2.out
        have k1 : Kept (fun j => j = gR) wq (wq.setCell ⟨gR, i, none⟩ (.int .i64 ((sys xs).B i : Int))) := Kept.setCell (Kept.refl (fun j => j = gR) wq) (p := ⟨gR, i, none⟩) (Or.inl rfl) _
        have p4 := p1.setRest i ((sys xs).B i : Int)
        rw [fR_snoc (sys xs) (T.take k) y r i HTK.out.2, ← HTK.out.1] at p4
        exact ⟨p4, k1.owns p2 (fun g' hg' e => HD.out.2.2 g' hg' e), p3.trans k1 (fun j e => .inl e)⟩
      generalize (sys xs).B i = Bi at *
      generalize fR (sys xs) (T.take k) r i = old at *
      clear e0 e2 e3 hB hBn HP2
      go_region
      all_goals go_wp2
      all_goals go_roundw
      case rel => exact ⟨k + 1, by omega, by go_num, HN.out.1.keep ((Kept.refl No _).drew), ((Kept.refl No _).drew).owns HN.out.2.1 (fun _ _ h => h), HN.out.2.2.trans ((Kept.refl No _).drew) (fun _ h => h.elim)⟩
      case measure => simp [intOf]; omega
    · have hke : k = T.length := by omega
      subst hke
      have HF : Hid (Dr wr d gR bW a c FS FW xs now (fR (sys xs) T r) nw L ∧ Kept (fun j => j = gR) w wr) := ⟨by rw [List.take_length] at hdr; exact hdr, hkp⟩
      clear hdr hrw hkp
      go_wp2
      go_end0
      exact ⟨rfl, HF.out⟩
end Go.Proofs.YtffgcijicmfmlaaGreatDoor

namespace Go.Proofs.YtffgcijicmfmlaaGreatDoor
open Go.RowKit Plain
set_option linter.unusedVariables false
set_option maxRecDepth 100000

/-- block d is a dispatcher of xs that stands at t -/
def Dp (w : World) (d gR bW : Nat) (a : Option Addr) (c : Nat) (FS FW : Nat → Prop) (xs : List Srv) (t : Nat) : Prop :=
  ∃ L, Dr w d gR bW a c FS FW xs t (fun i => (Rule.rest (sys xs) t i : Int)) t L ∧ Mm xs.length (Rule.nx (sys xs) t) L
theorem Dp.kept {w w' : World} {G : Nat → Prop} {d gR bW : Nat} {a : Option Addr} {c : Nat} {FS FW : Nat → Prop} {xs : List Srv} {t : Nat} (h : Dp w d gR bW a c FS FW xs t) (hk : Kept G w w') (hG : ∀ k, Fd d gR FS FW k → ¬ G k) : Dp w' d gR bW a c FS FW xs t := by
  obtain ⟨L, h1, h2⟩ := h
  exact ⟨L, h1.kept hk hG, h2⟩
theorem Dp.keep {w w' : World} {d gR bW : Nat} {a : Option Addr} {c : Nat} {FS FW : Nat → Prop} {xs : List Srv} {t : Nat} (h : Dp w d gR bW a c FS FW xs t) (hk : Kept No w w') : Dp w' d gR bW a c FS FW xs t := h.kept hk (fun _ _ h => h)

theorem mm_head {n : Nat} {f : Nat → Nat} {L : List Fi} (h : Mm n f L) (hs : L.Pairwise lt2) : hdT L = (Rule.minN f 1099511627776 n : Int) := by
  obtain ⟨m1, m2, m3⟩ := Rule.minN_spec f 1099511627776 n
  cases L with
  | nil =>
    show (1099511627776 : Int) = _
    rcases m3 with m3 | ⟨i, hi, m3⟩
    · omega
    · by_cases hlt : f i < 1099511627776
      · have := (h ⟨(f i : Int), (i : Int)⟩).2 ⟨i, hi, rfl, hlt⟩
        cases this
      · omega
  | cons y r =>
    obtain ⟨i, hi, e, hlt⟩ := (h y).1 List.mem_cons_self
    have hy : hdT (y :: r) = (f i : Int) := by rw [e]; rfl
    have h1 := m2 i hi
    rw [hy]
    have h2 : f i ≤ Rule.minN f 1099511627776 n := by
      rcases m3 with m3 | ⟨j, hj, m3⟩
      · omega
      · by_cases hlj : f j < 1099511627776
        · have hm := (h ⟨(f j : Int), (j : Int)⟩).2 ⟨j, hj, rfl, hlj⟩
          rcases List.mem_cons.1 hm with h3 | h3
          · rw [e] at h3
            injection h3 with h3 _
            omega
          · have := (List.pairwise_cons.1 hs).1 _ h3
            rw [e] at this
            unfold lt2 at this
            dsimp only at this
            omega
        · omega
    omega

set_option maxHeartbeats 1000000 in
/-- changeOf with its own occupant is until -/
theorem change_until {w : World} {d gR bW : Nat} {a : Option Addr} {c : Nat} {FS FW : Nat → Prop} {xs : List Srv} {t : Nat} (hv : Vd xs) (h : Dp w d gR bW a c FS FW xs t) (ht : t < 1099511627776) :
    Calls Tryz.prog 31 #[.pointer (some ⟨d, 0, none⟩), .int .i64 (Rule.occ (sys xs) t)] w fun e w' => e = .returned (.int .i64 (Rule.until' (sys xs) t)) ∧ Kept No w w' := by
  obtain ⟨L, h1, h2⟩ := h
  have hh := mm_head h2 h1.wh.sorted
  have hle := Rule.occ_le (sys xs) t
  by_cases hz : Rule.occ (sys xs) t = 0
  · have e : (Rule.until' (sys xs) t : Int) = hdT L := by rw [hh]; unfold Rule.until'; rw [if_pos hz]; rfl
    rw [hz, e]
    exact changeOf_none h1
  · obtain ⟨j, hj⟩ : ∃ j, Rule.occ (sys xs) t = j + 1 := ⟨Rule.occ (sys xs) t - 1, by omega⟩
    have hjn : j < xs.length := by have : Rule.occ (sys xs) t ≤ xs.length := hle; omega
    have hr : Rule.rest (sys xs) t j ≤ 1048576 := by
      have := Rule.rest_le (sys xs) t j
      have := hv.bd.bud j hjn
      omega
    have e : (Rule.until' (sys xs) t : Int) = min (hdT L) ((t : Int) + (Rule.rest (sys xs) t j : Int)) := by
      rw [hh]
      unfold Rule.until' Rule.relMin
      rw [if_neg hz, hj, Nat.add_sub_cancel]
      show _ = min (Rule.minN (Rule.nx (sys xs) t) 1099511627776 (sys xs).n : Int) _
      omega
    rw [e, hj, show ((j + 1 : Nat) : Int) = (j : Int) + 1 by omega]
    exact changeOf_some h1 j hjn hv.num ⟨by omega, by omega⟩ ht
theorem occ_now {w : World} {d gR bW : Nat} {a : Option Addr} {c : Nat} {FS FW : Nat → Prop} {xs : List Srv} {t : Nat} (hv : Vd xs) (h : Dp w d gR bW a c FS FW xs t) :
    Calls Tryz.prog 15 #[.pointer (some ⟨d, 0, none⟩)] w fun e w' => e = .returned (.int .i64 (Rule.occ (sys xs) t)) ∧ Kept No w w' := by
  obtain ⟨L, h1, h2⟩ := h
  exact occupant_any h1 hv.num (fun i hi => by
    have := Rule.rest_le (sys xs) t i
    have := hv.bd.bud i hi
    omega)
theorem until_now {w : World} {d gR bW : Nat} {a : Option Addr} {c : Nat} {FS FW : Nat → Prop} {xs : List Srv} {t : Nat} (hv : Vd xs) (h : Dp w d gR bW a c FS FW xs t) (ht : t < 1099511627776) :
    Calls Tryz.prog 16 #[.pointer (some ⟨d, 0, none⟩)] w fun e w' => e = .returned (.int .i64 (Rule.until' (sys xs) t)) ∧ Kept No w w' := by
  have hm : Calls Tryz.prog 27 #[.pointer (some ⟨d, 0, none⟩)] w fun e w' => e = .returned (.bool true) ∧ w' = w := by
    obtain ⟨L, h1, h2⟩ := h
    exact isMade_yes h1
  have ho := occ_now hv h
  have HC : Hid (∀ W, Kept No w W → Calls Tryz.prog 31 #[.pointer (some ⟨d, 0, none⟩), .int .i64 (Rule.occ (sys xs) t)] W fun e w' => e = .returned (.int .i64 (Rule.until' (sys xs) t)) ∧ Kept No W w') := fun W hk => change_until hv (h.keep hk) ht
  clear h hv
  generalize Rule.occ (sys xs) t = oc at *
  generalize Rule.until' (sys xs) t = un at *
  go_enter Tryz.func16, Tryz.ntmps16
  go_wp2_with (first
    | (go_at_call 27; refine hm.mono ?_; rintro e w1 ⟨rfl, hw1⟩; obtain rfl := hw1.symm; clear hm)
    | (go_at_call 15; refine ho.mono ?_; rintro e w2 ⟨rfl, hk2⟩; have HK2 : Hid (Kept No w w2) := hk2; have hc := HC.out w2 hk2; clear hk2 ho)
    | (go_at_call 31; refine hc.mono ?_; rintro e w3 ⟨rfl, hk3⟩; have HK3 : Hid (Kept No w w3) := HK2.out.trans hk3 (fun _ h => h.elim); clear hk3 hc))
  go_ret
  exact ⟨rfl, HK3.out⟩
end Go.Proofs.YtffgcijicmfmlaaGreatDoor

namespace Go.Proofs.YtffgcijicmfmlaaGreatDoor
open Go.RowKit Plain
set_option linter.unusedVariables false
set_option maxRecDepth 100000

/-- the blocks that going on turns -/
def Gd (d gR : Nat) (FW : Nat → Prop) : Nat → Prop := fun k => k = d ∨ k = gR ∨ FW k
def nowOf (w : World) (d : Nat) : Nat := match w.cell? ⟨d, 2, none⟩ with
  | some (.int _ x) => x.toNat
  | _ => 0
theorem Dr.nowOf {w : World} {d gR bW : Nat} {a : Option Addr} {c : Nat} {FS FW : Nat → Prop} {xs : List Srv} {now : Nat} {r : Nat → Int} {nw : Nat} {L : List Fi} (h : Dr w d gR bW a c FS FW xs now r nw L) : nowOf w d = now := by
  unfold Go.Proofs.YtffgcijicmfmlaaGreatDoor.nowOf
  rw [h.c2]
  rfl
/-- what going on to tg leaves -/
structure Gone (w w' : World) (d gR bW : Nat) (a : Option Addr) (c : Nat) (FS FW : Nat → Prop) (xs : List Srv) (tg : Nat) : Prop where
  ex : ∃ FW', Dp w' d gR bW a c FS FW' xs tg ∧ ∀ j, FW' j → FW j ∨ w.heap.size ≤ j
  kp : Kept (Gd d gR FW) w w'
/-- one change: what is taken, what is released -/
theorem rest_step {xs : List Srv} (hv : Vd xs) {t m : Nat} (hm : 1 ≤ m) (hu : t + m ≤ Rule.until' (sys xs) t) {T : List Fi} (hT : ∀ x, x ∈ T ↔ ∃ i : Nat, i < xs.length ∧ x = ⟨(Rule.nx (sys xs) t i : Int), (i : Int)⟩ ∧ Rule.nx (sys xs) t i ≤ t + m) {r : Nat → Int}
    (hr : ∀ i, i < xs.length → r i = (Rule.rest (sys xs) t i : Int) - (if Rule.occ (sys xs) t = i + 1 then (m : Int) else 0)) : ∀ i, i < xs.length → fR (sys xs) T r i = (Rule.rest (sys xs) (t + m) i : Int) := fun i hi => by
  obtain ⟨u1, u2, u3⟩ := Rule.until_rel hv.bd.ok hu
  have he := Rule.stretch_end hv.bd.ok hm u1 u2 i hi
  obtain ⟨a1, a2, a3⟩ := Rule.nx_after hv.bd.ok (t := t) (i := i) hi
  have h3 := u3 i hi
  by_cases hrel : Rule.rel (sys xs) i (t + m)
  · rw [if_pos hrel] at he
    have e : Rule.nx (sys xs) t i = t + m := by
      apply Decidable.byContradiction
      intro hn
      exact a3 (t + m) (by omega) (by omega) hrel
    rw [fR_yes ((hT ⟨(Rule.nx (sys xs) t i : Int), (i : Int)⟩).2 ⟨i, hi, rfl, by omega⟩) rfl, he]
  · rw [if_neg hrel] at he
    rw [fR_no (fun y hy e => by
      obtain ⟨j, hj, ey, hle⟩ := (hT y).1 hy
      have hji : j = i := by rw [ey] at e; dsimp only at e; omega
      subst hji
      have e2 : Rule.nx (sys xs) t j = t + m := by omega
      rw [e2] at a1
      exact hrel a1), hr i hi, he]
    by_cases ho : Rule.occ (sys xs) t = i + 1
    · rw [if_pos ho, if_pos ho]
      have := u2 i ho
      omega
    · rw [if_neg ho, if_neg ho]; omega

set_option maxHeartbeats 8000000 in
theorem play_any {w : World} {d gR bW : Nat} {a : Option Addr} {c : Nat} {FS FW : Nat → Prop} {xs : List Srv} {t : Nat} (hv : Vd xs) (h : Dp w d gR bW a c FS FW xs t) (tg : Nat) (hle : t ≤ tg) (htg : tg < 1099511627776) :
    Calls Tryz.prog 28 #[.pointer (some ⟨d, 0, none⟩), .int .i64 tg] w fun e w' => e = .returned (.tuple #[]) ∧ Gone w w' d gR bW a c FS FW xs tg := by
  have HV : Hid (Vd xs) := hv
  have hn := hv.num
  have H0 : Hid (Dp w d gR bW a c FS FW xs t) := h
  clear h hv
  go_enter Tryz.func28, Tryz.ntmps28
  go_wp2
  go_loopw [] (fun wr => ∃ t1, t1 ≤ tg ∧ Gone w wr d gR bW a c FS FW xs t1) (fun wr => tg - nowOf wr d)
  case atStart => exact ⟨t, hle, ⟨FW, H0.out, fun j hj => .inl hj⟩, Kept.refl _ w⟩
  case round =>
    clear H0
    obtain ⟨t1, ht1, ⟨FW1, hdp, hF1⟩, hkp⟩ := hrel
    obtain ⟨L, hdr, hmm⟩ := id hdp
    have c2 := hdr.c2
    have hnow := hdr.nowOf
    have HP : Hid (Dp wr d gR bW a c FS FW1 xs t1 ∧ (∀ j, FW1 j → FW j ∨ w.heap.size ≤ j) ∧ Kept (Gd d gR FW) w wr ∧ nowOf wr d = t1) := ⟨hdp, hF1, hkp, hnow⟩
    clear hdr hmm hF1 hkp hnow hdp
    by_cases hlt : t1 < tg
    · have ho := occ_now HV.out HP.out.1
      have HC : Hid (∀ W, Kept No wr W → Calls Tryz.prog 31 #[.pointer (some ⟨d, 0, none⟩), .int .i64 (Rule.occ (sys xs) t1)] W fun e w' => e = .returned (.int .i64 (Rule.until' (sys xs) t1)) ∧ Kept No W w') := fun W hk => change_until HV.out (HP.out.1.keep hk) (by omega)
      have hug := Rule.until_gt HV.out.bd.ok (t := t1) (by omega)
      have hul := Rule.until_le (sys xs) t1
      have hol : Rule.occ (sys xs) t1 ≤ xs.length := Rule.occ_le (sys xs) t1
      obtain ⟨T1, hT1⟩ : ∃ T1, min tg (Rule.until' (sys xs) t1) = T1 := ⟨_, rfl⟩
      have hT2 : t1 < T1 ∧ T1 ≤ tg ∧ T1 ≤ Rule.until' (sys xs) t1 := by omega
      have eT : min (tg : Int) (Rule.until' (sys xs) t1 : Int) = (T1 : Int) := by omega
      have HU : Hid (T1 ≤ Rule.until' (sys xs) t1) := hT2.2.2
      have HOC : Hid (∃ o, o = Rule.occ (sys xs) t1) := ⟨_, rfl⟩
      obtain ⟨oc, hoc⟩ := HOC.out
      rw [← hoc] at ho HC hol
      have HO : Hid (oc = Rule.occ (sys xs) t1) := hoc
      clear hoc HOC hT1
      generalize Rule.until' (sys xs) t1 = un at ho HC hug hul eT
      have HC2 := HC
      go_upto_region 3 with (first
        | (go_at_call 15; refine ho.mono ?_; rintro e w1 ⟨rfl, hk1⟩; have HK1 : Hid (Kept No wr w1) := hk1; have hc := HC.out w1 hk1; clear hk1 ho)
        | (go_at_call 31; refine hc.mono ?_; rintro e w2 ⟨rfl, hk2⟩; have HK2 : Hid (Kept No wr w2) := HK1.out.trans hk2 (fun _ h => h.elim); clear hk2 hc))
      by_cases hz : oc = 0
      · have HQ3 : Hid (Dr w2 d gR bW a c FS FW1 xs t1 (fun i => (Rule.rest (sys xs) t1 i : Int)) t1 (Classical.choose HP.out.1) ∧ Mm xs.length (Rule.nx (sys xs) t1) (Classical.choose HP.out.1) ∧ Kept (fun j => j = gR) wr w2 ∧ ∀ i, i < xs.length → (Rule.rest (sys xs) t1 i : Int) = (Rule.rest (sys xs) t1 i : Int) - (if Rule.occ (sys xs) t1 = i + 1 then ((T1 - t1 : Nat) : Int) else 0)) := by
          obtain ⟨h1, h2⟩ := Classical.choose_spec HP.out.1
          exact ⟨h1.keep HK2.out, h2, HK2.out.mono (fun _ h => h.elim), fun i hi => by rw [if_neg (by rw [← HO.out]; omega)]; omega⟩
        have hz' : decide (0 < oc) = false := decide_eq_false (by omega)
        generalize w2 = w3 at *
        have hpass := pass_any HV.out HQ3.out.1 T1 (by omega) (by omega) HQ3.out.2.1 (fun i hi hgt => (Rule.nx_later HV.out.bd.ok hi (by omega) hgt).symm)
        have HSTEP : Hid (∀ T : List Fi, (∀ x, x ∈ T ↔ ∃ i : Nat, i < xs.length ∧ x = ⟨(Rule.nx (sys xs) t1 i : Int), (i : Int)⟩ ∧ Rule.nx (sys xs) t1 i ≤ T1) → ∀ i, i < xs.length → fR (sys xs) T (fun i => (Rule.rest (sys xs) t1 i : Int)) i = (Rule.rest (sys xs) T1 i : Int)) := fun T hT i hi => by
          have e : t1 + (T1 - t1) = T1 := by omega
          have := rest_step HV.out (t := t1) (m := T1 - t1) (by omega) (by rw [e]; exact HU.out) (T := T) (by rw [e]; exact hT) (r := (fun i => (Rule.rest (sys xs) t1 i : Int))) HQ3.out.2.2.2 i hi
          rw [e] at this
          exact this
        go_wp2_with (first
          | (go_at_call 46; refine hpass.mono ?_; rintro e w4 ⟨v, T, L', FW', rfl, p1, p2, p3, p4, p5, p6, p7, p8⟩; have hfill := fill_any HV.out p4 p1 p3 (fun x hx => (by obtain ⟨i, hi, e, _⟩ := (p2 x).1 hx; exact ⟨i, hi, by rw [e]⟩)) p7; have HQ4 : Hid ((∀ x, x ∈ T ↔ ∃ i : Nat, i < xs.length ∧ x = ⟨(Rule.nx (sys xs) t1 i : Int), (i : Int)⟩ ∧ Rule.nx (sys xs) t1 i ≤ T1) ∧ Mm xs.length (Rule.nx (sys xs) T1) L' ∧ (∀ j, FW' j → FW1 j ∨ w3.heap.size ≤ j) ∧ Kept (fun j => j = d ∨ FW1 j) w3 w4) := ⟨p2, p5, p6, p8⟩; obtain ⟨va, vc, hvv⟩ := row_slice p1; subst hvv; clear p1 p2 p3 p4 p5 p6 p7 p8 hpass)
          | (go_at_call 45; refine hfill.mono ?_; rintro e w5 ⟨rfl, q1, q2⟩; have HG : Hid (Gone w w5 d gR bW a c FS FW xs T1 ∧ nowOf w5 d = T1) := (by
              obtain ⟨o1, o2, o3, o4⟩ := HQ4.out
              obtain ⟨g1, g2, g3, g4⟩ := HP.out
              have k3 := HQ3.out.2.2.1
              have hsz := g3.size
              have hsz3 := k3.size
              refine ⟨⟨⟨FW', ⟨L', q1.rests (HSTEP.out T o1), o2⟩, fun j hj => ?_⟩, ?_⟩, (q1.rests (HSTEP.out T o1)).nowOf⟩
              · rcases o3 j hj with h | h
                · exact g2 j h
                · exact .inr (by omega)
              · refine ((g3.trans k3 (fun j e => .inl (.inr (.inl e)))).trans o4 (fun j e => ?_)).trans q2 (fun j e => .inl (.inr (.inl e)))
                rcases e with e | e
                · exact .inl (.inl e)
                · rcases g2 j e with h | h
                  · exact .inl (.inr (.inr h))
                  · exact .inr h); clear q1 q2 hfill))
        go_roundw
        case rel => exact ⟨T1, by omega, HG.out.1⟩
        case measure => have e1 := HG.out.2; have e2 := HP.out.2.2.2; omega
      · obtain ⟨j, hj⟩ : ∃ j, oc = j + 1 := ⟨oc - 1, by omega⟩
        have hjn : j < xs.length := by omega
        have h0oc : 0 < oc := by omega
        obtain ⟨h1, h2⟩ := Classical.choose_spec HP.out.1
        have hd2 := h1.keep HK2.out
        have c2' := hd2.c2
        have c3' := hd2.c3
        have x1 := hd2.ct.at' j hjn
        have xf := hd2.ct.fz j
        have eJ : (oc : Int) - 1 = (j : Int) := by omega
        have hur := (Rule.until_rel HV.out.bd.ok (t := t1) (m := T1 - t1) (by have := HU.out; omega)).2.1 j (by rw [← HO.out]; exact hj)
        have hrl : Rule.rest (sys xs) t1 j ≤ 1048576 := by
          have := Rule.rest_le (sys xs) t1 j
          have := HV.out.bd.bud j hjn
          omega
        have HQ2 : Hid (Dr (w2.setCell ⟨gR, j, none⟩ (.int .i64 ((Rule.rest (sys xs) t1 j : Int) - ((T1 : Int) - t1)))) d gR bW a c FS FW1 xs t1 (fun i => if i = j then (Rule.rest (sys xs) t1 j : Int) - ((T1 : Int) - t1) else (Rule.rest (sys xs) t1 i : Int)) t1 (Classical.choose HP.out.1) ∧ Mm xs.length (Rule.nx (sys xs) t1) (Classical.choose HP.out.1) ∧ Kept (fun j => j = gR) wr (w2.setCell ⟨gR, j, none⟩ (.int .i64 ((Rule.rest (sys xs) t1 j : Int) - ((T1 : Int) - t1)))) ∧ ∀ i, i < xs.length → (if i = j then (Rule.rest (sys xs) t1 j : Int) - ((T1 : Int) - t1) else (Rule.rest (sys xs) t1 i : Int)) = (Rule.rest (sys xs) t1 i : Int) - (if Rule.occ (sys xs) t1 = i + 1 then ((T1 - t1 : Nat) : Int) else 0)) := by
          refine ⟨hd2.setRest j _, h2, (HK2.out.mono (G := fun j => j = gR) (fun _ h => h.elim)).setCell (p := ⟨gR, j, none⟩) (Or.inl rfl) _, fun i hi => ?_⟩
          by_cases e : i = j
          · subst e; rw [if_pos rfl, if_pos (by rw [← HO.out]; exact hj)]; omega
          · rw [if_neg e, if_neg (by rw [← HO.out]; omega)]; omega
        have HRJ : Hid (∀ i, i < xs.length → (fun i => if i = j then (Rule.rest (sys xs) t1 j : Int) - ((T1 : Int) - t1) else (Rule.rest (sys xs) t1 i : Int)) i = (Rule.rest (sys xs) t1 i : Int) - (if Rule.occ (sys xs) t1 = i + 1 then ((T1 - t1 : Nat) : Int) else 0)) := HQ2.out.2.2.2
        obtain ⟨R, hR⟩ : ∃ R, Rule.rest (sys xs) t1 j = R := ⟨_, rfl⟩
        generalize hrr : (fun i => if i = j then (Rule.rest (sys xs) t1 j : Int) - ((T1 : Int) - t1) else (Rule.rest (sys xs) t1 i : Int)) = RRR at HQ2 HRJ
        have HQ22 : Hid (Dr (w2.setCell ⟨gR, j, none⟩ (.int .i64 ((R : Int) - ((T1 : Int) - t1)))) d gR bW a c FS FW1 xs t1 RRR t1 (Classical.choose HP.out.1) ∧ Mm xs.length (Rule.nx (sys xs) t1) (Classical.choose HP.out.1) ∧ Kept (fun j => j = gR) wr (w2.setCell ⟨gR, j, none⟩ (.int .i64 ((R : Int) - ((T1 : Int) - t1)))) ∧ ∀ i, i < xs.length → RRR i = (Rule.rest (sys xs) t1 i : Int) - (if Rule.occ (sys xs) t1 = i + 1 then ((T1 - t1 : Nat) : Int) else 0)) := by
          rw [← hR]
          exact ⟨HQ2.out.1, HQ2.out.2.1, HQ2.out.2.2.1, HRJ.out⟩
        rw [hR] at x1 hur hrl
        clear hR hrr HQ2 HRJ h1 h2 hd2 hz hj
        go_upto_region 4 with fail
        go_region
        clear c2' c3' x1 xf eJ
        have HQ3 : Hid (Dr (w2.setCell ⟨gR, j, none⟩ (.int .i64 ((R : Int) - ((T1 : Int) - t1)))).drew d gR bW a c FS FW1 xs t1 RRR t1 (Classical.choose HP.out.1) ∧ Mm xs.length (Rule.nx (sys xs) t1) (Classical.choose HP.out.1) ∧ Kept (fun j => j = gR) wr (w2.setCell ⟨gR, j, none⟩ (.int .i64 ((R : Int) - ((T1 : Int) - t1)))).drew ∧ ∀ i, i < xs.length → RRR i = (Rule.rest (sys xs) t1 i : Int) - (if Rule.occ (sys xs) t1 = i + 1 then ((T1 - t1 : Nat) : Int) else 0)) := ⟨HQ22.out.1.keep ((Kept.refl No _).drew), HQ22.out.2.1, HQ22.out.2.2.1.drew, HQ22.out.2.2.2⟩
        clear HQ22
        generalize (w2.setCell ⟨gR, j, none⟩ (.int .i64 ((R : Int) - ((T1 : Int) - t1)))).drew = w3 at *
        have hpass := pass_any HV.out HQ3.out.1 T1 (by omega) (by omega) HQ3.out.2.1 (fun i hi hgt => (Rule.nx_later HV.out.bd.ok hi (by omega) hgt).symm)
        have HSTEP : Hid (∀ T : List Fi, (∀ x, x ∈ T ↔ ∃ i : Nat, i < xs.length ∧ x = ⟨(Rule.nx (sys xs) t1 i : Int), (i : Int)⟩ ∧ Rule.nx (sys xs) t1 i ≤ T1) → ∀ i, i < xs.length → fR (sys xs) T RRR i = (Rule.rest (sys xs) T1 i : Int)) := fun T hT i hi => by
          have e : t1 + (T1 - t1) = T1 := by omega
          have := rest_step HV.out (t := t1) (m := T1 - t1) (by omega) (by rw [e]; exact HU.out) (T := T) (by rw [e]; exact hT) (r := RRR) HQ3.out.2.2.2 i hi
          rw [e] at this
          exact this
        go_wp2_with (first
          | (go_at_call 46; refine hpass.mono ?_; rintro e w4 ⟨v, T, L', FW', rfl, p1, p2, p3, p4, p5, p6, p7, p8⟩; have hfill := fill_any HV.out p4 p1 p3 (fun x hx => (by obtain ⟨i, hi, e, _⟩ := (p2 x).1 hx; exact ⟨i, hi, by rw [e]⟩)) p7; have HQ4 : Hid ((∀ x, x ∈ T ↔ ∃ i : Nat, i < xs.length ∧ x = ⟨(Rule.nx (sys xs) t1 i : Int), (i : Int)⟩ ∧ Rule.nx (sys xs) t1 i ≤ T1) ∧ Mm xs.length (Rule.nx (sys xs) T1) L' ∧ (∀ j, FW' j → FW1 j ∨ w3.heap.size ≤ j) ∧ Kept (fun j => j = d ∨ FW1 j) w3 w4) := ⟨p2, p5, p6, p8⟩; obtain ⟨va, vc, hvv⟩ := row_slice p1; subst hvv; clear p1 p2 p3 p4 p5 p6 p7 p8 hpass)
          | (go_at_call 45; refine hfill.mono ?_; rintro e w5 ⟨rfl, q1, q2⟩; have HG : Hid (Gone w w5 d gR bW a c FS FW xs T1 ∧ nowOf w5 d = T1) := (by
              obtain ⟨o1, o2, o3, o4⟩ := HQ4.out
              obtain ⟨g1, g2, g3, g4⟩ := HP.out
              have k3 := HQ3.out.2.2.1
              have hsz := g3.size
              have hsz3 := k3.size
              refine ⟨⟨⟨FW', ⟨L', q1.rests (HSTEP.out T o1), o2⟩, fun j hj => ?_⟩, ?_⟩, (q1.rests (HSTEP.out T o1)).nowOf⟩
              · rcases o3 j hj with h | h
                · exact g2 j h
                · exact .inr (by omega)
              · refine ((g3.trans k3 (fun j e => .inl (.inr (.inl e)))).trans o4 (fun j e => ?_)).trans q2 (fun j e => .inl (.inr (.inl e)))
                rcases e with e | e
                · exact .inl (.inl e)
                · rcases g2 j e with h | h
                  · exact .inl (.inr (.inr h))
                  · exact .inr h); clear q1 q2 hfill))
        go_roundw
        case rel => exact ⟨T1, by omega, HG.out.1⟩
        case measure => have e1 := HG.out.2; have e2 := HP.out.2.2.2; omega
    · have hte : t1 = tg := by omega
      subst hte
      have HE : Hid (Gone w wr d gR bW a c FS FW xs t1) := ⟨⟨FW1, HP.out.1, HP.out.2.1⟩, HP.out.2.2.1⟩
      go_wp2
      go_end0
      exact ⟨rfl, HE.out⟩
end Go.Proofs.YtffgcijicmfmlaaGreatDoor
