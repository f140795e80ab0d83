/-
  Rests: what is left of each budget at a tick.
-/
import Derived.Test.YtahhkkkgaoekcaaGreatDoorOSupply
import Derived.Test.YtahhkkkgaoekcaaGreatDoorNCount
import Derived.Test.YtahhkkkgaoekcaaGreatDoorORuleP
namespace Go.Proofs.YtahhkkkgaoekcaaGreatDoor
open Go.RowKit Go.Shelf Plain
set_option linter.unusedVariables false
set_option maxRecDepth 100000

theorem Ct.set {w : World} {g n : Nat} {cv : Nat → Int} (h : Ct w g n cv) (k : Nat) (x : Int) : Ct (w.setCell ⟨g, k, none⟩ (.int .i64 x)) g n (fun i => if i = k then x else cv i) := by
  refine ⟨fun i hi => ?_, fun i => by rw [World.frozen?_setCell]; exact h.fz i, by simpa [World.setCell] using h.lt⟩
  rw [cell_set (h.at' i hi)]
  by_cases e : i = k
  · rw [if_pos e, if_pos e]
  · rw [if_neg e, if_neg e]
theorem Ct.kept {w w' : World} {G : Nat → Prop} {g n : Nat} {cv : Nat → Int} (h : Ct w g n cv) (hk : Kept G w w') (hG : ¬ G g) : Ct w' g n cv :=
  ⟨fun i hi => hk.cell (h.at' i hi) hG, fun i => by
    have e := hk.block g h.lt hG
    have := h.fz i
    simp only [World.frozen?] at this ⊢
    rw [e]; exact this, Nat.lt_of_lt_of_le h.lt hk.size⟩
theorem Ct.congr {w : World} {g n : Nat} {cv cv' : Nat → Int} (h : Ct w g n cv) (he : ∀ i, i < n → cv i = cv' i) : Ct w g n cv' :=
  ⟨fun i hi => by rw [← he i hi]; exact h.at' i hi, h.fz, h.lt⟩
theorem Sw.kept {w w' : World} {G : Nat → Prop} {g n : Nat} {sf sb : Nat → Nat} (h : Sw w g n sf sb) (hk : Kept G w w') (hG : ¬ G g) : Sw w' g n sf sb :=
  ⟨⟨fun i hi => ⟨hk.cell (h.sp.at' i hi).1 hG, hk.cell (h.sp.at' i hi).2 hG⟩, Nat.lt_of_lt_of_le h.sp.lt hk.size⟩, fun i => by
    have e := hk.block g h.sp.lt hG
    have := h.fz i
    simp only [World.frozen?] at this ⊢
    rw [e]; exact this⟩

def r1 (s : Rule.Sys) (t k i : Nat) : Int := if i < k ∧ s.O i ≤ t then (s.B i : Int) else 0
def f1 (s : Rule.Sys) (t k i : Nat) : Nat := if i < k ∧ s.O i ≤ t then Rule.last s i t else 0
def b1 (s : Rule.Sys) (t k i : Nat) : Nat := if i < k ∧ s.O i ≤ t then t else 0
theorem r1_yes {s : Rule.Sys} {t k : Nat} (h : s.O k ≤ t) : (fun i => if i = k then (s.B k : Int) else r1 s t k i) = r1 s t (k + 1) := by
  funext i
  unfold r1
  by_cases e : i = k
  · subst e; rw [if_pos rfl, if_pos ⟨by omega, h⟩]
  · rw [if_neg e]
    by_cases h2 : i < k ∧ s.O i ≤ t
    · rw [if_pos h2, if_pos ⟨by omega, h2.2⟩]
    · rw [if_neg h2, if_neg (fun h' => h2 ⟨by omega, h'.2⟩)]
theorem r1_no {s : Rule.Sys} {t k : Nat} (h : ¬ s.O k ≤ t) : r1 s t k = r1 s t (k + 1) := by
  funext i
  unfold r1
  by_cases h2 : i < k ∧ s.O i ≤ t
  · rw [if_pos h2, if_pos ⟨by omega, h2.2⟩]
  · rw [if_neg h2, if_neg (fun h' => by
      by_cases e : i = k
      · subst e; exact h h'.2
      · exact h2 ⟨by omega, h'.2⟩)]
theorem f1_yes {s : Rule.Sys} {t k : Nat} (h : s.O k ≤ t) : Rule.up (f1 s t k) k (Rule.last s k t) = f1 s t (k + 1) := by
  funext i
  show (if i = k then Rule.last s k t else f1 s t k i) = f1 s t (k + 1) i
  unfold f1
  by_cases e : i = k
  · subst e; rw [if_pos rfl, if_pos ⟨by omega, h⟩]
  · rw [if_neg e]
    by_cases h2 : i < k ∧ s.O i ≤ t
    · rw [if_pos h2, if_pos ⟨by omega, h2.2⟩]
    · rw [if_neg h2, if_neg (fun h' => h2 ⟨by omega, h'.2⟩)]
theorem f1_no {s : Rule.Sys} {t k : Nat} (h : ¬ s.O k ≤ t) : f1 s t k = f1 s t (k + 1) := by
  funext i
  unfold f1
  by_cases h2 : i < k ∧ s.O i ≤ t
  · rw [if_pos h2, if_pos ⟨by omega, h2.2⟩]
  · rw [if_neg h2, if_neg (fun h' => by
      by_cases e : i = k
      · subst e; exact h h'.2
      · exact h2 ⟨by omega, h'.2⟩)]
theorem b1_yes {s : Rule.Sys} {t k : Nat} (h : s.O k ≤ t) : Rule.up (b1 s t k) k t = b1 s t (k + 1) := by
  funext i
  show (if i = k then t else b1 s t k i) = b1 s t (k + 1) i
  unfold b1
  by_cases e : i = k
  · subst e; rw [if_pos rfl, if_pos ⟨by omega, h⟩]
  · rw [if_neg e]
    by_cases h2 : i < k ∧ s.O i ≤ t
    · rw [if_pos h2, if_pos ⟨by omega, h2.2⟩]
    · rw [if_neg h2, if_neg (fun h' => h2 ⟨by omega, h'.2⟩)]
theorem b1_no {s : Rule.Sys} {t k : Nat} (h : ¬ s.O k ≤ t) : b1 s t k = b1 s t (k + 1) := by
  funext i
  unfold b1
  by_cases h2 : i < k ∧ s.O i ≤ t
  · rw [if_pos h2, if_pos ⟨by omega, h2.2⟩]
  · rw [if_neg h2, if_neg (fun h' => by
      by_cases e : i = k
      · subst e; exact h h'.2
      · exact h2 ⟨by omega, h'.2⟩)]
theorem cells4r {w : World} {z : Nat} {v0 v1 v2 v3 : Value} {t : TypeId} (h : w.heap[z]? = some (.cells #[v0, v1, v2, v3] t)) : w.cell? ⟨z, 0, none⟩ = some v0 ∧ w.cell? ⟨z, 1, none⟩ = some v1 ∧ w.cell? ⟨z, 2, none⟩ = some v2 ∧ w.cell? ⟨z, 3, none⟩ = some v3 := by
  simp only [World.cell?, h]
  exact ⟨rfl, rfl, rfl, rfl⟩
/-- the two rows of Rests, k servers behind -/
structure Rt (w0 w : World) (gR gS n : Nat) (s : Rule.Sys) (t k : Nat) : Prop where
  r : Ct w gR n (r1 s t k)
  p : Sw w gS n (f1 s t k) (b1 s t k)
  k : Kept No w0 w
  ge : w0.heap.size ≤ gR ∧ w0.heap.size ≤ gS ∧ gR ≠ gS
theorem Rt.alloc {w0 w : World} {gR gS n : Nat} {s : Rule.Sys} {t k : Nat} (h : Rt w0 w gR gS n s t k) (o : Obj) : Rt w0 (w.alloc o) gR gS n s t k :=
  ⟨h.r.keep ((Kept.refl No w).alloc o), h.p.keep ((Kept.refl No w).alloc o), h.k.alloc o, h.ge⟩
theorem Rt.no {w0 w : World} {gR gS n : Nat} {s : Rule.Sys} {t k : Nat} (h : Rt w0 w gR gS n s t k) (ho : ¬ s.O k ≤ t) : Rt w0 w gR gS n s t (k + 1) :=
  ⟨by rw [← r1_no ho]; exact h.r, by rw [← f1_no ho, ← b1_no ho]; exact h.p, h.k, h.ge⟩
theorem Rt.yes {w0 w : World} {gR gS n : Nat} {s : Rule.Sys} {t k : Nat} (h : Rt w0 w gR gS n s t k) (ho : s.O k ≤ t) : Rt w0 (((w.setCell ⟨gR, k, none⟩ (.int .i64 (s.B k : Int))).setCell ⟨gS, k * 2, none⟩ (.int .i64 (Rule.last s k t : Int))).setCell ⟨gS, k * 2 + 1, none⟩ (.int .i64 (t : Int))) gR gS n s t (k + 1) := by
  obtain ⟨g1, g2, g3⟩ := h.ge
  have k1 : Kept (fun j => j = gR) w (w.setCell ⟨gR, k, none⟩ (.int .i64 (s.B k : Int))) := Kept.setCell (Kept.refl (fun j => j = gR) w) (p := ⟨gR, k, none⟩) (Or.inl rfl) _
  have h1 := h.r.set k (s.B k : Int)
  have h2 := h.p.kept k1 (fun e => g3 e.symm)
  have k2 : Kept (fun j => j = gS) (w.setCell ⟨gR, k, none⟩ (.int .i64 (s.B k : Int))) (((w.setCell ⟨gR, k, none⟩ (.int .i64 (s.B k : Int))).setCell ⟨gS, k * 2, none⟩ (.int .i64 (Rule.last s k t : Int))).setCell ⟨gS, k * 2 + 1, none⟩ (.int .i64 (t : Int))) := Kept.setCell (Kept.setCell (Kept.refl (fun j => j = gS) _) (p := ⟨gS, k * 2, none⟩) (Or.inl rfl) _) (p := ⟨gS, k * 2 + 1, none⟩) (Or.inl rfl) _
  have h3 := h2.set k (Rule.last s k t) t
  have h4 := h1.kept k2 (fun e => g3 e)
  rw [r1_yes ho] at h4
  rw [f1_yes ho, b1_yes ho] at h3
  refine ⟨h4, h3, (h.k.trans k1 (fun j e => .inr (by omega))).trans k2 (fun j e => .inr (by omega)), h.ge⟩

set_option maxHeartbeats 4000000 in
theorem rests_yes {F : Nat → Prop} {a : Option Addr} {c : Nat} {xs : List Srv} (t : Nat) (w : World) (hg : Gl w) (h : Sv w F a xs.length c xs) (hF : ∀ k, F k → k < w.heap.size) (ht : timF xs xs.length = none) (htt : t < 1099511627776) :
    Calls Tryz.prog 7 #[.slice a xs.length c, .int .i64 t] w fun e w' => ∃ g, e = .returned (.tuple #[.slice (some ⟨g, 0, none⟩) xs.length xs.length, .int .i64 0]) ∧ w.heap.size ≤ g ∧ Ct w' g xs.length (fun i => (Rule.rest (sys xs) t i : Int)) ∧ Kept No w w' := by
  have hv := vd_of ht
  have hn := hv.num
  have hc := hyper_any F a xs.length c xs w hg h
  rw [(tim_yes ht).1, (tim_yes ht).2] at hc
  have hti := fun W => isTick_any t W
  rw [show (decide ((0 : Int) ≤ (t : Int)) && decide ((t : Int) < 1099511627776)) = true by simp; omega] at hti
  have HS : Hid (Sv w F a xs.length c xs ∧ (∀ k, F k → k < w.heap.size)) := ⟨h, hF⟩
  have HV : Hid (Vd xs) := hv
  clear h hF hg ht hv
  go_enter Tryz.func7, Tryz.ntmps7
  go_upto_region 6 with (first
    | (go_at_call 14; refine hc.mono ?_; rintro e w1 ⟨rfl, hk1⟩; have HK1 : Hid (Kept No w w1) := hk1; clear hk1 hc)
    | (go_at_call 15; refine (hti _).mono ?_; rintro e w2 ⟨rfl, hw2⟩; obtain rfl := hw2.symm))
  obtain ⟨w2, hm2, hct, k2, sz2⟩ := make_ints w1 xs.length hn
  go_upto_region 7 with fail
  obtain ⟨w3, hm3, hsw, k3, sz3⟩ := make_spans w2 xs.length hn
  have HR : Hid (Rt w w3 w1.heap.size w2.heap.size xs.length (sys xs) t 0) := by
    have hs := HK1.out.size
    refine ⟨(hct.keep k3).congr (fun i hi => ?_), ?_, (HK1.out.trans k2 (fun _ h => h.elim)).trans k3 (fun _ h => h.elim), by omega, by omega, by omega⟩
    · unfold r1; rw [if_neg (by omega)]
    · have e1 : f1 (sys xs) t 0 = fun _ => 0 := by funext i; unfold f1; rw [if_neg (by omega)]
      have e2 : b1 (sys xs) t 0 = fun _ => 0 := by funext i; unfold b1; rw [if_neg (by omega)]
      rw [e1, e2]; exact hsw
  clear hct k2 k3 hsw sz2 sz3 hm2
  go_upto_region 8 with fail
  clear hm3
  go_wp2
  generalize hgR : w1.heap.size = gR at *
  generalize hgS : w2.heap.size = gS at *
  clear hgR hgS
  go_loopw [35] (fun x wr => ∃ k : Nat, k ≤ xs.length ∧ x = .int .i64 k ∧ Rt w wr gR gS xs.length (sys xs) t k) (fun x _ => xs.length - (intOf x).toNat)
  case atStart => exact ⟨0, Nat.zero_le _, rfl, HR.out⟩
  case round =>
    clear HR
    obtain ⟨k, hk, rfl, hrt⟩ := hrel
    by_cases hlt : k < xs.length
    · obtain ⟨x, hx⟩ : ∃ x, xs[k]? = some x := ⟨xs[k], by rw [List.getElem?_eq_getElem hlt]⟩
      have hgs : gs xs k = x := by unfold gs; rw [List.getD_eq_getElem?_getD, hx]; rfl
      have hP := HV.out.per k hlt
      have hB := HV.out.bud k hlt
      have hO := HV.out.off k hlt
      obtain ⟨hok, b, o, rfl, hb, c0, c1, c2, c3⟩ := (HS.out.1.keep hrt.k).at' k x hx
      rw [hgs] at hP hB hO
      have hPn : (sys xs).P k = x.p.toNat := by show (gs xs k).p.toNat = _; rw [hgs]
      have hBn : (sys xs).B k = x.b.toNat := by show (gs xs k).b.toNat = _; rw [hgs]
      have hOn : (sys xs).O k = x.o.toNat := by show (gs xs k).o.toNat = _; rw [hgs]
      obtain ⟨P, B, O, q⟩ := x
      dsimp only at hP hB hO hPn hBn hOn c0 c1 c2 c3
      obtain ⟨P, rfl⟩ : ∃ n : Nat, P = (n : Int) := ⟨P.toNat, by omega⟩
      obtain ⟨B, rfl⟩ : ∃ n : Nat, B = (n : Int) := ⟨B.toNat, by omega⟩
      obtain ⟨O, rfl⟩ : ∃ n : Nat, O = (n : Int) := ⟨O.toNat, by omega⟩
      rw [Int.toNat_natCast] at hPn hBn hOn
      have hcap := HS.out.1.cap
      have hmax := HS.out.1.max
      have HRT : Hid (Rt w wr gR gS xs.length (sys xs) t k) := hrt
      clear hrt hok hgs hx
      go_upto_region 11 with fail
      have hrt := HRT.out.alloc (.cells #[.int .i64 (P : Int), .int .i64 (B : Int), .int .i64 (O : Int), .int .i64 q] 38)
      have b2 := World.alloc_heap_new wr (.cells #[.int .i64 (P : Int), .int .i64 (B : Int), .int .i64 (O : Int), .int .i64 q] 38)
      have hne : gR < wr.heap.size ∧ gS < wr.heap.size := ⟨HRT.out.r.lt, HRT.out.p.sp.lt⟩
      clear HRT c0 c1 c2 c3
      generalize wr.alloc (.cells #[.int .i64 (P : Int), .int .i64 (B : Int), .int .i64 (O : Int), .int .i64 q] 38) = wq at *
      obtain ⟨c0, c1, c2, c3⟩ := cells4r b2
      clear b2
      generalize hz : wr.heap.size = z at *
      clear hz
      have hcn := count_any (O : Int) (P : Int) 0 ((t : Int) + 1) wq (by unfold I64; omega) (by unfold I64; omega)
      obtain ⟨q1, q2⟩ := count_last O P t (by omega)
      by_cases ho : O ≤ t
      · obtain ⟨e1, e2⟩ := q1 ho
        have hD2 : (t - O) / P ≤ t - O := Nat.div_le_self (t - O) P
        generalize (t - O) / P = D at *
        obtain ⟨R, hR⟩ : ∃ R : Nat, D + 1 = R := ⟨_, rfl⟩
        have hR1 : 0 < R := by omega
        have hR2 : R ≤ 1099511627776 := by omega
        rw [show (D : Int) + 1 = (R : Int) by omega] at e1 e2
        rw [e1] at hcn
        have el : t - (t - O) % P = Rule.last (sys xs) k t := by unfold Rule.last; rw [hOn, hPn]
        rw [el] at e2
        have hl := Rule.last_le (sys xs) k t
        generalize countB (O : Int) (P : Int) = cb at *
        have hy := hrt.yes (by rw [hOn]; exact ho)
        rw [hBn] at hy
        have HY : Hid (Rt w (((wq.setCell ⟨gR, k, none⟩ (.int .i64 (B : Int))).setCell ⟨gS, k * 2, none⟩ (.int .i64 (Rule.last (sys xs) k t : Int))).setCell ⟨gS, k * 2 + 1, none⟩ (.int .i64 (t : Int))) gR gS xs.length (sys xs) t (k + 1)) := hy
        generalize Rule.last (sys xs) k t = La at *
        obtain ⟨M, hM⟩ : ∃ M, (R - 1) * P = M := ⟨_, rfl⟩
        have hRP : ((R : Int) - 1) * P = (M : Int) := by rw [← hM]; push_cast; rw [Int.natCast_sub (by omega)]; rfl
        rw [hRP] at e2
        have eM2 : wrap64 (((R : Int) - 1) * (P : Int)) = (M : Int) := by rw [hRP]; unfold wrap64; omega
        have hc1 := hrt.r.at' k hlt
        have hf1 := hrt.r.fz k
        obtain ⟨hs0, hs1⟩ := hrt.p.sp.at' k hlt
        have hf2 := hrt.p.fz
        obtain ⟨_, _, hgn⟩ := hrt.ge
        obtain ⟨ov, hov⟩ : ∃ ov, r1 (sys xs) t k k = ov := ⟨_, rfl⟩
        obtain ⟨o1, ho1⟩ : ∃ o1, f1 (sys xs) t k k = o1 := ⟨_, rfl⟩
        obtain ⟨o2, ho2⟩ : ∃ o2, b1 (sys xs) t k k = o2 := ⟨_, rfl⟩
        rw [hov] at hc1
        rw [ho1] at hs0
        rw [ho2] at hs1
        clear hrt hy q1 q2 e1 el hM hRP hPn hBn hOn hR hD2 hov ho1 ho2 ho
        go_upto_region 14 with (go_at_call 22; refine hcn.mono ?_; rintro e w4 ⟨rfl, hw4⟩; obtain rfl := hw4.symm; clear hcn)
        go_wp2
        go_roundw
        case rel => exact ⟨k + 1, by omega, by go_num, HY.out⟩
        case measure => simp [intOf]; omega
      · rw [q2 ho] at hcn
        generalize countB (O : Int) (P : Int) = cb at *
        have HY : Hid (Rt w wq gR gS xs.length (sys xs) t (k + 1)) := hrt.no (by rw [hOn]; exact ho)
        clear hrt q1 q2 hPn hBn hOn ho
        go_wp2_with (go_at_call 22; refine hcn.mono ?_; rintro e w4 ⟨rfl, hw4⟩; obtain rfl := hw4.symm; clear hcn)
        go_roundw
        case rel => exact ⟨k + 1, by omega, by go_num, HY.out⟩
        case measure => simp [intOf]; omega
    · have hke : k = xs.length := by omega
      subst hke
      have hsr := HS.out.1.keep hrt.k
      have hFr : ∀ k, F k → k < wr.heap.size := fun k hk => by have := HS.out.2 k hk; have := hrt.k.size; omega
      have htk := taken_any (cS := xs.length) wr HV.out hsr hFr hrt.p.sp (fun j hj => by
        unfold f1 b1
        by_cases e : j < xs.length ∧ (sys xs).O j ≤ t
        · rw [if_pos e, if_pos e]; have := Rule.last_le (sys xs) j t; omega
        · rw [if_neg e, if_neg e]; omega) (fun hk => by have := HS.out.2 _ hk; have := hrt.ge; omega)
      have HRT : Hid (Rt w wr gR gS xs.length (sys xs) t xs.length) := hrt
      clear hrt hsr hFr
      go_wp2_with (go_at_call 23; refine htk.mono ?_; rintro e w6 ⟨g, rfl, hg6, hct, hk6⟩; have HT : Hid (wr.heap.size ≤ g ∧ Ct w6 g xs.length (fun i => (Rule.cnt (Rule.occ (sys xs)) (i + 1) (b1 (sys xs) t xs.length i) : Int) - (Rule.cnt (Rule.occ (sys xs)) (i + 1) (f1 (sys xs) t xs.length i) : Int)) ∧ Kept (fun k => k = gS) wr w6) := ⟨hg6, hct, hk6⟩; clear htk hg6 hct hk6)
      have HE : Hid (∀ i, i < xs.length → r1 (sys xs) t xs.length i - ((Rule.cnt (Rule.occ (sys xs)) (i + 1) (b1 (sys xs) t xs.length i) : Int) - (Rule.cnt (Rule.occ (sys xs)) (i + 1) (f1 (sys xs) t xs.length i) : Int)) = (Rule.rest (sys xs) t i : Int) ∧ Rule.rest (sys xs) t i ≤ 1048576) := fun i hi => by
        refine ⟨Rule.rest_of HV.out.bd.ok hi t _ _ _ (fun ho => ?_) (fun ho => ?_), ?_⟩
        · unfold f1 b1 r1; rw [if_pos ⟨hi, ho⟩, if_pos ⟨hi, ho⟩, if_pos ⟨hi, ho⟩]; exact ⟨rfl, rfl, rfl⟩
        · unfold f1 b1 r1; rw [if_neg (fun h => ho h.2), if_neg (fun h => ho h.2), if_neg (fun h => ho h.2)]; exact ⟨rfl, rfl, rfl⟩
        · have := Rule.rest_le (sys xs) t i
          have := HV.out.bd.bud i hi
          omega
      generalize hcv : (fun i => (Rule.cnt (Rule.occ (sys xs)) (i + 1) (b1 (sys xs) t xs.length i) : Int) - (Rule.cnt (Rule.occ (sys xs)) (i + 1) (f1 (sys xs) t xs.length i) : Int)) = cv at *
      have HE2 : Hid (∀ i, i < xs.length → r1 (sys xs) t xs.length i - cv i = (Rule.rest (sys xs) t i : Int) ∧ Rule.rest (sys xs) t i ≤ 1048576) := fun i hi => by rw [← hcv]; exact HE.out i hi
      clear HE hcv
      have HG : Hid (Ct w6 gR xs.length (r1 (sys xs) t xs.length) ∧ Kept No w w6 ∧ gR ≠ g ∧ w.heap.size ≤ gR) := by
        obtain ⟨h1, h2, h3⟩ := HT.out
        obtain ⟨g1, g2, g3⟩ := HRT.out.ge
        exact ⟨HRT.out.r.kept h3 (fun e => g3 e), HRT.out.k.trans h3 (fun j e => .inr (by omega)), by have := HRT.out.r.lt; omega, g1⟩
      go_loopw [76] (fun x wq => ∃ k : Nat, k ≤ xs.length ∧ x = .int .i64 k ∧ Ct wq gR xs.length (fun i => if i < k then (Rule.rest (sys xs) t i : Int) else r1 (sys xs) t xs.length i) ∧ Ct wq g xs.length cv ∧ Kept No w wq) (fun x _ => xs.length - (intOf x).toNat)
      case atStart => exact ⟨0, Nat.zero_le _, rfl, HG.out.1.congr (fun i hi => by rw [if_neg (by omega)]), HT.out.2.1, HG.out.2.1⟩
      case round =>
        obtain ⟨k, hk, rfl, hcr, hcg, hkq⟩ := hrel
        by_cases hlt : k < xs.length
        · have x1 := hcr.at' k hlt
          rw [if_neg (by omega)] at x1
          have x2 := hcg.at' k hlt
          have hfz := hcr.fz k
          obtain ⟨e1, e2⟩ := HE2.out k hlt
          have HQ : Hid (Ct (wr.setCell ⟨gR, k, none⟩ (.int .i64 (r1 (sys xs) t xs.length k - cv k))) gR xs.length (fun i => if i < k + 1 then (Rule.rest (sys xs) t i : Int) else r1 (sys xs) t xs.length i) ∧ Ct (wr.setCell ⟨gR, k, none⟩ (.int .i64 (r1 (sys xs) t xs.length k - cv k))) g xs.length cv ∧ Kept No w (wr.setCell ⟨gR, k, none⟩ (.int .i64 (r1 (sys xs) t xs.length k - cv k)))) := by
            have k1 : Kept (fun j => j = gR) wr (wr.setCell ⟨gR, k, none⟩ (.int .i64 (r1 (sys xs) t xs.length k - cv k))) := Kept.setCell (Kept.refl (fun j => j = gR) wr) (p := ⟨gR, k, none⟩) (Or.inl rfl) _
            refine ⟨(hcr.set k _).congr (fun i hi => ?_), hcg.kept k1 (fun e => HG.out.2.2.1 e.symm), hkq.trans k1 (fun j e => .inr (by have := HG.out.2.2.2; omega))⟩
            by_cases e : i = k
            · subst e; rw [if_pos rfl, if_pos (by omega)]; exact e1
            · rw [if_neg e]
              by_cases h2 : i < k
              · rw [if_pos h2, if_pos (by omega)]
              · rw [if_neg h2, if_neg (by omega)]
          clear hcr hcg hkq
          generalize (Rule.rest (sys xs) t k) = R at e1 e2
          generalize r1 (sys xs) t xs.length k = bb at *
          generalize cv k = dd at *
          go_wp2
          go_roundw
          case rel =>
            have hq := HQ.out
            rw [e1] at hq
            exact ⟨k + 1, by omega, by go_num, hq⟩
          case measure => simp [intOf]; omega
        · have hke : k = xs.length := by omega
          subst hke
          have HQ : Hid (Ct wr gR xs.length (fun i => (Rule.rest (sys xs) t i : Int)) ∧ Kept No w wr ∧ w.heap.size ≤ gR) := ⟨hcr.congr (fun i hi => by rw [if_pos hi]), hkq, HG.out.2.2.2⟩
          clear hcr hcg hkq
          go_wp2
          go_ret2
          exact ⟨gR, rfl, HQ.out.2.2, HQ.out.1, HQ.out.2.1⟩
end Go.Proofs.YtahhkkkgaoekcaaGreatDoor
