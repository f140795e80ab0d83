/-
  The walk of OccAdds.
-/
import Derived.Test.YticnkekedhhbaaaGreatDoorORuns
import Derived.Test.YticnkekedhhbaaaGreatDoorONextOf
import Derived.Test.YticnkekedhhbaaaGreatDoorOAddsP
import Derived.BigQuiet
namespace Go.Proofs.YticnkekedhhbaaaGreatDoor
open Go.RowKit Go.Shelf Plain
set_option linter.unusedVariables false
set_option maxRecDepth 100000

theorem eachF_neD {r : Nat → Int} {first : Int} : ∀ {n : Nat} {p : Int × Int}, eachF r first n = some p → p.1 ≠ 0
  | 0, p, h => by cases h
  | n + 1, p, h => by
    rw [eachF] at h
    cases he : eachF r first n with
    | some q => rw [he] at h; injection h with h; subst h; exact eachF_neD he
    | none =>
      rw [he] at h
      simp only at h
      by_cases h0 : r n = 0
      · rw [if_pos h0] at h; cases h
      · rw [if_neg h0] at h; injection h with h; subst h; exact h0
theorem tim_neD {xs : List Srv} {n : Nat} {p : Int × Int} (h : timF xs n = some p) : p.1 ≠ 0 := by
  unfold timF at h
  cases hf : findF xs n with
  | some q =>
    rw [hf] at h
    injection h with h
    subst h
    unfold findF at hf
    by_cases h32 : n ≤ 32
    · rw [if_pos h32] at hf; exact eachF_neD hf
    · rw [if_neg h32] at hf; injection hf with hf; subst hf; decide
  | none =>
    rw [hf] at h
    unfold togF at h
    by_cases hb : lcmB (zP xs) n 1048576 = true
    · rw [if_pos hb] at h
      by_cases hr : relF (lcmV (zP xs) n 1048576) xs n ≤ 65536
      · rw [if_pos hr] at h; cases h
      · rw [if_neg hr] at h; injection h with h; subst h; decide
    · rw [if_neg hb] at h; injection h with h; subst h; decide


theorem make_ints' (w : World) (n : Nat) (hn : n ≤ 64) : ∃ w1, (Instr.makeSlice 30 (.int .i64 n) (.int .i64 n)).run Tryz.prog w = .ok (.slice (some ⟨w.heap.size, 0, none⟩) n n) w1 ∧ Ct w1 w.heap.size n (fun _ => 0) ∧ Kept No w w1 ∧ w1.heap.size = w.heap.size + 1 := by
  obtain ⟨i0, hi, hz0, hz1, hz2⟩ := info_parts Tryz.infoI3
  have hr := run_make (P := Tryz.prog) w 30 3 i0 _ Tryz.underlying30 hi hz0 .i64 .i64 n n (by omega) (Int.le_refl _) (by rw [hz2]; omega) (by omega)
  simp only [Int.toNat_natCast] at hr
  rw [hz1, Nat.mul_one] at hr
  refine ⟨_, hr, ⟨fun i hi => ?_, fun i => ?_, by simp⟩, (Kept.refl No w).alloc _, by simp⟩
  · have hb := World.alloc_heap_new w (.cells (madeCells (Value.int .i64 0).cells n) 3)
    have e : (madeCells (Value.int .i64 0).cells n)[i]? = some (.int .i64 0) := by
      rw [show (Value.int .i64 0).cells = #[Value.int .i64 0] from rfl, ← Array.getElem?_toList, toList_madeCells_one, List.getElem?_replicate, if_pos hi]
    simp only [World.cell?]
    rw [hb]
    simpa using e
  · have hb := World.alloc_heap_new w (.cells (madeCells (Value.int .i64 0).cells n) 3)
    simp only [World.frozen?]
    rw [hb]
    rfl
theorem Ct.put {w : World} {g n : Nat} {cv : Nat → Int} (h : Ct w g n cv) (k : Nat) (x : Int) : Ct (w.setCell ⟨g, k, none⟩ (.int .i64 x)) g n (fun i => if i = k then x else cv i) := by
  refine ⟨fun i hi => ?_, fun i => by rw [World.frozen?_setCell]; exact h.fz i, by simpa [World.setCell] using h.lt⟩
  rw [cell_set (h.at' i hi)]
  by_cases e : i = k
  · rw [if_pos e, if_pos e]
  · rw [if_neg e, if_neg e]
theorem Ct.over {w w' : World} {G : Nat → Prop} {g n : Nat} {cv : Nat → Int} (h : Ct w g n cv) (hk : Kept G w w') (hG : ¬ G g) : Ct w' g n cv :=
  ⟨fun i hi => hk.cell (h.at' i hi) hG, fun i => by
    have e := hk.block g h.lt hG
    have := h.fz i
    simp only [World.frozen?] at this ⊢
    rw [e]; exact this, Nat.lt_of_lt_of_le h.lt hk.size⟩
theorem Ct.like {w : World} {g n : Nat} {cv cv' : Nat → Int} (h : Ct w g n cv) (he : ∀ i, i < n → cv i = cv' i) : Ct w g n cv' :=
  ⟨fun i hi => by rw [← he i hi]; exact h.at' i hi, h.fz, h.lt⟩
theorem ow_at2 {w : World} {base g n c : Nat} {L : List (Nat × Nat)} (h : Ow w base (.slice (some ⟨g, 0, none⟩) n c) L) {i : Nat} {x : Nat × Nat} (hx : L[i]? = some x) : w.cell? ⟨g, i * 2, none⟩ = some (.int .i64 (x.1 : Int)) ∧ w.cell? ⟨g, i * 2 + 1, none⟩ = some (.int .i64 (x.2 : Int)) := by
  obtain ⟨h1, h2⟩ := slL_at L i x hx
  have k1 := World.ownsRow.cells h (g := g) rfl _ _ h1
  have k2 := World.ownsRow.cells h (g := g) rfl _ _ h2
  rw [add_none, Nat.zero_add] at k1 k2
  exact ⟨k1, k2⟩
theorem cells2r {w : World} {z : Nat} {v0 v1 : Value} {t : TypeId} (h : w.heap[z]? = some (.cells #[v0, v1] t)) : w.cell? ⟨z, 0, none⟩ = some v0 ∧ w.cell? ⟨z, 1, none⟩ = some v1 := by
  simp only [World.cell?, h]
  exact ⟨rfl, rfl⟩

/-- what the rounds of the first loop keep -/
structure Ad (w wr : World) (v : Value) (L : List (Nat × Nat)) (gC gF n : Nat) (f : Nat → Nat) (a t : Nat) : Prop where
  k : Kept No w wr
  o : Ow wr w.heap.size v L
  c : Ct wr gC (n + 1) (Rule.cI f a t)
  f : ∃ fi, Ct wr gF (n + 1) fi ∧ Rule.Firsts f n a t fi
  ge : w.heap.size ≤ gC ∧ w.heap.size ≤ gF ∧ gC ≠ gF ∧ v.ownBlock ≠ some gC ∧ v.ownBlock ≠ some gF
theorem Ad.keep {w wr wr' : World} {v : Value} {L : List (Nat × Nat)} {gC gF n : Nat} {f : Nat → Nat} {a t : Nat} (h : Ad w wr v L gC gF n f a t) (hk : Kept No wr wr') : Ad w wr' v L gC gF n f a t := by
  obtain ⟨fi, f1, f2⟩ := h.f
  exact ⟨h.k.trans hk (fun _ h => h.elim), hk.owns h.o (fun _ _ h => h), h.c.keep hk, ⟨fi, f1.keep hk, f2⟩, h.ge⟩
theorem Ad.old {w wr : World} {v : Value} {L : List (Nat × Nat)} {gC gF n : Nat} {f : Nat → Nat} {a t len q : Nat} (h : Ad w wr v L gC gF n f a t) (hat : a ≤ t) (hr : ∀ u, t ≤ u → u < t + len → f u = q) (hq : Rule.cI f a t q ≠ 0) :
    Ad w (wr.setCell ⟨gC, q, none⟩ (.int .i64 (Rule.cI f a t q + len))) v L gC gF n f a (t + len) := by
  obtain ⟨fi, f1, f2⟩ := h.f
  obtain ⟨g1, g2, g3, g4, g5⟩ := h.ge
  have kc : Kept (fun j => j = gC) wr (wr.setCell ⟨gC, q, none⟩ (.int .i64 (Rule.cI f a t q + len))) := Kept.setCell (Kept.refl (fun j => j = gC) wr) (p := ⟨gC, q, none⟩) (Or.inl rfl) _
  refine ⟨h.k.trans kc (fun j e => .inr (by omega)), kc.owns h.o (fun g hg e => g4 (by rw [← e]; exact hg)), (h.c.put q _).like (fun i hi => ?_), ⟨fi, f1.over kc (fun e => g3 e.symm), f2.old hr hq hat⟩, h.ge⟩
  rw [Rule.cI_run f a t len q i hr]
  by_cases e : i = q
  · subst e; rw [if_pos rfl, if_pos rfl]
  · rw [if_neg e, if_neg (fun h => e h.symm)]; omega
theorem Ad.new {w wr : World} {v : Value} {L : List (Nat × Nat)} {gC gF n : Nat} {f : Nat → Nat} {a t len q : Nat} (h : Ad w wr v L gC gF n f a t) (hat : a ≤ t) (hl : 1 ≤ len) (hr : ∀ u, t ≤ u → u < t + len → f u = q) (hq : Rule.cI f a t q = 0) :
    Ad w ((wr.setCell ⟨gF, q, none⟩ (.int .i64 (t : Int))).setCell ⟨gC, q, none⟩ (.int .i64 (Rule.cI f a t q + len))) v L gC gF n f a (t + len) := by
  obtain ⟨fi, f1, f2⟩ := h.f
  obtain ⟨g1, g2, g3, g4, g5⟩ := h.ge
  have kf : Kept (fun j => j = gF) wr (wr.setCell ⟨gF, q, none⟩ (.int .i64 (t : Int))) := Kept.setCell (Kept.refl (fun j => j = gF) wr) (p := ⟨gF, q, none⟩) (Or.inl rfl) _
  have kc : Kept (fun j => j = gC) (wr.setCell ⟨gF, q, none⟩ (.int .i64 (t : Int))) ((wr.setCell ⟨gF, q, none⟩ (.int .i64 (t : Int))).setCell ⟨gC, q, none⟩ (.int .i64 (Rule.cI f a t q + len))) := Kept.setCell (Kept.refl (fun j => j = gC) _) (p := ⟨gC, q, none⟩) (Or.inl rfl) _
  refine ⟨(h.k.trans kf (fun j e => .inr (by omega))).trans kc (fun j e => .inr (by omega)), kc.owns (kf.owns h.o (fun g hg e => g5 (by rw [← e]; exact hg))) (fun g hg e => g4 (by rw [← e]; exact hg)), ((h.c.over kf (fun e => g3 e)).put q _).like (fun i hi => ?_), ⟨_, (f1.put q (t : Int)).over kc (fun e => g3 e.symm), f2.new hl hr hq hat⟩, h.ge⟩
  rw [Rule.cI_run f a t len q i hr]
  by_cases e : i = q
  · subst e; rw [if_pos rfl, if_pos rfl]
  · rw [if_neg e, if_neg (fun h => e h.symm)]; omega

set_option maxHeartbeats 2000000 in
theorem adds_out {F : Nat → Prop} {a : Option Addr} {c : Nat} {xs : List Srv} (fr len : Int) (w : World) (hg : Gl w) (h : Sv w F a xs.length c xs) (hf6 : I6 fr) (hl6 : I6 len) (ho : ¬ timF xs xs.length = none ∨ fr < 0 ∨ len < 0 ∨ 4096 < len ∨ 1099511627776 - len < fr) :
    Calls Tryz.prog 6 #[.slice a xs.length c, .int .i64 fr, .int .i64 len] w fun e w' => e = .returned (.bool true) ∧ Below w.heap.size w w' := by
  have hc := hyper_any F a xs.length c xs w hg h
  have HWK : Hid (∀ W, Kept No w W → Calls Tryz.prog 9 #[] W fun e w' => e = .returned (.bool true) ∧ Kept No W w') := fun W hk => works_any W (hg.kept hk)
  unfold I6 at hf6 hl6
  cases htm : timF xs xs.length with
  | some p =>
    have hp := tim_neD htm
    rw [(tim_no htm).1, (tim_no htm).2] at hc
    generalize p.1 = pe at *
    clear htm h hg ho
    go_enter Tryz.func6, Tryz.ntmps6
    go_wp2_with (first | (go_at_call 10; refine hc.mono ?_; rintro e w1 ⟨rfl, hk1⟩; have HK1 : Hid (Kept No w w1) := hk1; have hwk := HWK.out w1 hk1; clear hk1 hc) | (go_at_call 9; refine hwk.mono ?_; rintro e w2 ⟨rfl, hk2⟩; have HK2 : Hid (Kept No w w2) := HK1.out.trans hk2 (fun _ h => h.elim); clear hk2 hwk))
    go_ret
    exact ⟨rfl, HK2.out.below0⟩
  | none =>
    have ho : fr < 0 ∨ len < 0 ∨ 4096 < len ∨ 1099511627776 - len < fr := by
      rcases ho with h' | h'
      · exact (h' htm).elim
      · exact h'
    rw [(tim_yes htm).1, (tim_yes htm).2] at hc
    clear h hg htm
    generalize hyp xs = H at *
    by_cases h1 : fr < 0
    · clear ho
      go_enter Tryz.func6, Tryz.ntmps6
      go_wp2_with (first | (go_at_call 10; refine hc.mono ?_; rintro e w1 ⟨rfl, hk1⟩; have HK1 : Hid (Kept No w w1) := hk1; have hwk := HWK.out w1 hk1; clear hk1 hc) | (go_at_call 9; refine hwk.mono ?_; rintro e w2 ⟨rfl, hk2⟩; have HK2 : Hid (Kept No w w2) := HK1.out.trans hk2 (fun _ h => h.elim); clear hk2 hwk))
      go_ret
      exact ⟨rfl, HK2.out.below0⟩
    · by_cases h2 : len < 0
      · clear ho
        go_enter Tryz.func6, Tryz.ntmps6
        go_wp2_with (first | (go_at_call 10; refine hc.mono ?_; rintro e w1 ⟨rfl, hk1⟩; have HK1 : Hid (Kept No w w1) := hk1; have hwk := HWK.out w1 hk1; clear hk1 hc) | (go_at_call 9; refine hwk.mono ?_; rintro e w2 ⟨rfl, hk2⟩; have HK2 : Hid (Kept No w w2) := HK1.out.trans hk2 (fun _ h => h.elim); clear hk2 hwk))
        go_ret
        exact ⟨rfl, HK2.out.below0⟩
      · by_cases h3 : 4096 < len
        · clear ho
          go_enter Tryz.func6, Tryz.ntmps6
          go_wp2_with (first | (go_at_call 10; refine hc.mono ?_; rintro e w1 ⟨rfl, hk1⟩; have HK1 : Hid (Kept No w w1) := hk1; have hwk := HWK.out w1 hk1; clear hk1 hc) | (go_at_call 9; refine hwk.mono ?_; rintro e w2 ⟨rfl, hk2⟩; have HK2 : Hid (Kept No w w2) := HK1.out.trans hk2 (fun _ h => h.elim); clear hk2 hwk))
          go_ret
          exact ⟨rfl, HK2.out.below0⟩
        · have h4 : 1099511627776 - len < fr := by omega
          clear ho
          go_enter Tryz.func6, Tryz.ntmps6
          go_wp2_with (first | (go_at_call 10; refine hc.mono ?_; rintro e w1 ⟨rfl, hk1⟩; have HK1 : Hid (Kept No w w1) := hk1; have hwk := HWK.out w1 hk1; clear hk1 hc) | (go_at_call 9; refine hwk.mono ?_; rintro e w2 ⟨rfl, hk2⟩; have HK2 : Hid (Kept No w w2) := HK1.out.trans hk2 (fun _ h => h.elim); clear hk2 hwk))
          go_ret
          exact ⟨rfl, HK2.out.below0⟩

set_option maxHeartbeats 8000000 in
theorem adds_in {F : Nat → Prop} {a : Option Addr} {c : Nat} {xs : List Srv} (u m : Nat) (w : World) (hg : Gl w) (h : Sv w F a xs.length c xs) (hF : ∀ k, F k → k < w.heap.size) (htm : timF xs xs.length = none) (hm : m ≤ 4096) (hum : u + m ≤ 1099511627776) :
    Calls Tryz.prog 6 #[.slice a xs.length c, .int .i64 u, .int .i64 m] w fun e w' => e = .returned (.bool true) ∧ Below w.heap.size w w' := by
  have hv := vd_of htm
  have hn := hv.num
  have hc := hyper_any F a xs.length c xs w hg h
  rw [(tim_yes htm).1, (tim_yes htm).2] at hc
  have hFW : ∀ W, Kept No w W → ∀ k, F k → k < W.heap.size := fun W hk k hk' => by have := hF k hk'; have := hk.size; omega
  have HWK : Hid (∀ W, Kept No w W → Calls Tryz.prog 9 #[] W fun e w' => e = .returned (.bool true) ∧ Kept No W w') := fun W hk => works_any W (hg.kept hk)
  have HAT : Hid (∀ (u : Nat) W, u < 1099511627776 → Kept No w W → Calls Tryz.prog 11 #[.slice a xs.length c, .int .i64 u] W fun e w' => e = .returned (.tuple #[.int .i64 (Rule.occ (sys xs) u), .int .i64 0]) ∧ Kept No W w') := fun u W hu hk => at_yes u W (hg.kept hk) (h.keep hk) (hFW W hk) htm hu
  have HRN : Hid (∀ W, Kept No w W → Calls Tryz.prog 15 #[.slice a xs.length c, .int .i64 u, .int .i64 ((u + m : Nat) : Int)] W fun e w' => Kept No W w' ∧ ∃ v, e = .returned (.tuple #[v, .int .i64 0]) ∧ Ow w' W.heap.size v (Rule.runsOf (Rule.occ (sys xs)) u m)) := fun W hk => (runs_yes u (u + m) W (hg.kept hk) (h.keep hk) (hFW W hk) htm (by omega) hum).mono (fun e w' he => by
    rw [show u + m - u = m by omega] at he
    obtain ⟨h1, ⟨v, _, h2, h3⟩ | ⟨h2, _⟩⟩ := he
    · exact ⟨h1, v, h2, h3⟩
    · have := (Rule.runsOf_tile (Rule.occ (sys xs)) u m).len
      omega)
  have HSP : Hid (∀ (p : Nat) W, 1 ≤ p → p ≤ xs.length → Kept No w W → Calls Tryz.prog 14 #[.slice a xs.length c, .int .i64 p, .int .i64 u, .int .i64 ((u + m : Nat) : Int)] W fun e w' => e = .returned (.tuple #[.int .i64 (Rule.cI (Rule.occ (sys xs)) u (u + m) p), .int .i64 0]) ∧ Kept No W w') := fun p W h1 h2 hk => supply_yes p u (u + m) W (hg.kept hk) (h.keep hk) (hFW W hk) htm h1 h2 (by omega) hum
  have HNX : Hid (∀ (p : Nat) W, 1 ≤ p → p ≤ xs.length → Kept No w W → Calls Tryz.prog 16 #[.slice a xs.length c, .int .i64 p, .int .i64 u] W fun e w' => Kept No W w' ∧ ∃ x : Int, e = .returned (.tuple #[.int .i64 x, .int .i64 0]) ∧ ((x = -1 ∧ ∀ t, u ≤ t → t < nearOf (hyp xs) u → Rule.occ (sys xs) t ≠ p) ∨ ∃ t : Nat, x = t ∧ t < nearOf (hyp xs) u ∧ Fst (Rule.occ (sys xs)) p u t)) := fun p W h1 h2 hk => nextOf_yes p u W (hg.kept hk) (h.keep hk) (hFW W hk) htm h1 h2 (by omega)
  have HPL : Hid (Vd xs) := hv
  have hcap := h.cap
  have hmax := h.max
  clear h hF hg htm hv hFW
  have hL := Rule.runsOf_tile (Rule.occ (sys xs)) u m
  have hU := Rule.runsOf_unlike (Rule.occ (sys xs)) u m
  generalize hLL : Rule.runsOf (Rule.occ (sys xs)) u m = L at *
  have hll := hL.len
  have HL : Hid (Rule.Tile (Rule.occ (sys xs)) u m L ∧ Rule.Unlike L) := ⟨hL, hU⟩
  clear hLL hL hU
  rw [show ((u + m : Nat) : Int) = (u : Int) + m by omega] at HRN HSP
  have e42 : wrap64 (1099511627776 - (m : Int)) = 1099511627776 - (m : Int) := by unfold wrap64; omega
  go_enter Tryz.func6, Tryz.ntmps6
  go_upto_region 4 with (go_at_call 10; refine hc.mono ?_; rintro e w1 ⟨rfl, hk1⟩; have HK1 : Hid (Kept No w w1) := hk1; clear hk1 hc)
  have q1 := HRN.out w1 HK1.out
  clear e42
  go_upto_region 7 with (go_at_call 15; refine q1.mono ?_; rintro e w2 ⟨hk2, v, rfl, ho⟩; have HK2 : Hid (Kept No w w2 ∧ Ow w2 w1.heap.size v L ∧ w.heap.size ≤ w1.heap.size) := ⟨HK1.out.trans hk2 (fun _ h => h.elim), ho, HK1.out.size⟩; obtain ⟨va, vn, vc, hvv⟩ := ow_slice ho; subst hvv; obtain rfl := ow_len ho; clear hk2 ho q1)
  obtain ⟨w3, hm3, hct3, k3, sz3⟩ := make_ints' w2 (xs.length + 1) (by omega)
  rw [show ((xs.length + 1 : Nat) : Int) = (xs.length : Int) + 1 by omega] at hm3
  go_upto_region 8 with fail
  obtain ⟨w4, hm4, hct4, k4, sz4⟩ := make_ints' w3 (xs.length + 1) (by omega)
  rw [show ((xs.length + 1 : Nat) : Int) = (xs.length : Int) + 1 by omega] at hm4
  have HA : Hid (Ad w w4 (.slice va L.length vc) L w2.heap.size w3.heap.size xs.length (Rule.occ (sys xs)) u u) := by
    obtain ⟨g1, g2, g3⟩ := HK2.out
    have hs2 := g1.size
    have ho4 : Ow w4 w1.heap.size (.slice va L.length vc) L := k4.owns (k3.owns g2 (fun _ _ h => h)) (fun _ _ h => h)
    have hlt : ∀ g, (Value.slice va L.length vc).ownBlock = some g → g < w2.heap.size := fun g hg => (World.ownsRow.lt g2 g hg).2
    refine ⟨(g1.trans k3 (fun _ h => h.elim)).trans k4 (fun _ h => h.elim), ?_, (hct3.keep k4).like (fun i hi => (Rule.cI_start _ _ _).symm), ⟨_, hct4, Rule.Firsts.start _ _ _ _⟩, by omega, by omega, by omega, fun e => by have := hlt _ e; omega, fun e => by have := hlt _ e; omega⟩
    obtain ⟨e1, e2 | ⟨g, cap, cur, e2, e3, r⟩⟩ := ho4
    · exact ⟨e1, .inl e2⟩
    · exact ⟨e1, .inr ⟨g, cap, cur, e2, Nat.le_trans g3 e3, r⟩⟩
  clear hm3 hct3 k3 sz3 hct4 k4 sz4 HRN HK2
  generalize hgC : w2.heap.size = gC at *
  generalize hgF : w3.heap.size = gF at *
  clear hgC hgF
  go_wp2
  clear hm4
  go_loopw [13, 14] (fun x y wr => ∃ k : Nat, k ≤ L.length ∧ y = .int .i64 k ∧ x = .int .i64 ((u + Rule.pre L k : Nat) : Int) ∧ Ad w wr (.slice va L.length vc) L gC gF xs.length (Rule.occ (sys xs)) u (u + Rule.pre L k)) (fun _ y _ => L.length - (intOf y).toNat)
  case atStart => exact ⟨0, Nat.zero_le _, rfl, rfl, HA.out⟩
  case round =>
    clear HA
    obtain ⟨k, hk, rfl, rfl, had⟩ := hrel
    by_cases hlt : k < L.length
    · obtain ⟨x, hx⟩ : ∃ x, L[k]? = some x := ⟨L[k], by rw [List.getElem?_eq_getElem hlt]⟩
      have hps := Rule.pre_succ hx
      have hpl := Rule.pre_le HL.out.1 (k + 1)
      have hx1 := HL.out.1.pos x (List.mem_of_getElem? hx)
      have hxr := HL.out.1.at' k x hx
      have hpr : 0 < k → ∃ y, L[k - 1]? = some y ∧ y.2 ≠ x.2 := fun h0 => by
        obtain ⟨y, hy⟩ : ∃ y, L[k - 1]? = some y := ⟨L[k - 1]'(by omega), by rw [List.getElem?_eq_getElem (by omega)]⟩
        exact ⟨y, hy, HL.out.2 (k - 1) y x hy (by rw [show k - 1 + 1 = k by omega]; exact hx)⟩
      obtain ⟨g, rfl⟩ : ∃ g, va = some ⟨g, 0, none⟩ := by
        obtain ⟨_, ⟨h1, h2⟩ | ⟨g, cap, cur, h1, _⟩⟩ := had.o
        · omega
        · injection h1 with h1 _ _; exact ⟨g, h1⟩
      obtain ⟨c0, c1⟩ := ow_at2 had.o hx
      obtain ⟨len, q⟩ := x
      simp only at hps hx1 hxr hpr c0 c1
      obtain ⟨T, hT⟩ : ∃ T, u + Rule.pre L k = T := ⟨_, rfl⟩
      have hrun : ∀ t, T ≤ t → t < T + len → Rule.occ (sys xs) t = q := fun t h1 h2 => by
        have := hxr (t - u) (by omega) (by omega)
        rw [show u + (t - u) = t by omega] at this
        exact this
      have hT2 : u ≤ T ∧ T + len ≤ u + m := by omega
      have hq : q ≤ xs.length := by rw [← hrun T (Nat.le_refl _) (by omega)]; exact Rule.occ_le (sys xs) T
      rw [hT] at had ⊢
      have HAD : Hid (Ad w wr (.slice (some ⟨g, 0, none⟩) L.length vc) L gC gF xs.length (Rule.occ (sys xs)) u T) := had
      have HRUN : Hid (∀ t, T ≤ t → t < T + len → Rule.occ (sys xs) t = q) := hrun
      have HPS : Hid (u + Rule.pre L (k + 1) = T + len) := (show u + Rule.pre L (k + 1) = T + len by omega)
      have HPR : Hid (0 < k → ∃ y, L[k - 1]? = some y ∧ y.2 ≠ q) := hpr
      clear had hrun hps hpl hxr hpr hx hT
      have hcL : L.length ≤ 9223372036854775807 := by omega
      go_upto_region 14 with fail
      have kal : Kept No wr (wr.alloc (.cells #[.int .i64 (len : Int), .int .i64 (q : Int)] 42)) := (Kept.refl No wr).alloc _
      have b2 := World.alloc_heap_new wr (.cells #[.int .i64 (len : Int), .int .i64 (q : Int)] 42)
      have HAD2 : Hid (Ad w (wr.alloc (.cells #[.int .i64 (len : Int), .int .i64 (q : Int)] 42)) (.slice (some ⟨g, 0, none⟩) L.length vc) L gC gF xs.length (Rule.occ (sys xs)) u T ∧ gC ≠ wr.heap.size ∧ gF ≠ wr.heap.size) := ⟨HAD.out.keep kal, by have := HAD.out.c.lt; omega, by obtain ⟨_, h1, _⟩ := HAD.out.f; have := h1.lt; omega⟩
      clear kal c0 c1 HAD
      generalize wr.alloc (.cells #[.int .i64 (len : Int), .int .i64 (q : Int)] 42) = wq at *
      have HB2 : Hid (wq.heap[wr.heap.size]? = some (.cells #[.int .i64 (len : Int), .int .i64 (q : Int)] 42)) := b2
      obtain ⟨c0, c1⟩ := cells2r b2
      generalize hz : wr.heap.size = z at *
      clear hz b2
      have f1 : decide ((len : Int) < 1) = false := decide_eq_false (by omega)
      have f2 : decide ((q : Int) < 0) = false := decide_eq_false (by omega)
      have f3 : decide ((xs.length : Int) < (q : Int)) = false := decide_eq_false (by omega)
      have f1' : decide (len < 1) = false := decide_eq_false (by omega)
      have f1'' : decide (len = 0) = false := decide_eq_false (by omega)
      have f3' : decide (xs.length < q) = false := decide_eq_false (by omega)
      by_cases hk0 : k = 0
      · have f4 : decide (0 < k) = false := decide_eq_false (by omega)
        have f4' : decide ((0 : Int) < (k : Int)) = false := decide_eq_false (by omega)
        go_quiet (fail)
        clear f4 f4' hk0
        have HA3 : Hid (Ad w (wq.drewN nq) (.slice (some ⟨g, 0, none⟩) L.length vc) L gC gF xs.length (Rule.occ (sys xs)) u T ∧ (wq.drewN nq).heap[z]? = some (.cells #[.int .i64 (len : Int), .int .i64 (q : Int)] 42)) := ⟨HAD2.out.1.keep ((Kept.refl No wq).drewN _), HB2.out⟩
        have hgz := HAD2.out.2
        clear c0 c1 f1 f2 f3 f1' f1'' f3' HB2 HAD2
        generalize wq.drewN nq = wz at *
        obtain ⟨c0, c1⟩ := cells2r HA3.out.2
        have a1 := HAT.out T wz (by omega) HA3.out.1.k
        rw [HRUN.out T (Nat.le_refl _) (by omega)] at a1
        go_upto_region 17 with (go_at_call 11; refine a1.mono ?_; rintro e w5 ⟨rfl, hk5⟩; have HA5 : Hid (Ad w w5 (.slice (some ⟨g, 0, none⟩) L.length vc) L gC gF xs.length (Rule.occ (sys xs)) u T ∧ w5.heap[z]? = some (.cells #[.int .i64 (len : Int), .int .i64 (q : Int)] 42)) := ⟨HA3.out.1.keep hk5, hk5.at' HA3.out.2 (fun h => h)⟩; clear hk5 a1 c0 c1)
        obtain ⟨c0, c1⟩ := cells2r HA5.out.2
        have a2 := HAT.out (T + len - 1) w5 (by omega) HA5.out.1.k
        rw [HRUN.out (T + len - 1) (by omega) (by omega), show ((T + len - 1 : Nat) : Int) = (T : Int) + len - 1 by omega] at a2
        go_upto_region 18 with (go_at_call 11; refine a2.mono ?_; rintro e w6 ⟨rfl, hk6⟩; have HA6 : Hid (Ad w w6 (.slice (some ⟨g, 0, none⟩) L.length vc) L gC gF xs.length (Rule.occ (sys xs)) u T ∧ w6.heap[z]? = some (.cells #[.int .i64 (len : Int), .int .i64 (q : Int)] 42)) := ⟨HA5.out.1.keep hk6, hk6.at' HA5.out.2 (fun h => h)⟩; clear hk6 a2 c0 c1)
        obtain ⟨c0, c1⟩ := cells2r HA6.out.2
        have d0 := HA6.out.1.c.at' q (by omega)
        have dz := HA6.out.1.c.fz q
        have d1 : ∃ o, w6.cell? ⟨gF, q, none⟩ = some (.int .i64 o) ∧ w6.frozen? ⟨gF, q, none⟩ = false := (by obtain ⟨fi, ff1, ff2⟩ := HA6.out.1.f; exact ⟨fi q, ff1.at' q (by omega), ff1.fz q⟩)
        obtain ⟨fo, d1, dz1⟩ := d1
        have cb0 := Rule.cI_nonneg (Rule.occ (sys xs)) u T q hT2.1
        have cb1 := Rule.cI_le (Rule.occ (sys xs)) u T q hT2.1
        have hgCF := HA6.out.1.ge.2.2.1
        by_cases hc0 : Rule.cI (Rule.occ (sys xs)) u T q = 0
        · have HN : Hid (Ad w ((w6.setCell ⟨gF, q, none⟩ (.int .i64 (T : Int))).setCell ⟨gC, q, none⟩ (.int .i64 (Rule.cI (Rule.occ (sys xs)) u T q + len))) (.slice (some ⟨g, 0, none⟩) L.length vc) L gC gF xs.length (Rule.occ (sys xs)) u (T + len)) := HA6.out.1.new hT2.1 hx1 HRUN.out hc0
          generalize Rule.cI (Rule.occ (sys xs)) u T q = C at *
          have hC1 : (C == 0) = true := beq_iff_eq.2 hc0
          clear hc0
          go_upto_region 22 with fail
          have c0' : (w6.setCell ⟨gF, q, none⟩ (.int .i64 (T : Int))).cell? ⟨z, 0, none⟩ = some (.int .i64 (len : Int)) := by rw [World.cell?_setCell_other _ _ _ _ (fun e => by injection e with e1 _ _; omega)]; exact c0
          have c1' : (w6.setCell ⟨gF, q, none⟩ (.int .i64 (T : Int))).cell? ⟨z, 1, none⟩ = some (.int .i64 (q : Int)) := by rw [World.cell?_setCell_other _ _ _ _ (fun e => by injection e with e1 _ _; omega)]; exact c1
          have d0' : (w6.setCell ⟨gF, q, none⟩ (.int .i64 (T : Int))).cell? ⟨gC, q, none⟩ = some (.int .i64 C) := by rw [World.cell?_setCell_other _ _ _ _ (fun e => by injection e with e1 _ _; omega)]; exact d0
          have dz' : (w6.setCell ⟨gF, q, none⟩ (.int .i64 (T : Int))).frozen? ⟨gC, q, none⟩ = false := by rw [World.frozen?_setCell]; exact dz
          clear c0 c1 d0 dz d1 dz1
          generalize w6.setCell ⟨gF, q, none⟩ (.int .i64 (T : Int)) = w7 at *
          go_region
          all_goals go_wp2
          all_goals go_roundw
          case rel => exact ⟨k + 1, by omega, by go_num, by rw [HPS.out]; go_num, by rw [HPS.out]; exact HN.out.keep ((Kept.refl No _).drew)⟩
          case measure => simp [intOf]; omega
        · have HN : Hid (Ad w (w6.setCell ⟨gC, q, none⟩ (.int .i64 (Rule.cI (Rule.occ (sys xs)) u T q + len))) (.slice (some ⟨g, 0, none⟩) L.length vc) L gC gF xs.length (Rule.occ (sys xs)) u (T + len)) := HA6.out.1.old hT2.1 HRUN.out hc0
          generalize Rule.cI (Rule.occ (sys xs)) u T q = C at *
          have hC1 : (C == 0) = false := beq_eq_false_iff_ne.2 hc0
          clear hc0 d1 dz1
          go_upto_region 22 with fail
          go_region
          all_goals go_wp2
          all_goals go_roundw
          case rel => exact ⟨k + 1, by omega, by go_num, by rw [HPS.out]; go_num, by rw [HPS.out]; exact HN.out.keep ((Kept.refl No _).drew)⟩
          case measure => simp [intOf]; omega
      · obtain ⟨y, hy, hyq⟩ := HPR.out (by omega)
        obtain ⟨e0, e1⟩ := ow_at2 HAD2.out.1.o hy
        have hk1 : 0 < k := by omega
        have hk1' : (0 : Int) < (k : Int) := by omega
        have eK : (k : Int) - 1 = ((k - 1 : Nat) : Int) := by omega
        have hkl : k - 1 < L.length := by omega
        have f5 : ((y.2 : Int) == (q : Int)) = false := beq_eq_false_iff_ne.2 (by omega)
        go_quiet (fail)
        clear e0 e1 hk1 hk1' eK hkl f5 hk0
        have HA3 : Hid (Ad w (wq.drewN nq) (.slice (some ⟨g, 0, none⟩) L.length vc) L gC gF xs.length (Rule.occ (sys xs)) u T ∧ (wq.drewN nq).heap[z]? = some (.cells #[.int .i64 (len : Int), .int .i64 (q : Int)] 42)) := ⟨HAD2.out.1.keep ((Kept.refl No wq).drewN _), HB2.out⟩
        have hgz := HAD2.out.2
        clear c0 c1 f1 f2 f3 f1' f1'' f3' HB2 HAD2
        generalize wq.drewN nq = wz at *
        obtain ⟨c0, c1⟩ := cells2r HA3.out.2
        have a1 := HAT.out T wz (by omega) HA3.out.1.k
        rw [HRUN.out T (Nat.le_refl _) (by omega)] at a1
        go_upto_region 17 with (go_at_call 11; refine a1.mono ?_; rintro e w5 ⟨rfl, hk5⟩; have HA5 : Hid (Ad w w5 (.slice (some ⟨g, 0, none⟩) L.length vc) L gC gF xs.length (Rule.occ (sys xs)) u T ∧ w5.heap[z]? = some (.cells #[.int .i64 (len : Int), .int .i64 (q : Int)] 42)) := ⟨HA3.out.1.keep hk5, hk5.at' HA3.out.2 (fun h => h)⟩; clear hk5 a1 c0 c1)
        obtain ⟨c0, c1⟩ := cells2r HA5.out.2
        have a2 := HAT.out (T + len - 1) w5 (by omega) HA5.out.1.k
        rw [HRUN.out (T + len - 1) (by omega) (by omega), show ((T + len - 1 : Nat) : Int) = (T : Int) + len - 1 by omega] at a2
        go_upto_region 18 with (go_at_call 11; refine a2.mono ?_; rintro e w6 ⟨rfl, hk6⟩; have HA6 : Hid (Ad w w6 (.slice (some ⟨g, 0, none⟩) L.length vc) L gC gF xs.length (Rule.occ (sys xs)) u T ∧ w6.heap[z]? = some (.cells #[.int .i64 (len : Int), .int .i64 (q : Int)] 42)) := ⟨HA5.out.1.keep hk6, hk6.at' HA5.out.2 (fun h => h)⟩; clear hk6 a2 c0 c1)
        obtain ⟨c0, c1⟩ := cells2r HA6.out.2
        have d0 := HA6.out.1.c.at' q (by omega)
        have dz := HA6.out.1.c.fz q
        have d1 : ∃ o, w6.cell? ⟨gF, q, none⟩ = some (.int .i64 o) ∧ w6.frozen? ⟨gF, q, none⟩ = false := (by obtain ⟨fi, ff1, ff2⟩ := HA6.out.1.f; exact ⟨fi q, ff1.at' q (by omega), ff1.fz q⟩)
        obtain ⟨fo, d1, dz1⟩ := d1
        have cb0 := Rule.cI_nonneg (Rule.occ (sys xs)) u T q hT2.1
        have cb1 := Rule.cI_le (Rule.occ (sys xs)) u T q hT2.1
        have hgCF := HA6.out.1.ge.2.2.1
        by_cases hc0 : Rule.cI (Rule.occ (sys xs)) u T q = 0
        · have HN : Hid (Ad w ((w6.setCell ⟨gF, q, none⟩ (.int .i64 (T : Int))).setCell ⟨gC, q, none⟩ (.int .i64 (Rule.cI (Rule.occ (sys xs)) u T q + len))) (.slice (some ⟨g, 0, none⟩) L.length vc) L gC gF xs.length (Rule.occ (sys xs)) u (T + len)) := HA6.out.1.new hT2.1 hx1 HRUN.out hc0
          generalize Rule.cI (Rule.occ (sys xs)) u T q = C at *
          have hC1 : (C == 0) = true := beq_iff_eq.2 hc0
          clear hc0
          go_upto_region 22 with fail
          have c0' : (w6.setCell ⟨gF, q, none⟩ (.int .i64 (T : Int))).cell? ⟨z, 0, none⟩ = some (.int .i64 (len : Int)) := by rw [World.cell?_setCell_other _ _ _ _ (fun e => by injection e with e1 _ _; omega)]; exact c0
          have c1' : (w6.setCell ⟨gF, q, none⟩ (.int .i64 (T : Int))).cell? ⟨z, 1, none⟩ = some (.int .i64 (q : Int)) := by rw [World.cell?_setCell_other _ _ _ _ (fun e => by injection e with e1 _ _; omega)]; exact c1
          have d0' : (w6.setCell ⟨gF, q, none⟩ (.int .i64 (T : Int))).cell? ⟨gC, q, none⟩ = some (.int .i64 C) := by rw [World.cell?_setCell_other _ _ _ _ (fun e => by injection e with e1 _ _; omega)]; exact d0
          have dz' : (w6.setCell ⟨gF, q, none⟩ (.int .i64 (T : Int))).frozen? ⟨gC, q, none⟩ = false := by rw [World.frozen?_setCell]; exact dz
          clear c0 c1 d0 dz d1 dz1
          generalize w6.setCell ⟨gF, q, none⟩ (.int .i64 (T : Int)) = w7 at *
          go_region
          all_goals go_wp2
          all_goals go_roundw
          case rel => exact ⟨k + 1, by omega, by go_num, by rw [HPS.out]; go_num, by rw [HPS.out]; exact HN.out.keep ((Kept.refl No _).drew)⟩
          case measure => simp [intOf]; omega
        · have HN : Hid (Ad w (w6.setCell ⟨gC, q, none⟩ (.int .i64 (Rule.cI (Rule.occ (sys xs)) u T q + len))) (.slice (some ⟨g, 0, none⟩) L.length vc) L gC gF xs.length (Rule.occ (sys xs)) u (T + len)) := HA6.out.1.old hT2.1 HRUN.out hc0
          generalize Rule.cI (Rule.occ (sys xs)) u T q = C at *
          have hC1 : (C == 0) = false := beq_eq_false_iff_ne.2 hc0
          clear hc0 d1 dz1
          go_upto_region 22 with fail
          go_region
          all_goals go_wp2
          all_goals go_roundw
          case rel => exact ⟨k + 1, by omega, by go_num, by rw [HPS.out]; go_num, by rw [HPS.out]; exact HN.out.keep ((Kept.refl No _).drew)⟩
          case measure => simp [intOf]; omega
    · have hke : k = L.length := by omega
      subst hke
      have hpa : Rule.pre L L.length = m := by rw [Rule.pre_all, HL.out.1.sum]
      rw [hpa] at had ⊢
      rw [show ((u + m : Nat) : Int) = (u : Int) + m by omega]
      have HAE : Hid (Ad w wr (.slice va L.length vc) L gC gF xs.length (Rule.occ (sys xs)) u (u + m)) := had
      obtain ⟨fi, ff1, ff2⟩ := had.f
      have HFI : Hid (Ct wr gF (xs.length + 1) fi ∧ Rule.Firsts (Rule.occ (sys xs)) xs.length u (u + m) fi) := ⟨ff1, ff2⟩
      clear had ff1 ff2 hpa hlt
      generalize wr = wA at *
      go_wp2
      go_loopw [20] (fun x wq => ∃ p : Nat, 1 ≤ p ∧ p ≤ xs.length + 1 ∧ x = .int .i64 p ∧ Kept No wA wq) (fun x _ => xs.length + 1 - (intOf x).toNat)
      case atStart => exact ⟨1, Nat.le_refl _, by omega, rfl, Kept.refl No wA⟩
      case round =>
        obtain ⟨p, hp1, hp2, rfl, hkq⟩ := hrel
        have HKQ : Hid (Kept No wA wr) := hkq
        have HKW : Hid (Kept No w wr) := HAE.out.k.trans hkq (fun _ h => h.elim)
        clear hkq
        by_cases hpn : p ≤ xs.length
        · have s1 := HSP.out p wr hp1 hpn HKW.out
          have HCB : Hid (0 ≤ Rule.cI (Rule.occ (sys xs)) u (u + m) p ∧ Rule.cI (Rule.occ (sys xs)) u (u + m) p ≤ 4096) := ⟨Rule.cI_nonneg _ _ _ _ (by omega), by have := Rule.cI_le (Rule.occ (sys xs)) u (u + m) p (by omega); omega⟩
          have hag : ∀ t, hyp xs ≤ t → Rule.occ (sys xs) (t + hyp xs) = Rule.occ (sys xs) t := fun t ht => Rule.again HPL.out.bd.ok (fun i hi => HPL.out.dvd i hi) t ht
          have HNI : Hid (∀ x : Int, ((x = -1 ∧ ∀ t, u ≤ t → t < nearOf (hyp xs) u → Rule.occ (sys xs) t ≠ p) ∨ ∃ t : Nat, x = t ∧ t < nearOf (hyp xs) u ∧ Fst (Rule.occ (sys xs)) p u t) → (0 < Rule.cI (Rule.occ (sys xs)) u (u + m) p → x = fi p) ∧ (Rule.cI (Rule.occ (sys xs)) u (u + m) p = 0 → x ≠ -1 → ((u + m : Nat) : Int) ≤ x)) := fun x hx => Rule.next_in HPL.out.hyp1 hag (by omega) hum hpn HFI.out.2 hx
          clear hag
          have hcc := HAE.out.c.at' p (by omega)
          have hff := HFI.out.1.at' p (by omega)
          have HCC : Hid (wA.cell? ⟨gC, p, none⟩ = some (.int .i64 (Rule.cI (Rule.occ (sys xs)) u (u + m) p)) ∧ wA.cell? ⟨gF, p, none⟩ = some (.int .i64 (fi p))) := ⟨hcc, hff⟩
          clear hcc hff
          have s2 := fun W hk => HNX.out p W hp1 hpn hk
          generalize Rule.cI (Rule.occ (sys xs)) u (u + m) p = C at *
          generalize fi p = fp at *
          go_upto_region 30 with (go_at_call 14; refine s1.mono ?_; rintro e w8 ⟨rfl, hk8⟩; have HK8 : Hid (Kept No wA w8 ∧ Kept No w w8) := ⟨HKQ.out.trans hk8 (fun _ h => h.elim), HKW.out.trans hk8 (fun _ h => h.elim)⟩; clear hk8 s1)
          have s3 := s2 w8 HK8.out.2
          go_upto_region 31 with (go_at_call 16; refine s3.mono ?_; rintro e w9 ⟨hk9, x, rfl, hx⟩; have HK9 : Hid (Kept No wA w9) := HK8.out.1.trans hk9 (fun _ h => h.elim); have HXX := HNI.out x hx; clear hk9 s3 s2 hx)
          have d0 := HK9.out.cell HCC.out.1 (fun h => h)
          have d1 := HK9.out.cell HCC.out.2 (fun h => h)
          obtain ⟨cb0, cb1⟩ := HCB.out
          obtain ⟨x1, x2⟩ := HXX
          clear HNI
          by_cases hC : 0 < C
          · obtain rfl := x1 hC
            have hC1 : (C == 0) = false := beq_eq_false_iff_ne.2 (by omega)
            clear x1 x2
            go_wp2
            go_roundw
            case rel => exact ⟨p + 1, by omega, by omega, by go_num, HK9.out⟩
            case measure => simp [intOf]; omega
          · have hC0 : C = 0 := by omega
            have x3 := x2 hC0
            have hC2 : decide (0 < C) = false := decide_eq_false hC
            have hC1 : (C == 0) = true := beq_iff_eq.2 hC0
            clear x1 x2
            by_cases hx1 : x = -1
            · subst hx1
              clear x3
              go_wp2
              go_roundw
              case rel => exact ⟨p + 1, by omega, by omega, by go_num, HK9.out⟩
              case measure => simp [intOf]; omega
            · have x4 := x3 hx1
              have x5 : decide (x < (u : Int) + m) = false := decide_eq_false (by omega)
              have x6 : (x != -1) = true := bne_iff_ne.2 hx1
              clear x3
              go_wp2
              go_roundw
              case rel => exact ⟨p + 1, by omega, by omega, by go_num, HK9.out⟩
              case measure => simp [intOf]; omega
        · have hpe : p = xs.length + 1 := by omega
          subst hpe
          have hwk := HWK.out wr HKW.out
          go_wp2_with (go_at_call 9; refine hwk.mono ?_; rintro e w7 ⟨rfl, hk7⟩; have HK7 : Hid (Kept No w w7) := HKW.out.trans hk7 (fun _ h => h.elim); clear hk7 hwk)
          go_ret
          exact ⟨rfl, HK7.out.below0⟩
theorem adds_law {F : Nat → Prop} {a : Option Addr} {c : Nat} {xs : List Srv} (fr len : Int) (w : World) (hg : Gl w) (h : Sv w F a xs.length c xs) (hF : ∀ k, F k → k < w.heap.size) (hf6 : I6 fr) (hl6 : I6 len) :
    Calls Tryz.prog 6 #[.slice a xs.length c, .int .i64 fr, .int .i64 len] w fun e w' => e = .returned (.bool true) ∧ Below w.heap.size w w' := by
  by_cases ho : ¬ timF xs xs.length = none ∨ fr < 0 ∨ len < 0 ∨ 4096 < len ∨ 1099511627776 - len < fr
  · exact adds_out fr len w hg h hf6 hl6 ho
  · have h1 : timF xs xs.length = none := Classical.byContradiction fun h' => ho (.inl h')
    obtain ⟨u, rfl⟩ : ∃ u : Nat, fr = (u : Int) := ⟨fr.toNat, by omega⟩
    obtain ⟨m, rfl⟩ : ∃ m : Nat, len = (m : Int) := ⟨len.toNat, by omega⟩
    exact adds_in u m w hg h hF h1 (by omega) (by omega)
end Go.Proofs.YticnkekedhhbaaaGreatDoor
