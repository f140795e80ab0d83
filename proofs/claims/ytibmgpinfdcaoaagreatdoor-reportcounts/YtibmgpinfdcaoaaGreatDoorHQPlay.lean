/-
  One text: QPlay.
-/
import Derived.Test.YtibmgpinfdcaoaaGreatDoorG29
import Derived.Deep.CutBlock
import Derived.Deep.DeepCutAuto
namespace Go.Proofs.YtibmgpinfdcaoaaGreatDoor
open Go.RowKit Plain
set_option linter.unusedVariables false
set_option maxRecDepth 100000

theorem Tryz.infoI3q : (Tryz.prog.info? 3).map (fun i => (i.zero, i.size, i.bytes)) = some (some (.int .i64 0), 1, 8) := by kernel_rfl
/-- the first m occupants, as cells -/
def ocL (f : Nat → Nat) (m : Nat) : List Value := (List.range m).map (fun t => .int .i64 (f t : Nat))
theorem ocL_succ (f : Nat → Nat) (m : Nat) : ocL f (m + 1) = ocL f m ++ [.int .i64 (f m : Nat)] := by simp [ocL, List.range_succ]
theorem ocL_len (f : Nat → Nat) (m : Nat) : (ocL f m).length = m := by simp [ocL]
theorem ocL_get (f : Nat → Nat) {m i : Nat} (h : i < m) : (ocL f m)[i]? = some (.int .i64 (f i : Nat)) := by simp [ocL, h]
/-- an owned list of occupants -/
def Oi (w : World) (base : Nat) (v : Value) (f : Nat → Nat) (m : Nat) : Prop := w.ownsRow base 3 1 v m (ocL f m)
/-- the rests behind tick t - 1 -/
def aft (s : Rule.Sys) (t i : Nat) : Nat := match t with
  | 0 => 0
  | t + 1 => Rule.rest s t i - (if Rule.occ s t = i + 1 then 1 else 0)
theorem aft_rel (s : Rule.Sys) (t i : Nat) : rlN s t (aft s t) i = Rule.rest s t i := by
  unfold rlN
  cases t with
  | zero => rfl
  | succ t => rfl
theorem aft_occ (s : Rule.Sys) (t : Nat) : Rule.chosen s (rlN s t (aft s t)) = Rule.occ s t := by
  have e : rlN s t (aft s t) = Rule.rest s t := funext (aft_rel s t)
  rw [e]
  rfl
theorem rmake_ints (w : World) (n : Nat) (hn : n ≤ 32) : ∃ w1, (Instr.makeSlice 25 (.int .i64 n) (.int .i64 n)).run Tryz.prog w = .ok (.slice (some ⟨w.heap.size, 0, none⟩) n n) w1 ∧ Ir w1 w.heap.size n (fun _ => 0) ∧ Kept No w w1 := by
  obtain ⟨i0, hi, hz0, hz1, hz2⟩ := info_parts Tryz.infoI3q
  have hr := run_make (P := Tryz.prog) w 25 3 i0 _ Tryz.underlying25 hi hz0 .i64 .i64 n n (by omega) (Int.le_refl _) (by rw [hz2]; omega) (by omega)
  simp only [Int.toNat_natCast] at hr
  rw [hz1] at hr
  have hb := World.alloc_heap_new w (.cells (madeCells (Value.int .i64 0).cells (n * 1)) 3)
  have e : ∀ i, i < n * 1 → (madeCells (Value.int .i64 0).cells (n * 1))[i]? = some (.int .i64 0) := fun i hi => by
    unfold madeCells
    rw [Array.getElem?_map, Array.getElem?_range, if_pos hi]
    show some (#[Value.int .i64 0][i % 1]!) = _
    rw [Nat.mod_one]
    rfl
  have cell : ∀ i, i < n * 1 → (w.alloc (.cells (madeCells (Value.int .i64 0).cells (n * 1)) 3)).cell? ⟨w.heap.size, i, none⟩ = some (.int .i64 0) := fun i hi => by
    simp only [World.cell?]
    rw [hb]
    simpa using e i hi
  refine ⟨_, hr, ⟨fun i hi => cell i (by omega), fun i => ?_, heap_lt hb⟩, (Kept.refl No w).alloc _⟩
  simp only [World.frozen?]
  rw [hb]
  rfl

theorem cell_one (w : World) (v : Value) (t : TypeId) : ∀ j u, [v][j]? = some u → (w.alloc (.cells #[v] t)).cell? (Addr.add ⟨w.heap.size, 0, none⟩ j) = some u := by
  intro j u hj
  match j, hj with
  | 0, hj => simp at hj; subst hj; simp [Addr.add]
  | j + 1, hj => simp at hj
theorem cellsS {w : World} {z : Nat} {v0 v1 v2 v3 : Value} {t : TypeId} (h : w.heap[z]? = some (.cells #[v0, v1, v2, v3] t)) : w.cell? ⟨z, 0, none⟩ = some v0 ∧ w.cell? ⟨z, 1, none⟩ = some v1 ∧ w.cell? ⟨z, 2, none⟩ = some v2 ∧ w.cell? ⟨z, 3, none⟩ = some v3 := by
  simp only [World.cell?, h]
  exact ⟨rfl, rfl, rfl, rfl⟩
theorem one_oneQ (k : IntKind) (x : Int) : ∀ u ∈ [Value.int k x], u.oneCell' = true := by
  intro u hu
  simp at hu
  subst hu
  rfl

set_option maxHeartbeats 8000000 in
theorem rplay_any {F : Nat → Prop} {a : Option Addr} {c : Nat} {xs : List Srv} (hv : Vd xs) (w : World) (h : Sv w F a xs.length c xs) (hF : ∀ k, F k → k < w.heap.size) (n : Nat) (hn : n ≤ 2097153) :
    Calls Tryz.prog 22 #[.slice a xs.length c, .int .i64 n] w fun e w' => ∃ v, e = .returned v ∧ Oi w' w.heap.size v (Rule.occ (sys xs)) n ∧ Kept No w w' := by
  obtain ⟨i0, hi, hz0, hz1, hz2⟩ := info_parts Tryz.infoI3q
  obtain ⟨w1, hmk, hir, hk1⟩ := rmake_ints w xs.length hv.num
  have HV : Hid (Vd xs) := hv
  have HS : Hid (Sv w F a xs.length c xs ∧ ∀ k, F k → k < w.heap.size) := ⟨h, hF⟩
  have H1 : Hid (Ir w1 w.heap.size xs.length (fun _ => 0) ∧ Kept No w w1) := ⟨hir, hk1⟩
  have hcap := h.cap
  have hmax := h.max
  have hn32 := hv.num
  clear h hF hir hk1 hv
  go_enter Tryz.func22, Tryz.ntmps22
  go_wp2
  have hlt1 := H1.out.1.lt
  go_loopw [6, 7, 8, 9, 10] (fun v y z8 z9 z10 wr => ∃ t : Nat, y = .int .i64 t ∧ t ≤ n ∧ Oi wr w1.heap.size v (Rule.occ (sys xs)) t ∧ Ir wr w.heap.size xs.length (aft (sys xs) t) ∧ Kept No w wr ∧ w1.heap.size ≤ wr.heap.size) (fun _ y _ _ _ _ => n - (intOf y).toNat)
  case atStart => exact ⟨0, rfl, Nat.zero_le _, ⟨rfl, .inl ⟨rfl, rfl⟩⟩, H1.out.1, H1.out.2, Nat.le_refl _⟩
  case round =>
    obtain ⟨t, rfl, htn, ho, hir, hk, hsz⟩ := hrel
    by_cases hlt : t < n
    · have hltz : (t : Int) < (n : Int) := by omega
      have HOW : Hid (∀ k, u6.ownBlock = some k → w1.heap.size ≤ k) := fun k e => (ho.lt k e).1
      have HLT : Hid (w.heap.size < w1.heap.size) := hlt1
      have HW0 : Hid (Oi wr w1.heap.size u6 (Rule.occ (sys xs)) t ∧ Ir wr w.heap.size xs.length (aft (sys xs) t) ∧ Kept No w wr ∧ w1.heap.size ≤ wr.heap.size) := ⟨ho, hir, hk, hsz⟩
      obtain ⟨zt, ezt⟩ : ∃ z : Int, (t : Int) = z := ⟨_, rfl⟩
      have t0 : 0 ≤ zt := by omega
      have t1 : zt < 2097153 := by omega
      have HZ : Hid ((t : Int) = zt) := ezt
      rw [ezt]
      have htz : zt < (n : Int) := by omega
      clear ho hir hk hsz hlt1 ezt hltz
      generalize wr = wo at *
      go_upto_block 2 with fail
      go_cut [8, 9] (fun z8 z9 wx => Oi wx w1.heap.size u6 (Rule.occ (sys xs)) t ∧ Ir wx w.heap.size xs.length (rlN (sys xs) t (aft (sys xs) t)) ∧ Kept No w wx ∧ w1.heap.size ≤ wx.heap.size)
      case first =>
        go_wp2_with fail
        go_loopw [8, 9] (fun z8 z9 wr => ∃ k : Nat, k ≤ xs.length ∧ z8 = .int .i64 k ∧ Oi wr w1.heap.size u6 (Rule.occ (sys xs)) t ∧ Ir wr w.heap.size xs.length (fun i => if i < k then rlN (sys xs) t (aft (sys xs) t) i else aft (sys xs) t i) ∧ Kept No w wr ∧ w1.heap.size ≤ wr.heap.size) (fun z8 _ _ => xs.length - (intOf z8).toNat)
        case atStart => exact ⟨0, Nat.zero_le _, rfl, HW0.out.1, HW0.out.2.1.ext (fun i hi => by simp), HW0.out.2.2⟩
        case round =>
          obtain ⟨k, hk, rfl, ho, hir, hkr, hsz⟩ := hrel
          have HW : Hid (Oi wr w1.heap.size u6 (Rule.occ (sys xs)) t ∧ Ir wr w.heap.size xs.length (fun i => if i < k then rlN (sys xs) t (aft (sys xs) t) i else aft (sys xs) t i) ∧ Kept No w wr ∧ w1.heap.size ≤ wr.heap.size) := ⟨ho, hir, hkr, hsz⟩
          clear ho hir hkr hsz
          by_cases hlk : k < xs.length
          · have hlkz : (k : Int) < (xs.length : Int) := by omega
            obtain ⟨hok, b, o, rfl, hb, e0, e1, e2, e3⟩ := (HS.out.1.keep HW.out.2.2.1).at' k _ (by rw [List.getElem?_eq_getElem hlk])
            have eg : xs[k] = gs xs k := by unfold gs; rw [List.getD_eq_getElem?_getD, List.getElem?_eq_getElem hlk]; rfl
            rw [eg] at e0 e1 e2 e3
            have hP := HV.out.per k hlk
            have hB := HV.out.bud k hlk
            have hO := HV.out.off k hlk
            have hPn : (gs xs k).p = ((sys xs).P k : Int) := by show (gs xs k).p = (((gs xs k).p.toNat : Nat) : Int); omega
            have hBn : (gs xs k).b = ((sys xs).B k : Int) := by show (gs xs k).b = (((gs xs k).b.toNat : Nat) : Int); omega
            have hOn : (gs xs k).o = ((sys xs).O k : Int) := by show (gs xs k).o = (((gs xs k).o.toNat : Nat) : Int); omega
            rw [hPn] at e0 hP
            rw [hBn] at e1 hB
            rw [hOn] at e2 hO
            rw [hPn] at hB hO
            have HRL : Hid (Rule.rel (sys xs) k t ↔ ((sys xs).O k ≤ t ∧ (t - (sys xs).O k) % (sys xs).P k = 0)) := Iff.rfl
            have HRN : Hid ((Rule.rel (sys xs) k t → rlN (sys xs) t (aft (sys xs) t) k = (sys xs).B k) ∧ (¬ Rule.rel (sys xs) k t → rlN (sys xs) t (aft (sys xs) t) k = aft (sys xs) t k)) := ⟨fun h => if_pos h, fun h => if_neg h⟩
            clear eg hPn hBn hOn hok
            generalize (gs xs k).q = Qk at *
            generalize (sys xs).P k = Pk at *
            generalize (sys xs).B k = Bk at *
            generalize (sys xs).O k = Ok at *
            have ka : Kept No wr (wr.alloc (.cells #[.int .i64 Pk, .int .i64 Bk, .int .i64 Ok, .int .i64 Qk] 40)) := (Kept.refl No wr).alloc _
            obtain ⟨d0, d1, d2, d3⟩ := cellsS (World.alloc_heap_new wr (.cells #[.int .i64 Pk, .int .i64 Bk, .int .i64 Ok, .int .i64 Qk] 40))
            have HNX : Hid (∀ W, Ir W w.heap.size xs.length (fun i => if i = k then rlN (sys xs) t (aft (sys xs) t) k else (if i < k then rlN (sys xs) t (aft (sys xs) t) i else aft (sys xs) t i)) → Ir W w.heap.size xs.length (fun i => if i < k + 1 then rlN (sys xs) t (aft (sys xs) t) i else aft (sys xs) t i)) := fun W h => h.ext (fun i hi => by
              by_cases e1 : i = k
              · rw [if_pos e1, if_pos (by omega), e1]
              · rw [if_neg e1]
                by_cases e2 : i < k
                · rw [if_pos e2, if_pos (by omega)]
                · rw [if_neg e2, if_neg (by omega)])
            have HA : Hid (Oi (wr.alloc (.cells #[.int .i64 Pk, .int .i64 Bk, .int .i64 Ok, .int .i64 Qk] 40)) w1.heap.size u6 (Rule.occ (sys xs)) t ∧ Ir (wr.alloc (.cells #[.int .i64 Pk, .int .i64 Bk, .int .i64 Ok, .int .i64 Qk] 40)) w.heap.size xs.length (fun i => if i < k then rlN (sys xs) t (aft (sys xs) t) i else aft (sys xs) t i) ∧ Kept No w (wr.alloc (.cells #[.int .i64 Pk, .int .i64 Bk, .int .i64 Ok, .int .i64 Qk] 40)) ∧ w1.heap.size ≤ (wr.alloc (.cells #[.int .i64 Pk, .int .i64 Bk, .int .i64 Ok, .int .i64 Qk] 40)).heap.size) := ⟨ka.owns HW.out.1 (fun _ _ h => h), HW.out.2.1.kept ka (fun h => h), HW.out.2.2.1.trans ka (fun _ h => h.elim), Nat.le_trans HW.out.2.2.2 ka.size⟩
            have ck := HA.out.2.1.at' k hlk
            have cf := HA.out.2.1.fz k
            have HNS : Hid (¬ Rule.rel (sys xs) k t → Ir (wr.alloc (.cells #[.int .i64 Pk, .int .i64 Bk, .int .i64 Ok, .int .i64 Qk] 40)) w.heap.size xs.length (fun i => if i < k + 1 then rlN (sys xs) t (aft (sys xs) t) i else aft (sys xs) t i)) := fun hn => HNX.out _ (HA.out.2.1.ext (fun i hi => by
                by_cases e1 : i = k
                · rw [if_pos e1, e1, if_neg (by omega), HRN.out.2 hn]
                · rw [if_neg e1]))
            have HYS : Hid (Rule.rel (sys xs) k t → Oi ((wr.alloc (.cells #[.int .i64 Pk, .int .i64 Bk, .int .i64 Ok, .int .i64 Qk] 40)).setCell ⟨w.heap.size, k, none⟩ (.int .i64 Bk)) w1.heap.size u6 (Rule.occ (sys xs)) t ∧ Ir ((wr.alloc (.cells #[.int .i64 Pk, .int .i64 Bk, .int .i64 Ok, .int .i64 Qk] 40)).setCell ⟨w.heap.size, k, none⟩ (.int .i64 Bk)) w.heap.size xs.length (fun i => if i < k + 1 then rlN (sys xs) t (aft (sys xs) t) i else aft (sys xs) t i) ∧ Kept No w ((wr.alloc (.cells #[.int .i64 Pk, .int .i64 Bk, .int .i64 Ok, .int .i64 Qk] 40)).setCell ⟨w.heap.size, k, none⟩ (.int .i64 Bk)) ∧ w1.heap.size ≤ ((wr.alloc (.cells #[.int .i64 Pk, .int .i64 Bk, .int .i64 Ok, .int .i64 Qk] 40)).setCell ⟨w.heap.size, k, none⟩ (.int .i64 Bk)).heap.size) := fun hn => by
              have ks : Kept (fun j => j = w.heap.size) (wr.alloc (.cells #[.int .i64 Pk, .int .i64 Bk, .int .i64 Ok, .int .i64 Qk] 40)) ((wr.alloc (.cells #[.int .i64 Pk, .int .i64 Bk, .int .i64 Ok, .int .i64 Qk] 40)).setCell ⟨w.heap.size, k, none⟩ (.int .i64 Bk)) := Kept.setCell (F := fun j => j = w.heap.size) (p := ⟨w.heap.size, k, none⟩) (Kept.refl _ _) (.inl rfl) _
              refine ⟨ks.owns HA.out.1 (fun j e e' => by have := HOW.out j e; have := HLT.out; omega), HNX.out _ ((HA.out.2.1.set k Bk).ext (fun i hi => by
                by_cases e1 : i = k
                · rw [if_pos e1, if_pos e1, HRN.out.1 hn]
                · rw [if_neg e1, if_neg e1])), HA.out.2.2.1.trans ks (fun j e => .inr (by omega)), Nat.le_trans HA.out.2.2.2 ks.size⟩
            have hPz : ¬ (Pk : Int) = 0 := by omega
            obtain ⟨zO, ezO⟩ : ∃ z : Int, (Ok : Int) = z := ⟨_, rfl⟩
            obtain ⟨zP, ezP⟩ : ∃ z : Int, (Pk : Int) = z := ⟨_, rfl⟩
            have HZ2 : Hid ((Ok : Int) = zO ∧ (Pk : Int) = zP) := ⟨ezO, ezP⟩
            rw [ezP] at e0 hP hPz hO d0 HA HNS HYS d1 d2 d3 ck cf
            rw [ezO] at e2 hO d2 d0 d1 d3 HA HNS HYS ck cf
            obtain ⟨hP1, hP2⟩ := hP
            obtain ⟨hO1, hO2⟩ := hO
            clear ezO ezP ka HNX HW
            by_cases hOt : zO ≤ zt
            · have q1 : decide (zO ≤ zt) = true := decide_eq_true hOt
              obtain ⟨zm, hzm⟩ : ∃ z : Int, (((t - Ok) % Pk : Nat) : Int) = z := ⟨_, rfl⟩
              have em1 : (zt - zO) % zP = zm := by
                rw [← hzm, ← HZ.out, ← HZ2.out.1, ← HZ2.out.2, show (t : Int) - (Ok : Int) = ((t - Ok : Nat) : Int) by have := HZ.out; have := HZ2.out.1; omega]
                rfl
              have em2 : Int.tmod (zt - zO) zP = zm := by rw [Int.tmod_eq_emod_of_nonneg (by omega)]; exact em1
              by_cases hm : zm = 0
              · have q2 : (zm == 0) = true := by rw [hm]; rfl
                have hrel : Rule.rel (sys xs) k t := HRL.out.2 ⟨by have := HZ.out; have := HZ2.out.1; omega, by omega⟩
                have HY := HYS.out hrel
                have HYY : Hid (Oi ((wr.alloc (.cells #[.int .i64 zP, .int .i64 Bk, .int .i64 zO, .int .i64 Qk] 40)).setCell ⟨w.heap.size, k, none⟩ (.int .i64 Bk)) w1.heap.size u6 (Rule.occ (sys xs)) t ∧ Ir ((wr.alloc (.cells #[.int .i64 zP, .int .i64 Bk, .int .i64 zO, .int .i64 Qk] 40)).setCell ⟨w.heap.size, k, none⟩ (.int .i64 Bk)) w.heap.size xs.length (fun i => if i < k + 1 then rlN (sys xs) t (aft (sys xs) t) i else aft (sys xs) t i) ∧ Kept No w ((wr.alloc (.cells #[.int .i64 zP, .int .i64 Bk, .int .i64 zO, .int .i64 Qk] 40)).setCell ⟨w.heap.size, k, none⟩ (.int .i64 Bk)) ∧ w1.heap.size ≤ ((wr.alloc (.cells #[.int .i64 zP, .int .i64 Bk, .int .i64 zO, .int .i64 Qk] 40)).setCell ⟨w.heap.size, k, none⟩ (.int .i64 Bk)).heap.size) := HY
                clear HY hrel hzm HYS HNS HA
                subst hm
                go_wp2
                go_roundw
                case rel => exact ⟨k + 1, by omega, by go_num, HYY.out⟩
                case measure => simp [intOf]; omega
              · have q2 : (zm == 0) = false := beq_eq_false_iff_ne.2 hm
                have HN : Hid (Ir (wr.alloc (.cells #[.int .i64 zP, .int .i64 Bk, .int .i64 zO, .int .i64 Qk] 40)) w.heap.size xs.length (fun i => if i < k + 1 then rlN (sys xs) t (aft (sys xs) t) i else aft (sys xs) t i)) := HNS.out (fun e => by have := (HRL.out.1 e).2; omega)
                clear hzm HYS HNS hm
                go_wp2
                go_roundw
                case rel => exact ⟨k + 1, by omega, by go_num, HA.out.1, HN.out, HA.out.2.2⟩
                case measure => simp [intOf]; omega
            · have q1 : decide (zO ≤ zt) = false := decide_eq_false hOt
              have HN : Hid (Ir (wr.alloc (.cells #[.int .i64 zP, .int .i64 Bk, .int .i64 zO, .int .i64 Qk] 40)) w.heap.size xs.length (fun i => if i < k + 1 then rlN (sys xs) t (aft (sys xs) t) i else aft (sys xs) t i)) := HNS.out (fun e => by have := (HRL.out.1 e).1; have := HZ.out; have := HZ2.out.1; omega)
              clear HYS HNS
              go_wp2
              go_roundw
              case rel => exact ⟨k + 1, by omega, by go_num, HA.out.1, HN.out, HA.out.2.2⟩
              case measure => simp [intOf]; omega
          · have hlkz : ¬ (k : Int) < (xs.length : Int) := by omega
            have HF : Hid (Ir wr w.heap.size xs.length (rlN (sys xs) t (aft (sys xs) t))) := HW.out.2.1.ext (fun i hi => if_pos (by omega))
            clear hk
            go_wp2
            go_meet
            exact ⟨HW.out.1, HF.out, HW.out.2.2⟩
      case rest =>
        rename World => w2
        obtain ⟨ho2, hr2, hk2, hs2⟩ := hcut
        have H2 : Hid (Ir w2 w.heap.size xs.length (rlN (sys xs) t (aft (sys xs) t)) ∧ Kept No w w2 ∧ Oi w2 w1.heap.size u6 (Rule.occ (sys xs)) t ∧ w1.heap.size ≤ w2.heap.size) := ⟨hr2, hk2, ho2, hs2⟩
        clear ho2 hr2 hk2 hs2 HW0
        have fs := first13_any HV.out w2 (HS.out.1.keep H2.out.2.1) H2.out.1
        rw [aft_occ] at fs
        obtain ⟨OO, eOO⟩ : ∃ q, Rule.occ (sys xs) t = q := ⟨_, rfl⟩
        rw [eOO] at fs
        have HOO : Hid (Rule.occ (sys xs) t = OO) := eOO
        have hol := Rule.occ_le (sys xs) t
        have ene : (sys xs).n = xs.length := rfl
        go_upto_region 13 with (go_at_call 34; refine fs.mono ?_; rintro e w3 ⟨rfl, hk3⟩; have H3 : Hid (Ir w3 w.heap.size xs.length (rlN (sys xs) t (aft (sys xs) t)) ∧ Kept No w w3 ∧ Oi w3 w1.heap.size u6 (Rule.occ (sys xs)) t ∧ w1.heap.size ≤ w3.heap.size) := ⟨H2.out.1.kept hk3 (fun h => h), H2.out.2.1.trans hk3 (fun _ h => h.elim), hk3.owns H2.out.2.2.1 (fun _ _ h => h), Nat.le_trans H2.out.2.2.2 hk3.size⟩; clear hk3 fs)
        by_cases ho0 : OO = 0
        · have q0 : ¬ (0 : Int) < ((OO : Nat) : Int) := by omega
          have HX : Hid (Ir w3 w.heap.size xs.length (aft (sys xs) (t + 1)) ∧ Kept No w w3 ∧ Oi w3 w1.heap.size u6 (Rule.occ (sys xs)) t ∧ w1.heap.size ≤ w3.heap.size) := ⟨H3.out.1.ext (fun i hi => by
            rw [aft_rel]
            show _ = Rule.rest (sys xs) t i - (if Rule.occ (sys xs) t = i + 1 then 1 else 0)
            rw [eOO, ho0, if_neg (by omega), Nat.sub_zero]), H3.out.2⟩
          clear eOO ho0 hol ene
          go_wp2_with (at_builtin; refine wpList_append_own_at _ rfl _ _ 25 rfl w1.heap.size 3 i0 (.int .i64 0) 1 8 Tryz.underlying25 hi hz0 hz1 hz2 rfl (by decide) _ _ _ rfl (HX.out.2.2.1.alloc _) ⟨w3.heap.size, 0, none⟩ 1 1 [.int .i64 (OO : Nat)] rfl rfl (cell_one w3 _ _) (one_one _ _) (by unfold maxLen; omega) (by omega) (by have := HX.out.2.2.2; simp; omega) ?_; intro v9 w10 own10 grow10 _ at10)
          have HN : Hid (Oi w10 w1.heap.size v9 (Rule.occ (sys xs)) (t + 1) ∧ Ir w10 w.heap.size xs.length (aft (sys xs) (t + 1)) ∧ Kept No w w10 ∧ w1.heap.size ≤ w10.heap.size) := by
            have hb : ∀ k, u6.ownBlock = some k → w1.heap.size ≤ k := HOW.out
            have kg : Kept (fun k => u6.ownBlock = some k) w3 w10 := ((Kept.refl _ w3).alloc _).grown grow10 (fun k e => .inl e)
            refine ⟨?_, HX.out.1.kept kg (fun e => by have := hb _ e; have := HLT.out; omega), HX.out.2.1.trans kg (fun k e => .inr (by have := hb _ e; have := HLT.out; omega)), Nat.le_trans HX.out.2.2.2 kg.size⟩
            unfold Oi
            rw [ocL_succ, HOO.out]
            exact own10
          clear own10 grow10 at10
          go_wp2
          go_roundw
          case rel => exact ⟨t + 1, by rw [← HZ.out]; go_num, by omega, HN.out⟩
          case measure => simp [intOf]; have := HZ.out; omega
        · obtain ⟨p, hp⟩ : ∃ p, OO = p + 1 := ⟨OO - 1, by omega⟩
          have hpx : p < xs.length := by omega
          have hpz : (p : Int) < (xs.length : Int) := by omega
          have q0 : (0 : Int) < ((OO : Nat) : Int) := by omega
          have q1 : ((OO : Nat) : Int) - 1 = (p : Int) := by omega
          have c1 := H3.out.1.at' p hpx
          have cf := H3.out.1.fz p
          have hpos : 0 < Rule.rest (sys xs) t p := by
            have := (Rule.pick_pos (sys xs) (Rule.rest (sys xs) t) (sys xs).n (by show Rule.occ (sys xs) t ≠ 0; omega)).1
            have e : Rule.pick (sys xs) (Rule.rest (sys xs) t) (sys xs).n = Rule.occ (sys xs) t := rfl
            rw [e, eOO, hp] at this
            exact this
          rw [aft_rel] at c1
          have HX : Hid (Ir (w3.setCell ⟨w.heap.size, p, none⟩ (.int .i64 ((Rule.rest (sys xs) t p : Nat) - 1 : Int))) w.heap.size xs.length (aft (sys xs) (t + 1)) ∧ Kept No w (w3.setCell ⟨w.heap.size, p, none⟩ (.int .i64 ((Rule.rest (sys xs) t p : Nat) - 1 : Int))) ∧ Oi (w3.setCell ⟨w.heap.size, p, none⟩ (.int .i64 ((Rule.rest (sys xs) t p : Nat) - 1 : Int))) w1.heap.size u6 (Rule.occ (sys xs)) t ∧ w1.heap.size ≤ (w3.setCell ⟨w.heap.size, p, none⟩ (.int .i64 ((Rule.rest (sys xs) t p : Nat) - 1 : Int))).heap.size) := by
            have ks : Kept (fun k => k = w.heap.size) w3 (w3.setCell ⟨w.heap.size, p, none⟩ (.int .i64 ((Rule.rest (sys xs) t p : Nat) - 1 : Int))) := Kept.setCell (F := fun k => k = w.heap.size) (p := ⟨w.heap.size, p, none⟩) (Kept.refl _ w3) (.inl rfl) _
            refine ⟨?_, H3.out.2.1.trans ks (fun k e => .inr (by omega)), ks.owns H3.out.2.2.1 (fun k e e' => by have := HOW.out k e; have := HLT.out; omega), Nat.le_trans H3.out.2.2.2 ks.size⟩
            have st := H3.out.1.set p (Rule.rest (sys xs) t p - 1)
            rw [show ((Rule.rest (sys xs) t p - 1 : Nat) : Int) = ((Rule.rest (sys xs) t p : Nat) : Int) - 1 by omega] at st
            refine st.ext (fun i hi => ?_)
            show _ = Rule.rest (sys xs) t i - (if Rule.occ (sys xs) t = i + 1 then 1 else 0)
            rw [eOO, hp]
            by_cases ei : i = p
            · rw [if_pos ei, if_pos (by omega), ei]
            · rw [if_neg ei, if_neg (by omega), aft_rel, Nat.sub_zero]
          have hb1 := HV.out.bud p hpx
          have hb2 := HV.out.per p hpx
          have hle := Rule.rest_le (sys xs) t p
          have eB : (sys xs).B p = (gs xs p).b.toNat := rfl
          obtain ⟨zr, ezr⟩ : ∃ z : Int, ((Rule.rest (sys xs) t p : Nat) : Int) = z := ⟨_, rfl⟩
          have r1 : 1 ≤ zr := by omega
          have r2 : zr ≤ 1048576 := by omega
          rw [ezr] at c1 HX
          have HP2 : Hid (OO = p + 1) := hp
          have o1 : ((OO : Nat) : Int) ≤ 33 := by omega
          clear eOO ho0 hol ene hpos hb1 hb2 hle eB ezr hp
          go_upto_region 15 with fail
          clear c1 cf
          generalize w3.setCell ⟨w.heap.size, p, none⟩ (.int .i64 (zr - 1)) = w4 at *
          go_wp2_with (at_builtin; refine wpList_append_own_at _ rfl _ _ 25 rfl w1.heap.size 3 i0 (.int .i64 0) 1 8 Tryz.underlying25 hi hz0 hz1 hz2 rfl (by decide) _ _ _ rfl (HX.out.2.2.1.alloc _) ⟨w4.heap.size, 0, none⟩ 1 1 [.int .i64 (OO : Nat)] rfl rfl (cell_one w4 _ _) (one_one _ _) (by unfold maxLen; omega) (by omega) (by have := HX.out.2.2.2; simp; omega) ?_; intro v9 w10 own10 grow10 _ at10)
          have HN : Hid (Oi w10 w1.heap.size v9 (Rule.occ (sys xs)) (t + 1) ∧ Ir w10 w.heap.size xs.length (aft (sys xs) (t + 1)) ∧ Kept No w w10 ∧ w1.heap.size ≤ w10.heap.size) := by
            have hb : ∀ k, u6.ownBlock = some k → w1.heap.size ≤ k := HOW.out
            have kg : Kept (fun k => u6.ownBlock = some k) w4 w10 := ((Kept.refl _ w4).alloc _).grown grow10 (fun k e => .inl e)
            refine ⟨?_, HX.out.1.kept kg (fun e => by have := hb _ e; have := HLT.out; omega), HX.out.2.1.trans kg (fun k e => .inr (by have := hb _ e; have := HLT.out; omega)), Nat.le_trans HX.out.2.2.2 kg.size⟩
            unfold Oi
            rw [ocL_succ, HOO.out]
            exact own10
          clear own10 grow10 at10
          go_wp2
          go_roundw
          case rel => exact ⟨t + 1, by rw [← HZ.out]; go_num, by omega, HN.out⟩
          case measure => simp [intOf]; have := HZ.out; omega
    · obtain rfl : t = n := by omega
      have hltz : ¬ ((t : Nat) : Int) < (t : Int) := by omega
      have HW : Hid (Oi wr w1.heap.size u6 (Rule.occ (sys xs)) t ∧ Kept No w wr) := ⟨ho, hk⟩
      clear ho hir hk htn
      go_wp2
      go_ret
      refine ⟨_, rfl, ?_, HW.out.2⟩
      have := HW.out.1
      refine ⟨this.1, ?_⟩
      rcases this.2 with h1 | ⟨g, cap, cur, hv, hb', r⟩
      · exact .inl h1
      · exact .inr ⟨g, cap, cur, hv, by omega, r⟩
end Go.Proofs.YtibmgpinfdcaoaaGreatDoor
