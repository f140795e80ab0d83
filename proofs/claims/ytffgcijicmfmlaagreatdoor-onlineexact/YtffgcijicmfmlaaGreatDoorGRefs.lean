/-
  One text: DRef2, DRef3, DRef4.
-/
import Derived.Test.YtffgcijicmfmlaaGreatDoorGMid
import Derived.Test.YtffgcijicmfmlaaGreatDoorGTri
import Derived.Test.YtffgcijicmfmlaaGreatDoorGCRef
import Derived.Deep.RegionWith
namespace Go.Proofs.YtffgcijicmfmlaaGreatDoor
open Go.RowKit Plain
set_option linter.unusedVariables false
set_option maxRecDepth 100000

theorem own_base {w : World} {base base' size n : Nat} {e : TypeId} {v : Value} {xs : List Value} (h : w.ownsRow base e size v n xs) (hb' : base' ≤ base) : w.ownsRow base' e size v n xs := by
  obtain ⟨h0, h1 | ⟨g, cap, cur, rfl, hb, hg, hn, hm, h5, h6⟩⟩ := h
  · exact ⟨h0, .inl h1⟩
  · exact ⟨h0, .inr ⟨g, cap, cur, rfl, Nat.le_trans hb' hb, hg, hn, hm, h5, h6⟩⟩
theorem Ri.nil (w : World) (B : Nat) (f : Nat → Int) : Ri w B (.slice none 0 0) 0 f := ⟨rfl, .inl ⟨rfl, rfl⟩⟩
theorem Ri.rd {w : World} {B n : Nat} {v : Value} {f : Nat → Int} (h : Ri w B v n f) : Rd0 w v n f := by
  rcases h.ct with h | ⟨g, c, h1, h2, h3, h4, h5⟩
  · exact .inl h
  · exact .inr ⟨g, c, h1, h3, h4, h5⟩
theorem Ri.over {w w' : World} {G : Nat → Prop} {B n : Nat} {v : Value} {f : Nat → Int} (h : Ri w B v n f) (hk : Kept G w w') (hG : ∀ g, v.ownBlock = some g → ¬ G g) : Ri w' B v n f := own_over h hk hG
theorem Ri.keep {w w' : World} {B n : Nat} {v : Value} {f : Nat → Int} (h : Ri w B v n f) (hk : Kept No w w') : Ri w' B v n f := h.over hk (fun _ _ h => h)
theorem Ri.like {w : World} {B n : Nat} {v : Value} {f f' : Nat → Int} (h : Ri w B v n f) (he : ∀ i, i < n → f i = f' i) : Ri w B v n f' := by
  unfold Ri at h ⊢
  rw [show ((List.range n).map fun i => Value.int .i64 (f' i)) = ((List.range n).map fun i => Value.int .i64 (f i)) from List.map_congr_left (fun i hi => by rw [he i (List.mem_range.1 hi)])]
  exact h
theorem set_range (n k : Nat) (f : Nat → Int) (x : Int) : ((List.range n).map fun i => Value.int .i64 (f i)).set k (.int .i64 x) = (List.range n).map fun i => Value.int .i64 (if i = k then x else f i) := by
  apply List.ext_getElem?
  intro i
  rw [List.getElem?_set]
  by_cases hi : i < n
  · simp only [List.length_map, List.length_range, List.getElem?_map, List.getElem?_range hi, Option.map_some]
    by_cases e : k = i
    · subst e
      simp [hi]
    · rw [if_neg e, if_neg (fun h => e h.symm)]
  · have h1 : ((List.range n).map fun i => Value.int .i64 (f i))[i]? = none := List.getElem?_eq_none (by simp; omega)
    have h2 : ((List.range n).map fun i => Value.int .i64 (if i = k then x else f i))[i]? = none := List.getElem?_eq_none (by simp; omega)
    rw [h1, h2]
    split
    · split
      · rename_i h; simp at h; omega
      · rfl
    · rfl
theorem Ri.set {w : World} {B n g c : Nat} {f : Nat → Int} (h : Ri w B (.slice (some ⟨g, 0, none⟩) n c) n f) (k : Nat) (x : Int) : Ri (w.setCell ⟨g, k, none⟩ (.int .i64 x)) B (.slice (some ⟨g, 0, none⟩) n c) n (fun i => if i = k then x else f i) ∧ w.grownBy (w.setCell ⟨g, k, none⟩ (.int .i64 x)) (some g) := by
  have := World.ownsRow.stored h k (.int .i64 x)
  rw [set_range] at this
  exact this
/-- 'append([]int{}, list...)' -/
theorem wpList_cpi {w : World} {ops : Array Oper} {rest : List Oper} {o : Oper} {a : Act} {Q : Exit → Act → World → Prop} (hgd : o.guard = none) (s x : Operand)
    (ho : o.op = .call { callee := .builtin .append, args := #[s, x], argTypes := #[23, 23] }) (B : Nat) (v : Value) (hs : a.eval s = v) (hv : w.ownsRow B 3 1 v 0 []) (hB : B ≤ w.heap.size) (vx : Value) (hx : a.eval x = vx) (n : Nat) (r : Nat → Int) (hz : Rd0 w vx n r) (hn : n ≤ 32)
    (h : ∀ v1 w', Hid (Ri w' B v1 n r) → Hid (Kept (fun k => v.ownBlock = some k) w w') → wpList Tryz.prog ops Q rest (a.put o.dst v1) w') : wpList Tryz.prog ops Q (o :: rest) a w := by
  obtain ⟨i0, hi, hz0, hz1, hz2⟩ := info_parts Tryz.infoI3
  rcases hz with ⟨rfl, rfl⟩ | ⟨g, c, rfl, h1, h2, hc⟩
  · refine wpList_append_own_none hgd s x 23 ho B 3 i0 1 Tryz.underlying23 hi _ _ _ hs hv hx ?_
    exact h v w hv (Kept.refl _ _)
  · refine wpList_append_own _ hgd s x 23 ho B 3 i0 (.int .i64 0) 1 8 Tryz.underlying23 hi hz0 hz1 hz2 rfl (by decide) _ 0 [] hs hv ⟨g, 0, none⟩ n c ((List.range n).map fun i => .int .i64 (r i)) hx (by simp) (fun j u hj => ?_) (fun u hu => ?_) (by unfold maxLen; omega) (by omega) hB ?_
    · have hl : j < n := by have := (List.getElem?_eq_some_iff.1 hj).1; simpa using this
      rw [List.getElem?_map, List.getElem?_range hl] at hj
      simp at hj
      subst hj
      rw [add_none, Nat.zero_add]
      exact hc.at' j hl
    · rw [List.mem_map] at hu
      obtain ⟨i, _, rfl⟩ := hu
      rfl
    · intro v1 w1 own1 grow1 _
      rw [Nat.zero_add, List.nil_append] at own1
      exact h v1 w1 own1 ((Kept.refl (fun k => v.ownBlock = some k) w).grown grow1 (fun k e => .inl e))

theorem rest0 (s : Rule.Sys) (i : Nat) : rlF s 0 (fun _ => 0) i = (Rule.rest s 0 i : Int) := by
  show (if Rule.rel s i 0 then (s.B i : Int) else 0) = ((if Rule.rel s i 0 then s.B i else 0 : Nat) : Int)
  split <;> rfl
theorem rbegin_any {F : Nat → Prop} {a : Option Addr} {c : Nat} {xs : List Srv} (hv : Vd xs) (w : World) (h : Sv w F a xs.length c xs) :
    Calls Tryz.prog 35 #[.slice a xs.length c] w fun e w' => ∃ v', e = .returned v' ∧ Ri w' w.heap.size v' xs.length (fun i => (Rule.rest (sys xs) 0 i : Int)) ∧ Kept No w w' := by
  have hn := hv.num
  have hcap := h.cap
  have hmax := h.max
  have mk := mkI_run xs.length hn
  obtain ⟨m1, m2, m3⟩ := mkI_ct xs.length hn w
  have rl := relR_any hv (mkI xs.length w) (h.keep m2) (v := .slice (some ⟨w.heap.size, 0, none⟩) xs.length xs.length) (.inr ⟨_, _, rfl, Nat.le_refl _, by omega, m1⟩) 0 (by omega)
  have HM : Hid (Kept No w (mkI xs.length w) ∧ (mkI xs.length w).heap.size = w.heap.size + 1) := ⟨m2, m3⟩
  clear h m1 m2 m3
  go_enter Tryz.func35, Tryz.ntmps35
  go_wp2_with (go_at_call 49; refine rl.mono ?_; rintro e w2 ⟨v', rfl, h2, hk2⟩; have H2 : Hid (Ri w2 w.heap.size v' xs.length (fun i => (Rule.rest (sys xs) 0 i : Int)) ∧ Kept No w w2) := ⟨own_base (Ri.like h2 (fun i _ => rest0 _ i)) (by have := HM.out.2; omega), HM.out.1.trans hk2 (fun _ h => h.elim)⟩; clear h2 hk2 rl)
  go_ret
  exact ⟨v', rfl, H2.out⟩
/-- between two ticks -/
def f0 (s : Rule.Sys) (t i : Nat) : Int := (Rule.rest s t i : Int) - (if Rule.occ s t = i + 1 then 1 else 0)

set_option maxHeartbeats 8000000 in
theorem led_any {F : Nat → Prop} {a : Option Addr} {c : Nat} {xs : List Srv} {v : Value} (hv : Vd xs) (w : World) (h : Sv w F a xs.length c xs) (at' tb : Nat) (hat : at' ≤ tb) (hto : tb ≤ 1099511627776) (hr : Rd0 w v xs.length (fun i => (Rule.rest (sys xs) at' i : Int))) :
    Calls Tryz.prog 39 #[.slice a xs.length c, v, .int .i64 at', .int .i64 tb] w fun e w' => ∃ v', e = .returned v' ∧ Ri w' w.heap.size v' xs.length (fun i => (Rule.rest (sys xs) tb i : Int)) ∧ Kept No w w' := by
  have hn := hv.num
  have HV : Hid (Vd xs) := hv
  have HS : Hid (Sv w F a xs.length c xs) := h
  have HR : Hid (Rd0 w v xs.length (fun i => (Rule.rest (sys xs) at' i : Int))) := hr
  have hcap := h.cap
  have hmax := h.max
  obtain ⟨va, vn, vc, hvv⟩ : ∃ va vn vc, v = .slice va vn vc := by
    rcases hr with ⟨h1, _⟩ | ⟨g, c, h1, _⟩
    · exact ⟨_, _, _, h1⟩
    · exact ⟨_, _, _, h1⟩
  subst hvv
  clear h hr hv
  go_enter Tryz.func39, Tryz.ntmps39
  go_upto_region 2 with (at_builtin; refine wpList_cpi rfl _ _ rfl w.heap.size _ rfl (made0i w) (by simp) _ rfl xs.length _ (HR.out.keep ((Kept.refl No w).alloc _)) (by omega) ?_; intro v1 w2 RI2 KW2)
  have HK2 : Hid (Kept No w w2) := ((Kept.refl No w).alloc _).trans KW2.out (fun k e => .inr (own0 e))
  obtain ⟨b1, c1, hv1⟩ : ∃ b1 c1, v1 = .slice b1 xs.length c1 := by
    rcases RI2.out.ct with ⟨h1, h0⟩ | ⟨g, c, h1, _⟩
    · exact ⟨none, 0, by rw [h1, h0]⟩
    · exact ⟨_, _, h1⟩
  subst hv1
  clear KW2
  go_wp2
  go_loopw [10] (fun x wr => ∃ t : Nat, at' ≤ t ∧ t ≤ tb ∧ x = .int .i64 t ∧ Ri wr w.heap.size (.slice b1 xs.length c1) xs.length (fun i => (Rule.rest (sys xs) t i : Int)) ∧ Kept No w wr) (fun x _ => tb - (intOf x).toNat)
  case atStart => exact ⟨at', Nat.le_refl _, hat, rfl, RI2.out, HK2.out⟩
  case round =>
    obtain ⟨t, ht1, ht2, rfl, hri, hkr⟩ := hrel
    have HQ : Hid (Ri wr w.heap.size (.slice b1 xs.length c1) xs.length (fun i => (Rule.rest (sys xs) t i : Int)) ∧ Kept No w wr) := ⟨hri, hkr⟩
    clear hri hkr RI2 HK2
    by_cases hlt0 : t < tb
    · have ch := chosen_any wr (HS.out.keep HQ.out.2) hn HQ.out.1.rd (fun i hi => by
        have h1 := Rule.rest_le (sys xs) t i
        have h2 := HV.out.bud i hi
        have h3 := HV.out.per i hi
        have h4 : (sys xs).B i = (gs xs i).b.toNat := rfl
        omega)
      obtain ⟨O, hO⟩ : ∃ O, Rule.occ (sys xs) t = O := ⟨_, rfl⟩
      have hO' : Rule.pick (sys xs) (Rule.rest (sys xs) t) xs.length = O := hO
      rw [hO'] at ch
      have hOl : O ≤ xs.length := by rw [← hO]; exact Rule.occ_le (sys xs) t
      have HO : Hid (Rule.occ (sys xs) t = O) := hO
      clear hO hO'
      go_upto_region 6 with (go_at_call 50; refine ch.mono ?_; rintro e w4 ⟨rfl, hk4⟩; have H4 : Hid (Ri w4 w.heap.size (.slice b1 xs.length c1) xs.length (fun i => (Rule.rest (sys xs) t i : Int)) ∧ Kept No w w4) := ⟨HQ.out.1.keep hk4, HQ.out.2.trans hk4 (fun _ h => h.elim)⟩; clear hk4 ch HQ)
      by_cases hO0 : O = 0
      · subst hO0
        have HF : Hid (Ri w4 w.heap.size (.slice b1 xs.length c1) xs.length (f0 (sys xs) t) ∧ Kept No w w4) := ⟨H4.out.1.like (fun i _ => by unfold f0; rw [HO.out, if_neg (by omega)]; omega), H4.out.2⟩
        clear H4 HO hOl
        go_wp2
        go_loopw [12] (fun x w3 => ∃ k : Nat, k ≤ xs.length ∧ x = .int .i64 k ∧ Ri w3 w.heap.size (.slice b1 xs.length c1) xs.length (fun i => if i < k then (Rule.rest (sys xs) (t + 1) i : Int) else f0 (sys xs) t i) ∧ Kept No w w3) (fun x _ => xs.length - (intOf x).toNat)
        case atStart => exact ⟨0, Nat.zero_le _, rfl, Ri.like HF.out.1 (fun i _ => by rw [if_neg (Nat.not_lt_zero _)]), HF.out.2⟩
        case round =>
          obtain ⟨k, hk, rfl, hri, hkr⟩ := hrel
          have H3 : Hid (Ri wr w.heap.size (.slice b1 xs.length c1) xs.length (fun i => if i < k then (Rule.rest (sys xs) (t + 1) i : Int) else f0 (sys xs) t i) ∧ Kept No w wr) := ⟨hri, hkr⟩
          clear hri hkr HF
          by_cases hlt : k < xs.length
          · obtain ⟨hok, b, o, rfl, hb, e0, e1, e2, e3⟩ := (HS.out.keep H3.out.2).gs4 hlt
            have hP := HV.out.per k hlt
            have hB := HV.out.bud k hlt
            have hO := HV.out.off k hlt
            have hPn : (gs xs k).p = ((sys xs).P k : Int) := by show (gs xs k).p = (((gs xs k).p.toNat : Nat) : Int); omega
            have hBn : (gs xs k).b = ((sys xs).B k : Int) := by show (gs xs k).b = (((gs xs k).b.toNat : Nat) : Int); omega
            have hOn : (gs xs k).o = ((sys xs).O k : Int) := by show (gs xs k).o = (((gs xs k).o.toNat : Nat) : Int); omega
            rw [hPn] at e0 hP
            rw [hBn] at e1 hB
            rw [hOn] at e2 hO
            rw [hPn] at hB hO
            obtain ⟨g, hg⟩ : ∃ g, b1 = some ⟨g, 0, none⟩ := by
              rcases H3.out.1.ct with ⟨h1, h0⟩ | ⟨g, c, h1, _⟩
              · omega
              · injection h1 with h1; exact ⟨g, h1⟩
            subst hg
            have HRL : Hid ((Rule.rest (sys xs) (t + 1) k : Int) = if (sys xs).O k ≤ t + 1 ∧ (t + 1 - (sys xs).O k) % (sys xs).P k = 0 then ((sys xs).B k : Int) else f0 (sys xs) t k) := Rule.rest_next HV.out.bd.ok hlt t
            have HUP : Hid (∀ z : Int, (Rule.rest (sys xs) (t + 1) k : Int) = z → ∀ i, i < xs.length → (if i = k then z else (if i < k then (Rule.rest (sys xs) (t + 1) i : Int) else f0 (sys xs) t i)) = if i < k + 1 then (Rule.rest (sys xs) (t + 1) i : Int) else f0 (sys xs) t i) := fun z hz i _ => by
              by_cases e : i = k
              · rw [if_pos e, if_pos (by omega), e, hz]
              · rw [if_neg e]
                by_cases e2 : i < k
                · rw [if_pos e2, if_pos (by omega)]
                · rw [if_neg e2, if_neg (by omega)]
            clear hPn hBn hOn hok
            generalize (sys xs).P k = P at *
            generalize (sys xs).B k = B at *
            generalize (sys xs).O k = O at *
            generalize (gs xs k).q = q at *
            go_upto_region 12 with fail
            have b2 := World.alloc_heap_new wr (.cells #[.int .i64 (P : Int), .int .i64 (B : Int), .int .i64 (O : Int), .int .i64 q] 36)
            have HO2 : Hid (Ri (wr.alloc (.cells #[.int .i64 (P : Int), .int .i64 (B : Int), .int .i64 (O : Int), .int .i64 q] 36)) w.heap.size (.slice (some ⟨g, 0, none⟩) xs.length c1) xs.length (fun i => if i < k then (Rule.rest (sys xs) (t + 1) i : Int) else f0 (sys xs) t i) ∧ Kept No w (wr.alloc (.cells #[.int .i64 (P : Int), .int .i64 (B : Int), .int .i64 (O : Int), .int .i64 q] 36))) := ⟨World.ownsRow.alloc H3.out.1 _, H3.out.2.alloc _⟩
            clear H3 e0 e1 e2 e3
            generalize wr.alloc (.cells #[.int .i64 (P : Int), .int .i64 (B : Int), .int .i64 (O : Int), .int .i64 q] 36) = wq at *
            obtain ⟨y0, y1, y2, y3⟩ := cells4r b2
            generalize hz : wr.heap.size = z at *
            clear hz b2 y3
            obtain ⟨hct⟩ : ∃ hct : Unit, Ct wq g xs.length (fun i => if i < k then (Rule.rest (sys xs) (t + 1) i : Int) else f0 (sys xs) t i) := by
              rcases HO2.out.1.ct with ⟨h1, h0⟩ | ⟨g', c, h1, _, _, _, h5⟩
              · cases h1
              · injection h1 with h1; injection h1 with h1; injection h1 with h1; subst h1; exact ⟨(), h5⟩
            rename_i hct'
            have x1 := hct'.at' k hlt
            have xf := hct'.fz k
            clear hct' hct
            generalize (if k < k then (Rule.rest (sys xs) (t + 1) k : Int) else f0 (sys xs) t k) = old at x1
            obtain ⟨T1, hT1⟩ : ∃ T1, t + 1 = T1 := ⟨_, rfl⟩
            have et : (t : Int) + 1 = (T1 : Int) := by omega
            have hT2 : T1 ≤ 1099511627776 := by omega
            obtain ⟨M, hM⟩ : ∃ M, (T1 - O) % P = M := ⟨_, rfl⟩
            have HMM : Hid (O ≤ T1 → Int.tmod ((T1 : Int) - (O : Int)) (P : Int) = (M : Int) ∧ ((T1 : Int) - (O : Int)) % (P : Int) = (M : Int)) := fun h1 => by
              rw [show (T1 : Int) - (O : Int) = ((T1 - O : Nat) : Int) by omega, ← hM]
              exact ⟨Int.ofNat_tmod _ _, rfl⟩
            rw [hT1, hM] at HRL
            have HT1 : Hid (t + 1 = T1) := hT1
            clear hM hT1
            by_cases hot : O ≤ T1
            · obtain ⟨eM, eM2⟩ := HMM.out hot
              by_cases hM0 : M = 0
              · have hv1 : Hid ((Rule.rest (sys xs) (t + 1) k : Int) = (B : Int)) := by
                  have := HRL.out
                  rw [if_pos ⟨hot, hM0⟩] at this
                  rw [HT1.out]
                  exact this
                have hM' : ((M : Int) == 0) = true := beq_iff_eq.2 (by omega)
                have HN : Hid (Ri (wq.setCell ⟨g, k, none⟩ (.int .i64 (B : Int))) w.heap.size (.slice (some ⟨g, 0, none⟩) xs.length c1) xs.length (fun i => if i < k + 1 then (Rule.rest (sys xs) (t + 1) i : Int) else f0 (sys xs) t i) ∧ Kept No w (wq.setCell ⟨g, k, none⟩ (.int .i64 (B : Int)))) := by
                  have s1 := HO2.out.1.set k (B : Int)
                  exact ⟨s1.1.like (HUP.out _ hv1.out), HO2.out.2.grown s1.2 (fun j e => .inr (World.ownsRow.lt HO2.out.1 j e).1)⟩
                clear HRL HMM HUP
                go_upto_region 13 with fail
                clear y0 y2
                go_wp2
                go_roundw
                case rel => exact ⟨k + 1, by omega, by go_num, HN.out.1, HN.out.2⟩
                case measure => simp [intOf]; omega
              · have hv1 : Hid ((Rule.rest (sys xs) (t + 1) k : Int) = f0 (sys xs) t k) := by
                  have := HRL.out
                  rw [if_neg (fun h => hM0 h.2)] at this
                  rw [HT1.out]
                  exact this
                have hM' : ((M : Int) == 0) = false := beq_eq_false_iff_ne.2 (by omega)
                have HN : Hid (Ri wq w.heap.size (.slice (some ⟨g, 0, none⟩) xs.length c1) xs.length (fun i => if i < k + 1 then (Rule.rest (sys xs) (t + 1) i : Int) else f0 (sys xs) t i)) := HO2.out.1.like (fun i hi => by
                  rw [← HUP.out _ hv1.out i hi]
                  by_cases e : i = k
                  · subst e; rw [if_pos rfl, if_neg (Nat.lt_irrefl _)]
                  · rw [if_neg e])
                clear HRL HMM HUP
                go_upto_region 10 with fail
                clear y0 y1 y2
                go_wp2
                go_roundw
                case rel => exact ⟨k + 1, by omega, by go_num, HN.out, HO2.out.2⟩
                case measure => simp [intOf]; omega
            · have hv1 : Hid ((Rule.rest (sys xs) (t + 1) k : Int) = f0 (sys xs) t k) := by
                have := HRL.out
                rw [if_neg (fun h => hot h.1)] at this
                rw [HT1.out]
                exact this
              have hot' : ¬ (O : Int) ≤ (T1 : Int) := by omega
              have HN : Hid (Ri wq w.heap.size (.slice (some ⟨g, 0, none⟩) xs.length c1) xs.length (fun i => if i < k + 1 then (Rule.rest (sys xs) (t + 1) i : Int) else f0 (sys xs) t i)) := HO2.out.1.like (fun i hi => by
                rw [← HUP.out _ hv1.out i hi]
                by_cases e : i = k
                · subst e; rw [if_pos rfl, if_neg (Nat.lt_irrefl _)]
                · rw [if_neg e])
              clear HRL HMM HUP
              go_upto_region 10 with fail
              clear y0 y1 y2
              go_wp2
              go_roundw
              case rel => exact ⟨k + 1, by omega, by go_num, HN.out, HO2.out.2⟩
              case measure => simp [intOf]; omega
          · have hke : k = xs.length := by omega
            have HE : Hid (Ri wr w.heap.size (.slice b1 xs.length c1) xs.length (fun i => (Rule.rest (sys xs) (t + 1) i : Int)) ∧ Kept No w wr) := ⟨H3.out.1.like (fun i hi => by rw [if_pos (by omega)]), H3.out.2⟩
            subst hke
            clear H3
            go_wp2
            go_roundw
            case rel => exact ⟨t + 1, by omega, by omega, by go_num, HE.out.1, HE.out.2⟩
            case measure => simp [intOf]; omega
      · obtain ⟨p, hp⟩ : ∃ p, O = p + 1 := ⟨O - 1, by omega⟩
        have hp1 : p < xs.length := by omega
        have hOi : (O : Int) - 1 = (p : Int) := by omega
        have hOp : 0 < (O : Int) := by omega
        obtain ⟨g, hg⟩ : ∃ g, b1 = some ⟨g, 0, none⟩ := by
          rcases H4.out.1.ct with ⟨h1, h0⟩ | ⟨g, c, h1, _⟩
          · omega
          · injection h1 with h1; exact ⟨g, h1⟩
        subst hg
        have hct' : Ct w4 g xs.length (fun i => (Rule.rest (sys xs) t i : Int)) := by
          rcases H4.out.1.ct with ⟨h1, h0⟩ | ⟨g', c, h1, _, _, _, h5⟩
          · cases h1
          · injection h1 with h1; injection h1 with h1; injection h1 with h1; subst h1; exact h5
        have x1 := hct'.at' p hp1
        have xf := hct'.fz p
        have s1 := H4.out.1.set p ((Rule.rest (sys xs) t p : Int) - 1)
        have hrp : (Rule.rest (sys xs) t p : Int) ≤ 1048576 := by
          have h1 := Rule.rest_le (sys xs) t p
          have h2 := HV.out.bud p hp1
          have h3 := HV.out.per p hp1
          have h4 : (sys xs).B p = (gs xs p).b.toNat := rfl
          omega
        have HF : Hid (Ri (w4.setCell ⟨g, p, none⟩ (.int .i64 ((Rule.rest (sys xs) t p : Int) - 1))) w.heap.size (.slice (some ⟨g, 0, none⟩) xs.length c1) xs.length (f0 (sys xs) t) ∧ Kept No w (w4.setCell ⟨g, p, none⟩ (.int .i64 ((Rule.rest (sys xs) t p : Int) - 1)))) := ⟨s1.1.like (fun i _ => by
            unfold f0
            rw [HO.out, hp]
            by_cases e : i = p
            · rw [if_pos e, if_pos (by omega), e]
            · rw [if_neg e, if_neg (by omega)]; omega), H4.out.2.grown s1.2 (fun j e => .inr (World.ownsRow.lt H4.out.1 j e).1)⟩
        clear s1 hct' H4 HO hO0 hp
        generalize Rule.rest (sys xs) t p = rp at *
        go_wp2
        go_loopw [12] (fun x w3 => ∃ k : Nat, k ≤ xs.length ∧ x = .int .i64 k ∧ Ri w3 w.heap.size (.slice (some ⟨g, 0, none⟩) xs.length c1) xs.length (fun i => if i < k then (Rule.rest (sys xs) (t + 1) i : Int) else f0 (sys xs) t i) ∧ Kept No w w3) (fun x _ => xs.length - (intOf x).toNat)
        case atStart => exact ⟨0, Nat.zero_le _, rfl, Ri.like HF.out.1 (fun i _ => by rw [if_neg (Nat.not_lt_zero _)]), HF.out.2⟩
        case round =>
          obtain ⟨k, hk, rfl, hri, hkr⟩ := hrel
          have H3 : Hid (Ri wr w.heap.size (.slice (some ⟨g, 0, none⟩) xs.length c1) xs.length (fun i => if i < k then (Rule.rest (sys xs) (t + 1) i : Int) else f0 (sys xs) t i) ∧ Kept No w wr) := ⟨hri, hkr⟩
          clear hri hkr HF
          by_cases hlt : k < xs.length
          · obtain ⟨hok, b, o, rfl, hb, e0, e1, e2, e3⟩ := (HS.out.keep H3.out.2).gs4 hlt
            have hP := HV.out.per k hlt
            have hB := HV.out.bud k hlt
            have hO := HV.out.off k hlt
            have hPn : (gs xs k).p = ((sys xs).P k : Int) := by show (gs xs k).p = (((gs xs k).p.toNat : Nat) : Int); omega
            have hBn : (gs xs k).b = ((sys xs).B k : Int) := by show (gs xs k).b = (((gs xs k).b.toNat : Nat) : Int); omega
            have hOn : (gs xs k).o = ((sys xs).O k : Int) := by show (gs xs k).o = (((gs xs k).o.toNat : Nat) : Int); omega
            rw [hPn] at e0 hP
            rw [hBn] at e1 hB
            rw [hOn] at e2 hO
            rw [hPn] at hB hO
            have HRL : Hid ((Rule.rest (sys xs) (t + 1) k : Int) = if (sys xs).O k ≤ t + 1 ∧ (t + 1 - (sys xs).O k) % (sys xs).P k = 0 then ((sys xs).B k : Int) else f0 (sys xs) t k) := Rule.rest_next HV.out.bd.ok hlt t
            have HUP : Hid (∀ z : Int, (Rule.rest (sys xs) (t + 1) k : Int) = z → ∀ i, i < xs.length → (if i = k then z else (if i < k then (Rule.rest (sys xs) (t + 1) i : Int) else f0 (sys xs) t i)) = if i < k + 1 then (Rule.rest (sys xs) (t + 1) i : Int) else f0 (sys xs) t i) := fun z hz i _ => by
              by_cases e : i = k
              · rw [if_pos e, if_pos (by omega), e, hz]
              · rw [if_neg e]
                by_cases e2 : i < k
                · rw [if_pos e2, if_pos (by omega)]
                · rw [if_neg e2, if_neg (by omega)]
            clear hPn hBn hOn hok
            generalize (sys xs).P k = P at *
            generalize (sys xs).B k = B at *
            generalize (sys xs).O k = O at *
            generalize (gs xs k).q = q at *
            go_upto_region 12 with fail
            have b2 := World.alloc_heap_new wr (.cells #[.int .i64 (P : Int), .int .i64 (B : Int), .int .i64 (O : Int), .int .i64 q] 36)
            have HO2 : Hid (Ri (wr.alloc (.cells #[.int .i64 (P : Int), .int .i64 (B : Int), .int .i64 (O : Int), .int .i64 q] 36)) w.heap.size (.slice (some ⟨g, 0, none⟩) xs.length c1) xs.length (fun i => if i < k then (Rule.rest (sys xs) (t + 1) i : Int) else f0 (sys xs) t i) ∧ Kept No w (wr.alloc (.cells #[.int .i64 (P : Int), .int .i64 (B : Int), .int .i64 (O : Int), .int .i64 q] 36))) := ⟨World.ownsRow.alloc H3.out.1 _, H3.out.2.alloc _⟩
            clear H3 e0 e1 e2 e3
            generalize wr.alloc (.cells #[.int .i64 (P : Int), .int .i64 (B : Int), .int .i64 (O : Int), .int .i64 q] 36) = wq at *
            obtain ⟨y0, y1, y2, y3⟩ := cells4r b2
            generalize hz : wr.heap.size = z at *
            clear hz b2 y3
            obtain ⟨hct⟩ : ∃ hct : Unit, Ct wq g xs.length (fun i => if i < k then (Rule.rest (sys xs) (t + 1) i : Int) else f0 (sys xs) t i) := by
              rcases HO2.out.1.ct with ⟨h1, h0⟩ | ⟨g', c, h1, _, _, _, h5⟩
              · cases h1
              · injection h1 with h1; injection h1 with h1; injection h1 with h1; subst h1; exact ⟨(), h5⟩
            rename_i hct'
            have x1 := hct'.at' k hlt
            have xf := hct'.fz k
            clear hct' hct
            generalize (if k < k then (Rule.rest (sys xs) (t + 1) k : Int) else f0 (sys xs) t k) = old at x1
            obtain ⟨T1, hT1⟩ : ∃ T1, t + 1 = T1 := ⟨_, rfl⟩
            have et : (t : Int) + 1 = (T1 : Int) := by omega
            have hT2 : T1 ≤ 1099511627776 := by omega
            obtain ⟨M, hM⟩ : ∃ M, (T1 - O) % P = M := ⟨_, rfl⟩
            have HMM : Hid (O ≤ T1 → Int.tmod ((T1 : Int) - (O : Int)) (P : Int) = (M : Int) ∧ ((T1 : Int) - (O : Int)) % (P : Int) = (M : Int)) := fun h1 => by
              rw [show (T1 : Int) - (O : Int) = ((T1 - O : Nat) : Int) by omega, ← hM]
              exact ⟨Int.ofNat_tmod _ _, rfl⟩
            rw [hT1, hM] at HRL
            have HT1 : Hid (t + 1 = T1) := hT1
            clear hM hT1
            by_cases hot : O ≤ T1
            · obtain ⟨eM, eM2⟩ := HMM.out hot
              by_cases hM0 : M = 0
              · have hv1 : Hid ((Rule.rest (sys xs) (t + 1) k : Int) = (B : Int)) := by
                  have := HRL.out
                  rw [if_pos ⟨hot, hM0⟩] at this
                  rw [HT1.out]
                  exact this
                have hM' : ((M : Int) == 0) = true := beq_iff_eq.2 (by omega)
                have HN : Hid (Ri (wq.setCell ⟨g, k, none⟩ (.int .i64 (B : Int))) w.heap.size (.slice (some ⟨g, 0, none⟩) xs.length c1) xs.length (fun i => if i < k + 1 then (Rule.rest (sys xs) (t + 1) i : Int) else f0 (sys xs) t i) ∧ Kept No w (wq.setCell ⟨g, k, none⟩ (.int .i64 (B : Int)))) := by
                  have s1 := HO2.out.1.set k (B : Int)
                  exact ⟨s1.1.like (HUP.out _ hv1.out), HO2.out.2.grown s1.2 (fun j e => .inr (World.ownsRow.lt HO2.out.1 j e).1)⟩
                clear HRL HMM HUP
                go_upto_region 13 with fail
                clear y0 y2
                go_wp2
                go_roundw
                case rel => exact ⟨k + 1, by omega, by go_num, HN.out.1, HN.out.2⟩
                case measure => simp [intOf]; omega
              · have hv1 : Hid ((Rule.rest (sys xs) (t + 1) k : Int) = f0 (sys xs) t k) := by
                  have := HRL.out
                  rw [if_neg (fun h => hM0 h.2)] at this
                  rw [HT1.out]
                  exact this
                have hM' : ((M : Int) == 0) = false := beq_eq_false_iff_ne.2 (by omega)
                have HN : Hid (Ri wq w.heap.size (.slice (some ⟨g, 0, none⟩) xs.length c1) xs.length (fun i => if i < k + 1 then (Rule.rest (sys xs) (t + 1) i : Int) else f0 (sys xs) t i)) := HO2.out.1.like (fun i hi => by
                  rw [← HUP.out _ hv1.out i hi]
                  by_cases e : i = k
                  · subst e; rw [if_pos rfl, if_neg (Nat.lt_irrefl _)]
                  · rw [if_neg e])
                clear HRL HMM HUP
                go_upto_region 10 with fail
                clear y0 y1 y2
                go_wp2
                go_roundw
                case rel => exact ⟨k + 1, by omega, by go_num, HN.out, HO2.out.2⟩
                case measure => simp [intOf]; omega
            · have hv1 : Hid ((Rule.rest (sys xs) (t + 1) k : Int) = f0 (sys xs) t k) := by
                have := HRL.out
                rw [if_neg (fun h => hot h.1)] at this
                rw [HT1.out]
                exact this
              have hot' : ¬ (O : Int) ≤ (T1 : Int) := by omega
              have HN : Hid (Ri wq w.heap.size (.slice (some ⟨g, 0, none⟩) xs.length c1) xs.length (fun i => if i < k + 1 then (Rule.rest (sys xs) (t + 1) i : Int) else f0 (sys xs) t i)) := HO2.out.1.like (fun i hi => by
                rw [← HUP.out _ hv1.out i hi]
                by_cases e : i = k
                · subst e; rw [if_pos rfl, if_neg (Nat.lt_irrefl _)]
                · rw [if_neg e])
              clear HRL HMM HUP
              go_upto_region 10 with fail
              clear y0 y1 y2
              go_wp2
              go_roundw
              case rel => exact ⟨k + 1, by omega, by go_num, HN.out, HO2.out.2⟩
              case measure => simp [intOf]; omega
          · have hke : k = xs.length := by omega
            have HE : Hid (Ri wr w.heap.size (.slice (some ⟨g, 0, none⟩) xs.length c1) xs.length (fun i => (Rule.rest (sys xs) (t + 1) i : Int)) ∧ Kept No w wr) := ⟨H3.out.1.like (fun i hi => by rw [if_pos (by omega)]), H3.out.2⟩
            subst hke
            clear H3
            go_wp2
            go_roundw
            case rel => exact ⟨t + 1, by omega, by omega, by go_num, HE.out.1, HE.out.2⟩
            case measure => simp [intOf]; omega
    · have hte : t = tb := by omega
      subst hte
      clear HV
      go_wp2
      go_ret
      exact ⟨_, rfl, HQ.out.1, HQ.out.2⟩
end Go.Proofs.YtffgcijicmfmlaaGreatDoor

namespace Go.Proofs.YtffgcijicmfmlaaGreatDoor
open Go.RowKit Plain
set_option linter.unusedVariables false
set_option maxRecDepth 100000

theorem Rd0.form {w : World} {v : Value} {n : Nat} {f : Nat → Int} (h : Rd0 w v n f) : ∃ la lc, v = .slice la n lc := by
  rcases h with ⟨h1, h0⟩ | ⟨g, c, h1, _⟩
  · exact ⟨none, 0, by rw [h1, h0]⟩
  · exact ⟨_, _, h1⟩
theorem rest_bd {xs : List Srv} (hv : Vd xs) (t i : Nat) (hi : i < xs.length) : Rule.rest (sys xs) t i ≤ 1048576 := by
  have h1 := Rule.rest_le (sys xs) t i
  have h2 := hv.bud i hi
  have h3 := hv.per i hi
  have h4 : (sys xs).B i = (gs xs i).b.toNat := rfl
  omega
theorem rrests_any {a la : Option Addr} {m c n lc : Nat} {r : Nat → Int} (H t : Int) (w : World) (hr : Rd0 w (.slice la n lc) n r) (hn : n ≤ 32) :
    Calls Tryz.prog 36 #[.agg #[.slice a m c, .int .i64 H, .int .i64 t, .slice la n lc]] w fun e w' => ∃ la' lc', e = .returned (.slice la' n lc') ∧ Ri w' w.heap.size (.slice la' n lc') n r ∧ Kept No w w' := by
  have HR : Hid (Rd0 w (.slice la n lc) n r) := hr
  clear hr
  go_enter Tryz.func36, Tryz.ntmps36
  go_upto_region 1 with fail
  have b2 := World.alloc_heap_new w (.cells #[.slice a m c, .int .i64 H, .int .i64 t, .slice la n lc] 43)
  have HK2 : Hid (Kept No w (w.alloc (.cells #[.slice a m c, .int .i64 H, .int .i64 t, .slice la n lc] 43))) := (Kept.refl No w).alloc _
  generalize w.alloc (.cells #[.slice a m c, .int .i64 H, .int .i64 t, .slice la n lc] 43) = w1 at *
  generalize hz : w.heap.size = z at *
  have hz1 : z < w1.heap.size := heap_lt b2
  have HZ : Hid (w.heap.size = z) := hz
  have y3 : w1.cell? ⟨z, 3, none⟩ = some (.slice la n lc) := by simp only [World.cell?, b2]; rfl
  clear b2 hz
  have HR2 : Hid (Rd0 (w1.alloc (.cells #[] 3)) (.slice la n lc) n r) := HR.out.keep (HK2.out.alloc _)
  go_wp2_with (at_builtin; refine wpList_cpi rfl _ _ rfl w1.heap.size _ rfl (made0i w1) (by simp) _ rfl n _ HR2.out (by omega) ?_; intro v1 w2 RI2 KW2)
  obtain ⟨la', lc', hv1⟩ := RI2.out.rd.form
  subst hv1
  have HK : Hid (Kept No w w2) := (HK2.out.alloc _).trans KW2.out (fun k e => .inr (by have := own0 e; have := HZ.out; omega))
  clear KW2
  go_ret
  exact ⟨_, _, rfl, own_base RI2.out (by have := HZ.out; omega), HK.out⟩
set_option maxHeartbeats 4000000 in
theorem rocc_any {F : Nat → Prop} {a la : Option Addr} {c lc : Nat} {xs : List Srv} (hv : Vd xs) (H : Int) (t : Nat) (w : World) (h : Sv w F a xs.length c xs) (hr : Rd0 w (.slice la xs.length lc) xs.length (fun i => (Rule.rest (sys xs) t i : Int))) :
    Calls Tryz.prog 37 #[.agg #[.slice a xs.length c, .int .i64 H, .int .i64 t, .slice la xs.length lc]] w fun e w' => e = .returned (.int .i64 (Rule.occ (sys xs) t)) ∧ Kept No w w' := by
  have hn := hv.num
  have HV : Hid (Vd xs) := hv
  have HS : Hid (Sv w F a xs.length c xs ∧ Rd0 w (.slice la xs.length lc) xs.length (fun i => (Rule.rest (sys xs) t i : Int))) := ⟨h, hr⟩
  have HRS : Hid (∀ W, Kept No w W → Calls Tryz.prog 36 #[.agg #[.slice a xs.length c, .int .i64 H, .int .i64 t, .slice la xs.length lc]] W fun e w' => ∃ la' lc', e = .returned (.slice la' xs.length lc') ∧ Ri w' W.heap.size (.slice la' xs.length lc') xs.length (fun i => (Rule.rest (sys xs) t i : Int)) ∧ Kept No W w') := fun W hk => rrests_any H t W (hr.keep hk) hn
  have HCH : Hid (∀ W la' lc', Kept No w W → Rd0 W (.slice la' xs.length lc') xs.length (fun i => (Rule.rest (sys xs) t i : Int)) → Calls Tryz.prog 50 #[.slice a xs.length c, .slice la' xs.length lc'] W fun e w' => e = .returned (.int .i64 (Rule.occ (sys xs) t)) ∧ Kept No W w') := fun W la' lc' hk h' => chosen_any W (h.keep hk) hn h' (fun i hi => rest_bd hv t i hi)
  clear h hr hv
  generalize Rule.occ (sys xs) t = O at *
  go_enter Tryz.func37, Tryz.ntmps37
  go_upto_region 1 with fail
  have b2 := World.alloc_heap_new w (.cells #[.slice a xs.length c, .int .i64 H, .int .i64 t, .slice la xs.length lc] 43)
  have HK2 : Hid (Kept No w (w.alloc (.cells #[.slice a xs.length c, .int .i64 H, .int .i64 t, .slice la xs.length lc] 43))) := (Kept.refl No w).alloc _
  generalize w.alloc (.cells #[.slice a xs.length c, .int .i64 H, .int .i64 t, .slice la xs.length lc] 43) = w2 at *
  generalize w.heap.size = z at *
  have y0 : w2.cell? ⟨z, 0, none⟩ = some (.slice a xs.length c) := by simp only [World.cell?, b2]; rfl
  have y1 : w2.cell? ⟨z, 1, none⟩ = some (.int .i64 H) := by simp only [World.cell?, b2]; rfl
  have y2 : w2.cell? ⟨z, 2, none⟩ = some (.int .i64 t) := by simp only [World.cell?, b2]; rfl
  have y3 : w2.cell? ⟨z, 3, none⟩ = some (.slice la xs.length lc) := by simp only [World.cell?, b2]; rfl
  clear b2
  have rs := HRS.out w2.drew HK2.out.drew
  go_region_with (first
    | (go_at_call 36; refine rs.mono ?_; rintro e w3 ⟨la', lc', rfl, r3, hk3⟩; have y0 := hk3.cell y0 (fun h => h); have H3 : Hid (Kept No w w3) := HK2.out.drew.trans hk3 (fun _ h => h.elim); have ch := HCH.out w3 la' lc' H3.out r3.rd; clear r3 hk3 rs)
    | (go_at_call 50; refine ch.mono ?_; rintro e w4 ⟨rfl, hk4⟩; have H4 : Hid (Kept No w w4) := H3.out.trans hk4 (fun _ h => h.elim); clear hk4 ch))
  all_goals go_wp2
  all_goals go_ret
  all_goals exact ⟨rfl, H4.out⟩
end Go.Proofs.YtffgcijicmfmlaaGreatDoor

namespace Go.Proofs.YtffgcijicmfmlaaGreatDoor
open Go.RowKit Plain
set_option linter.unusedVariables false
set_option maxRecDepth 100000

theorem nx_lo {s : Rule.Sys} {t i : Nat} (h : t < s.O i) : Rule.nx s t i = s.O i := by
  unfold Rule.nx nextN; rw [if_pos (by omega)]
theorem nx_hi {s : Rule.Sys} {t i : Nat} (hp : 0 < s.P i) (h : s.O i ≤ t) : Rule.nx s t i = t + s.P i - (t - s.O i) % s.P i := by
  unfold Rule.nx nextN
  rw [if_neg (by omega)]
  have hq := Nat.mod_lt (t - s.O i) hp
  have e1 : (t + 1 - s.O i) % s.P i = ((t - s.O i) % s.P i + 1) % s.P i := by
    rw [show t + 1 - s.O i = t - s.O i + 1 by omega, Nat.mod_add_mod]
  rw [e1]
  by_cases h2 : (t - s.O i) % s.P i + 1 = s.P i
  · rw [if_pos (by rw [h2]; exact Nat.mod_self _)]; omega
  · rw [Nat.mod_eq_of_lt (by omega), if_neg (by omega)]; omega

set_option maxHeartbeats 8000000 in
theorem runtil_any {F : Nat → Prop} {a la : Option Addr} {c lc : Nat} {xs : List Srv} (hv : Vd xs) (H : Int) (t : Nat) (ht : t < 1099511627776) (w : World) (h : Sv w F a xs.length c xs) (hr : Rd0 w (.slice la xs.length lc) xs.length (fun i => (Rule.rest (sys xs) t i : Int))) :
    Calls Tryz.prog 38 #[.agg #[.slice a xs.length c, .int .i64 H, .int .i64 t, .slice la xs.length lc]] w fun e w' => e = .returned (.int .i64 (Rule.until' (sys xs) t)) ∧ Kept No w w' := by
  have hn := hv.num
  have hcap := h.cap
  have hmax := h.max
  have HV : Hid (Vd xs) := hv
  have HS : Hid (Sv w F a xs.length c xs) := h
  have HRS : Hid (∀ W, Kept No w W → Calls Tryz.prog 36 #[.agg #[.slice a xs.length c, .int .i64 H, .int .i64 t, .slice la xs.length lc]] W fun e w' => ∃ la' lc', e = .returned (.slice la' xs.length lc') ∧ Ri w' W.heap.size (.slice la' xs.length lc') xs.length (fun i => (Rule.rest (sys xs) t i : Int)) ∧ Kept No W w') := fun W hk => rrests_any H t W (hr.keep hk) hn
  have HCH : Hid (∀ W la' lc', Kept No w W → Rd0 W (.slice la' xs.length lc') xs.length (fun i => (Rule.rest (sys xs) t i : Int)) → Calls Tryz.prog 50 #[.slice a xs.length c, .slice la' xs.length lc'] W fun e w' => e = .returned (.int .i64 (Rule.occ (sys xs) t)) ∧ Kept No W w') := fun W la' lc' hk h' => chosen_any W (h.keep hk) hn h' (fun i hi => rest_bd hv t i hi)
  clear h hr hv
  go_enter Tryz.func38, Tryz.ntmps38
  go_upto_region 1 with fail
  have b2 := World.alloc_heap_new w (.cells #[.slice a xs.length c, .int .i64 H, .int .i64 t, .slice la xs.length lc] 43)
  have HK2 : Hid (Kept No w (w.alloc (.cells #[.slice a xs.length c, .int .i64 H, .int .i64 t, .slice la xs.length lc] 43))) := (Kept.refl No w).alloc _
  generalize w.alloc (.cells #[.slice a xs.length c, .int .i64 H, .int .i64 t, .slice la xs.length lc] 43) = w2 at *
  generalize hz : w.heap.size = z at *
  have HB : Hid (w2.heap[z]? = some (.cells #[.slice a xs.length c, .int .i64 H, .int .i64 t, .slice la xs.length lc] 43)) := b2
  clear hz b2
  have HY : Hid (∀ W, Kept No w2 W → W.cell? ⟨z, 0, none⟩ = some (.slice a xs.length c) ∧ W.cell? ⟨z, 1, none⟩ = some (.int .i64 H) ∧ W.cell? ⟨z, 2, none⟩ = some (.int .i64 t) ∧ W.cell? ⟨z, 3, none⟩ = some (.slice la xs.length lc)) := fun W hk => by
    have b := hk.at' HB.out (fun h => h)
    refine ⟨?_, ?_, ?_, ?_⟩ <;> (simp only [World.cell?, b]; rfl)
  clear HB
  go_wp2
  go_loopw [3, 4] (fun v x wr => ∃ k : Nat, k ≤ xs.length ∧ x = .int .i64 k ∧ v = .int .i64 (Rule.minN (Rule.nx (sys xs) t) 1099511627776 k) ∧ Kept No w2 wr) (fun _ x _ => xs.length - (intOf x).toNat)
  case atStart => exact ⟨0, Nat.zero_le _, rfl, rfl, Kept.refl No w2⟩
  case round =>
    obtain ⟨k, hk, rfl, rfl, hkr⟩ := hrel
    have HK : Hid (Kept No w2 wr) := hkr
    clear hkr
    have hm1 := (Rule.minN_spec (Rule.nx (sys xs) t) 1099511627776 k).1
    by_cases hlt : k < xs.length
    · obtain ⟨y0, _, y2, _⟩ := HY.out wr HK.out
      obtain ⟨hok, b, o, rfl, hb, e0, e1, e2, e3⟩ := ((HS.out.keep HK2.out).keep HK.out).gs4 hlt
      have hP := HV.out.per k hlt
      have hO := HV.out.off k hlt
      have hPn : (gs xs k).p = ((sys xs).P k : Int) := by show (gs xs k).p = (((gs xs k).p.toNat : Nat) : Int); omega
      have hOn : (gs xs k).o = ((sys xs).O k : Int) := by show (gs xs k).o = (((gs xs k).o.toNat : Nat) : Int); omega
      rw [hPn] at e0 hP
      rw [hOn] at e2 hO
      rw [hPn] at hO
      have HNX : Hid ((t < (sys xs).O k → Rule.nx (sys xs) t k = (sys xs).O k) ∧ ((sys xs).O k ≤ t → Rule.nx (sys xs) t k = t + (sys xs).P k - (t - (sys xs).O k) % (sys xs).P k)) := ⟨nx_lo, nx_hi (by omega)⟩
      have HMN : Hid (Rule.minN (Rule.nx (sys xs) t) 1099511627776 (k + 1) = min (Rule.minN (Rule.nx (sys xs) t) 1099511627776 k) (Rule.nx (sys xs) t k)) := rfl
      clear hPn hOn hok
      generalize (sys xs).P k = P at *
      generalize (sys xs).O k = O at *
      generalize (gs xs k).q = q at *
      generalize (gs xs k).b = B at *
      generalize Rule.minN (Rule.nx (sys xs) t) 1099511627776 k = mn at *
      go_upto_region 6 with fail
      have b2 := World.alloc_heap_new wr (.cells #[.int .i64 (P : Int), .int .i64 B, .int .i64 (O : Int), .int .i64 q] 36)
      have HK3 : Hid (Kept No w2 (wr.alloc (.cells #[.int .i64 (P : Int), .int .i64 B, .int .i64 (O : Int), .int .i64 q] 36))) := HK.out.alloc _
      clear HK e0 e1 e2 e3 y0 y2
      generalize wr.alloc (.cells #[.int .i64 (P : Int), .int .i64 B, .int .i64 (O : Int), .int .i64 q] 36) = wq at *
      obtain ⟨c0, c1, c2, c3⟩ := cells4r b2
      generalize hz : wr.heap.size = z2 at *
      clear hz b2 c3 c1
      obtain ⟨y0, y1, y2, y3⟩ := HY.out wq HK3.out
      clear y0 y1 y3
      by_cases hot : O ≤ t
      · obtain ⟨M, hM⟩ : ∃ M, (t - O) % P = M := ⟨_, rfl⟩
        have hMl : M < P := by rw [← hM]; exact Nat.mod_lt _ (by omega)
        have eM : Int.tmod ((t : Int) - (O : Int)) (P : Int) = (M : Int) := by
          rw [show (t : Int) - (O : Int) = ((t - O : Nat) : Int) by omega, ← hM]
          exact Int.ofNat_tmod _ _
        have eM2 : ((t : Int) - (O : Int)) % (P : Int) = (M : Int) := by
          rw [show (t : Int) - (O : Int) = ((t - O : Nat) : Int) by omega, ← hM]
          rfl
        have hnx := HNX.out.2 hot
        rw [hM] at hnx
        have HNX2 : Hid (Rule.nx (sys xs) t k = t + P - M) := hnx
        clear hnx HNX hM
        go_upto_region 8 with fail
        go_quiet (fail)
        by_cases hls : (t : Int) + (P : Int) - (M : Int) < (mn : Int)
        · go_wp2
          go_roundw
          case rel => exact ⟨k + 1, by omega, by go_num, by rw [HMN.out, HNX2.out]; congr 1; omega, HK3.out.drewN _⟩
          case measure => simp [intOf]; omega
        · go_wp2
          go_roundw
          case rel => exact ⟨k + 1, by omega, by go_num, by rw [HMN.out, HNX2.out]; congr 1; omega, HK3.out.drewN _⟩
          case measure => simp [intOf]; omega
      · have hot' : ¬ (O : Int) ≤ (t : Int) := by omega
        have HNX2 : Hid (Rule.nx (sys xs) t k = O) := HNX.out.1 (by omega)
        clear HNX
        by_cases hls : (O : Int) < (mn : Int)
        · go_wp2
          go_roundw
          case rel => exact ⟨k + 1, by omega, by go_num, by rw [HMN.out, HNX2.out]; congr 1; omega, HK3.out⟩
          case measure => simp [intOf]; omega
        · go_wp2
          go_roundw
          case rel => exact ⟨k + 1, by omega, by go_num, by rw [HMN.out, HNX2.out]; congr 1; omega, HK3.out⟩
          case measure => simp [intOf]; omega
    · have hke : k = xs.length := by omega
      subst hke
      obtain ⟨y0, y1, y2, y3⟩ := HY.out wr HK.out
      have rs := HRS.out wr (HK2.out.trans HK.out (fun _ h => h.elim))
      have HU : Hid (Rule.until' (sys xs) t = if Rule.occ (sys xs) t = 0 then Rule.minN (Rule.nx (sys xs) t) 1099511627776 xs.length else min (Rule.minN (Rule.nx (sys xs) t) 1099511627776 xs.length) (t + Rule.rest (sys xs) t (Rule.occ (sys xs) t - 1))) := rfl
      have hOl : Rule.occ (sys xs) t ≤ xs.length := Rule.occ_le (sys xs) t
      generalize Rule.occ (sys xs) t = O at *
      generalize Rule.minN (Rule.nx (sys xs) t) 1099511627776 xs.length = mn at *
      go_upto_region 12 with (go_at_call 36; refine rs.mono ?_; rintro e w3 ⟨la', lc', rfl, r3, hk3⟩; have H3 : Hid (Kept No w2 w3 ∧ Rd0 w3 (.slice la' xs.length lc') xs.length (fun i => (Rule.rest (sys xs) t i : Int))) := ⟨HK.out.trans hk3 (fun _ h => h.elim), r3.rd⟩; clear r3 hk3 rs)
      clear y0 y1 y2 y3
      obtain ⟨y0, y1, y2, y3⟩ := HY.out w3 H3.out.1
      have ch := HCH.out w3 la' lc' (HK2.out.trans H3.out.1 (fun _ h => h.elim)) H3.out.2
      go_upto_region 13 with (go_at_call 50; refine ch.mono ?_; rintro e w4 ⟨rfl, hk4⟩; have H4 : Hid (Kept No w2 w4 ∧ Rd0 w4 (.slice la' xs.length lc') xs.length (fun i => (Rule.rest (sys xs) t i : Int))) := ⟨H3.out.1.trans hk4 (fun _ h => h.elim), H3.out.2.keep hk4⟩; clear hk4 ch)
      clear y0 y1 y2 y3
      by_cases hO0 : O = 0
      · have HU0 : Hid (Rule.until' (sys xs) t = mn) := by have := HU.out; rw [if_pos hO0] at this; exact this
        subst hO0
        clear HU
        go_wp2
        go_ret
        exact ⟨by rw [HU0.out]; rfl, HK2.out.trans H4.out.1 (fun _ h => h.elim)⟩
      · obtain ⟨p, hp⟩ : ∃ p, O = p + 1 := ⟨O - 1, by omega⟩
        have hp1 : p < xs.length := by omega
        have hOi : (O : Int) - 1 = (p : Int) := by omega
        have hOp : 0 < (O : Int) := by omega
        have hpi : (p : Int) < (xs.length : Int) := by omega
        obtain ⟨g, hg, hct⟩ : ∃ g, la' = some ⟨g, 0, none⟩ ∧ Ct w4 g xs.length (fun i => (Rule.rest (sys xs) t i : Int)) := by
          rcases H4.out.2 with ⟨_, h0⟩ | ⟨g, c, h1, _, _, h5⟩
          · omega
          · injection h1 with h1; exact ⟨g, h1, h5⟩
        subst hg
        have x1 := hct.at' p hp1
        have hrb := rest_bd HV.out t p hp1
        obtain ⟨y0, y1, y2, y3⟩ := HY.out w4 H4.out.1
        clear y0 y1 y3
        have HU2 : Hid (Rule.until' (sys xs) t = min mn (t + Rule.rest (sys xs) t p)) := by have := HU.out; rw [if_neg hO0, hp, Nat.add_sub_cancel] at this; exact this
        clear hct HU hO0 hp
        generalize Rule.rest (sys xs) t p = rp at *
        go_upto_region 14 with fail
        go_quiet (fail)
        by_cases hls : (t : Int) + (rp : Int) < (mn : Int)
        · go_wp2
          go_ret
          exact ⟨by rw [HU2.out]; show Ending.returned (.int .i64 ((t : Int) + (rp : Int))) = _; exact congrArg (fun z : Int => Ending.returned (.int .i64 z)) (by omega), HK2.out.trans (H4.out.1.drewN _) (fun _ h => h.elim)⟩
        · go_wp2
          go_ret
          exact ⟨by rw [HU2.out]; show Ending.returned (.int .i64 (mn : Int)) = _; exact congrArg (fun z : Int => Ending.returned (.int .i64 z)) (by omega), HK2.out.trans (H4.out.1.drewN _) (fun _ h => h.elim)⟩
end Go.Proofs.YtffgcijicmfmlaaGreatDoor
