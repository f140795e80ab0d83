/-
  The law's sorted and rising.
-/
import Derived.Test.YtfdcmhbpnadcpaaDoorICut
namespace Go.Proofs.YtfdcmhbpnadcpaaDoor
open Go.RowKit
set_option linter.unusedVariables false
set_option linter.unusedSimpArgs false
set_option maxRecDepth 100000

section
variable {P : Program} {md : Region.Mode} {ops : Array Oper} {Q : Exit → Act → World → Prop} {S : World → Prop} {fuel : Nat} {listed : Array Bool} {a : Act} {w : World}
theorem d_skip (i k : Nat) {oi : Oper} (hi : ops[i]? = some oi) (hd : oi.dst = some k) (hs : Region.noSelect ops = true) (hf : Region.free md ops listed i = true) (hr : (Region.ready md ops listed).contains i = true)
    (hQ : ∀ c a w, Q (.panic c) (a.put (some k) undef) w → Q (.panic c) a w) (hw : Region.wanted oi (yielded ops a.tmps) = false) (hS : S w)
    (h : wpAnyH P md ops Q S fuel (listed.setIfInBounds i true) (a.put (some k) undef) w) : wpAnyH P md ops Q S (fuel + 1) listed a w :=
  h_skip i hi hs hf hr (by rw [hd]; exact hQ) hw hS (by rw [hd]; exact h)
end
section
variable {w : World} {a : Act} {o : Oper}
theorem er_eqlI (x y : Operand) (ho : o.op = .binOp .eql 3 x y 3) (u v : Int) (c : Bool) (hx : a.eval x = .int .i64 u) (hy : a.eval y = .int .i64 v) (hc : decide (u = v) = c) : (execOp a.eval o).run Tryd.prog w = .ok (.value (.bool c)) w := by
  subst hc
  simp only [execOp, ho, hx, hy]
  by_cases h : u = v <;> simp [go_sem, h]
theorem er_geq (x y : Operand) (ho : o.op = .binOp .geq 3 x y 3) (u v : Int) (c : Bool) (hx : a.eval x = .int .i64 u) (hy : a.eval y = .int .i64 v) (hc : decide (v ≤ u) = c) : (execOp a.eval o).run Tryd.prog w = .ok (.value (.bool c)) w := by
  subst hc
  simp only [execOp, ho, hx, hy]; simp [go_sem]
theorem er_subN (x : Operand) (ho : o.op = .binOp .sub 3 x (.const (.int .i64 1)) 3) (d : Nat) (hx : a.eval x = .int .i64 ((d + 1 : Nat) : Int)) (hb : d ≤ 1048576) : (execOp a.eval o).run Tryd.prog w = .ok (.value (.int .i64 (d : Int))) w := by
  have hw : IntKind.i64.wrap (d : Int) = (d : Int) := by
    rw [IntWalk.i64_left]
    unfold wrap64
    omega
  have hd : ((d + 1 : Nat) : Int) - 1 = (d : Int) := by omega
  simp only [execOp, ho, hx]; simp [go_sem, Act.eval, hw]
end
theorem srt_snoc : ∀ (l out : List Inp) (x : Inp), srt out (l ++ [x]) = if keepB (srt out l) x then srt out l ++ [x] else srt out l
  | [], out, x => by by_cases h : keepB out x = true <;> simp [srt, h]
  | y :: l, out, x => by rw [List.cons_append, srt, srt, srt_snoc l]
theorem srt_rise : ∀ (l out : List Inp), Rise out → Rise (srt out l)
  | [], out, h => h
  | y :: l, out, h => by
    rw [srt]
    by_cases hk : keepB out y = true
    · rw [if_pos hk]; exact srt_rise l _ (h.snoc hk)
    · rw [if_neg hk]; exact srt_rise l _ h
theorem keepB_nil (x : Inp) : keepB [] x = true := rfl
theorem keepB_last {out : List Inp} {y x : Inp} {l : Nat} (hl : out.length = l + 1) (h : out[l]? = some y) : keepB out x = decide (y.tk ≤ x.tk) := by
  unfold keepB
  rw [List.getLast?_eq_getElem?, hl, Nat.add_sub_cancel, h]
set_option maxHeartbeats 8000000 in
theorem sorted_any {F : Nat → Prop} {a : Option Addr} {n c : Nat} {xs : List Inp} (w : World) (hl : Il w F a n c xs) :
    Calls Tryd.prog 14 #[.slice a n c] w fun r w' => ∃ ra l rc, r = .returned (.slice ra l rc) ∧ ∃ ys, Il w' An ra l rc ys ∧ Rise ys ∧ l ≤ 500 ∧ Kept No w w' := by
  have hlc := hl.cap
  have hlm := hl.max
  have hlen := hl.len
  have HH := hid hl.low
  clear hl
  go_enter Tryd.func14, Tryd.ntmps14
  go_upto_region 2 with fail
  go_wp2
  go_loopw [3, 4] (fun u3 u4 wr => ∃ (k l : Nat) (ka : Option Addr) (kc : Nat), k ≤ n ∧ k ≤ 500 ∧ l ≤ k ∧ u3 = .slice ka l kc ∧ u4 = .int .i64 k ∧ Gi wr w.heap.size (.slice ka l kc) l (srt [] (xs.take k)) ∧ Kept (fun k => w.heap.size ≤ k) w wr) (fun _ u4 _ => n - (intOf u4).toNat)
  case atStart => exact ⟨0, 0, none, 0, by omega, by omega, by omega, rfl, rfl, Gi.nil _ _, Kept.refl _ _⟩
  case round =>
    obtain ⟨k, l, ka, kc, hk, hk5, hlk, rfl, rfl, gi, kr⟩ := hrel
    have fin : Hid (∃ ra l' rc ys, Value.slice ka l kc = .slice ra l' rc ∧ Il wr An ra l' rc ys ∧ Rise ys ∧ l' ≤ 500 ∧ Kept No w wr) := ⟨ka, l, kc, _, rfl, gi.il, srt_rise _ _ List.Pairwise.nil, by omega, kept_no kr⟩
    by_cases hlt : k < n
    · have hltz : (k : Int) < (n : Int) := by omega
      by_cases h5 : k < 500
      · have h5z : (k : Int) < 500 := by omega
        clear fin
        have ilr := HH.out.kept kr (fun b hb e => by omega)
        obtain ⟨x, hx⟩ : ∃ x, xs[k]? = some x := ⟨_, List.getElem?_eq_getElem (by rw [hlen]; exact hlt)⟩
        obtain ⟨b, o, da, dc, rfl, _, hc, ir⟩ := ilr.at' k x hx
        have HX : Hid (srt [] (xs.take (k + 1)) = if keepB (srt [] (xs.take k)) x then srt [] (xs.take k) ++ [x] else srt [] (xs.take k)) := by
          show srt [] (xs.take (k + 1)) = _
          rw [take_snoc hx, srt_snoc]
        have X0 : Hid (∀ W, Kept No wr W → W.cell? ⟨b, o + k * 4, none⟩ = some (.int .i64 x.tk)) := fun W q => q.cell (hc 0 _ rfl) (fun e => e)
        have LD : Hid (∀ W, Kept No wr W → (Instr.loadAt 28 (.pointer (some ⟨b, o + k * 4, none⟩))).run Tryd.prog W = .ok (.agg (x.val da dc)) W) := fun W q => ldI (fun j v hv => q.cell (hc j v hv) (fun e => e))
        have il := gi.il
        obtain ⟨As, gj⟩ := gi
        have HG := hid (And.intro gj (And.intro kr ir))
        have hol : Hid ((srt [] (xs.take k)).length = l) := gj.len
        have IL := hid il
        clear gj kr ir ilr hc hx il
        go_upto_region 5 with fail
        cases l with
        | zero =>
          have hkeep : keepB (srt [] (xs.take k)) x = true := by rw [List.eq_nil_of_length_eq_zero hol.out]; rfl
          go_cut [32] (fun u wd => u = .bool true ∧ Kept No wr wd)
          case first =>
            refine wp_region_held_drew (S := fun W => Kept No wr W) (by kernel_rfl) ((Kept.refl _ wr).drew) (fun hS => ?_)
            refine d_take 0 15 rfl rfl (by kernel_rfl) (by kernel_rfl) (by kernel_rfl) (fun _ _ _ h => h) rfl (fun w' hw' => er_mv _ rfl (.slice ka 0 kc) rfl) hS ?_
            simp only [Act.put, List.setIfInBounds_toArray, List.set_cons_zero, List.set_cons_succ]
            refine d_take 1 16 rfl rfl (by kernel_rfl) (by kernel_rfl) (by kernel_rfl) (fun _ _ _ h => h) rfl (fun w' hw' => er_len 22 _ rfl ka 0 kc rfl (by kernel_rfl)) hS ?_
            simp only [Act.put, List.setIfInBounds_toArray, List.set_cons_zero, List.set_cons_succ]
            refine d_take 2 17 rfl rfl (by kernel_rfl) (by kernel_rfl) (by kernel_rfl) (fun _ _ _ h => h) rfl (fun w' hw' => er_eqlI _ _ rfl 0 0 true rfl rfl (by decide)) hS ?_
            simp only [Act.put, List.setIfInBounds_toArray, List.set_cons_zero, List.set_cons_succ]
            refine d_take 3 18 rfl rfl (by kernel_rfl) (by kernel_rfl) (by kernel_rfl) (fun _ _ _ h => h) rfl (fun w' hw' => er_mv _ rfl (.bool true) rfl) hS ?_
            simp only [Act.put, List.setIfInBounds_toArray, List.set_cons_zero, List.set_cons_succ]
            refine d_skip 4 19 rfl rfl (by kernel_rfl) (by kernel_rfl) (by kernel_rfl) (fun _ _ _ h => h) rfl hS ?_
            simp only [Act.put, List.setIfInBounds_toArray, List.set_cons_zero, List.set_cons_succ]
            refine d_skip 5 20 rfl rfl (by kernel_rfl) (by kernel_rfl) (by kernel_rfl) (fun _ _ _ h => h) rfl hS ?_
            simp only [Act.put, List.setIfInBounds_toArray, List.set_cons_zero, List.set_cons_succ]
            refine d_skip 6 21 rfl rfl (by kernel_rfl) (by kernel_rfl) (by kernel_rfl) (fun _ _ _ h => h) rfl hS ?_
            simp only [Act.put, List.setIfInBounds_toArray, List.set_cons_zero, List.set_cons_succ]
            refine d_skip 7 22 rfl rfl (by kernel_rfl) (by kernel_rfl) (by kernel_rfl) (fun _ _ _ h => h) rfl hS ?_
            simp only [Act.put, List.setIfInBounds_toArray, List.set_cons_zero, List.set_cons_succ]
            refine d_skip 8 23 rfl rfl (by kernel_rfl) (by kernel_rfl) (by kernel_rfl) (fun _ _ _ h => h) rfl hS ?_
            simp only [Act.put, List.setIfInBounds_toArray, List.set_cons_zero, List.set_cons_succ]
            refine d_skip 9 24 rfl rfl (by kernel_rfl) (by kernel_rfl) (by kernel_rfl) (fun _ _ _ h => h) rfl hS ?_
            simp only [Act.put, List.setIfInBounds_toArray, List.set_cons_zero, List.set_cons_succ]
            refine d_skip 10 25 rfl rfl (by kernel_rfl) (by kernel_rfl) (by kernel_rfl) (fun _ _ _ h => h) rfl hS ?_
            simp only [Act.put, List.setIfInBounds_toArray, List.set_cons_zero, List.set_cons_succ]
            refine d_skip 11 26 rfl rfl (by kernel_rfl) (by kernel_rfl) (by kernel_rfl) (fun _ _ _ h => h) rfl hS ?_
            simp only [Act.put, List.setIfInBounds_toArray, List.set_cons_zero, List.set_cons_succ]
            refine d_skip 12 27 rfl rfl (by kernel_rfl) (by kernel_rfl) (by kernel_rfl) (fun _ _ _ h => h) rfl hS ?_
            simp only [Act.put, List.setIfInBounds_toArray, List.set_cons_zero, List.set_cons_succ]
            refine d_skip 13 28 rfl rfl (by kernel_rfl) (by kernel_rfl) (by kernel_rfl) (fun _ _ _ h => h) rfl hS ?_
            simp only [Act.put, List.setIfInBounds_toArray, List.set_cons_zero, List.set_cons_succ]
            refine d_skip 14 29 rfl rfl (by kernel_rfl) (by kernel_rfl) (by kernel_rfl) (fun _ _ _ h => h) rfl hS ?_
            simp only [Act.put, List.setIfInBounds_toArray, List.set_cons_zero, List.set_cons_succ]
            refine d_skip 15 30 rfl rfl (by kernel_rfl) (by kernel_rfl) (by kernel_rfl) (fun _ _ _ h => h) rfl hS ?_
            simp only [Act.put, List.setIfInBounds_toArray, List.set_cons_zero, List.set_cons_succ]
            refine d_skip 16 31 rfl rfl (by kernel_rfl) (by kernel_rfl) (by kernel_rfl) (fun _ _ _ h => h) rfl hS ?_
            simp only [Act.put, List.setIfInBounds_toArray, List.set_cons_zero, List.set_cons_succ]
            refine d_take 17 32 rfl rfl (by kernel_rfl) (by kernel_rfl) (by kernel_rfl) (fun _ _ _ h => h) rfl (fun w' hw' => er_pk _ _ _ rfl true (.bool true) rfl rfl) hS ?_
            simp only [Act.put, List.setIfInBounds_toArray, List.set_cons_zero, List.set_cons_succ]
            refine wpAnyH_done (by kernel_rfl) ?_ _
            have KD := hid hS
            clear hS
            go_wp2
            go_meet
            exact ⟨rfl, KD.out⟩
          case rest =>
          rename World => w3
          obtain ⟨rfl, k3⟩ := hcut
          have H3 := hid k3
          have L3 := hid (LD.out _ k3)
          clear k3 LD X0
          go_wp2_with (first
            | (refine l_take 37 rfl rfl (er_ldX 28 (.tmp 36) rfl (.pointer (some ⟨b, o + k * 4, none⟩)) (.agg (x.val da dc)) rfl L3.out) ?_)
            | (refine l_make 38 rfl rfl (er_bsG 22 28 4 48 Z4 (x.val da dc) _ rfl Tryd.underlying22 Tryd.infoI (by decide) (by decide) rfl (fill_I x da dc)) ?_)
            | (at_builtin; refine wpList_apK rfl _ _ 22 28 rfl w.heap.size (.agg Z4) 4 48 Tryd.underlying22 Tryd.infoI rfl (by decide) (.slice ka 0 kc) 0 _ rfl ((HG.out.1.keep (H3.out.alloc _)).own) (by rw [World.size_alloc]; have h1 := HG.out.2.1.size; have h2 := H3.out.size; omega) ⟨w3.heap.size, 0, none⟩ 1 1 (x.val da dc).toList rfl rfl (news_alloc w3 (x.val da dc) 28) (all_mem (x.val_one da dc)) (by omega) (by omega) (by decide) ?_; intro g7 c7 w5 o5 k5))
          have K4a : Kept No wr (w3.alloc (.cells (x.val da dc) 28)) := H3.out.alloc _
          refine ⟨⟨k + 1, 0 + 1, some ⟨g7, 0, none⟩, c7, by omega, by omega, by omega, rfl, by go_num, ?_, ?_⟩, ?_⟩
          · rw [HX.out, if_pos hkeep]
            exact (HG.out.1.keep K4a).more ((HG.out.2.2.keep K4a).mono (fun q hq => .inl hq)) k5.out o5.out
          · exact (HG.out.2.1.trans K4a (fun _ e => e.elim)).trans k5.out (fun q e => .inl (HG.out.1.low e))
          · simp [intOf]; omega
        | succ l =>
          have hlt2 : l < (srt [] (xs.take k)).length := by rw [hol.out]; omega
          obtain ⟨y, hy⟩ : ∃ y, (srt [] (xs.take k))[l]? = some y := ⟨_, List.getElem?_eq_getElem hlt2⟩
          obtain ⟨gk, ok, ea, ec, rfl, _, hcy, _⟩ := IL.out.at' l y hy
          have Y0 : Hid (∀ W, Kept No wr W → W.cell? ⟨gk, ok + l * 4, none⟩ = some (.int .i64 y.tk)) := fun W q => q.cell (hcy 0 _ rfl) (fun e => e)
          have KB := hid (keepB_last (x := x) hol.out hy)
          obtain ⟨dd, ed⟩ : ∃ dd, decide (y.tk ≤ x.tk) = dd := ⟨_, rfl⟩
          have ED := hid ed
          clear hcy hy hlt2 ed
          go_cut [32] (fun u wd => u = .bool dd ∧ Kept No wr wd)
          case first =>
            refine wp_region_held_drew (S := fun W => Kept No wr W) (by kernel_rfl) ((Kept.refl _ wr).drew) (fun hS => ?_)
            refine d_take 0 15 rfl rfl (by kernel_rfl) (by kernel_rfl) (by kernel_rfl) (fun _ _ _ h => h) rfl (fun w' hw' => er_mv _ rfl (.slice (some ⟨gk, ok, none⟩) (l + 1) kc) rfl) hS ?_
            simp only [Act.put, List.setIfInBounds_toArray, List.set_cons_zero, List.set_cons_succ]
            refine d_take 1 16 rfl rfl (by kernel_rfl) (by kernel_rfl) (by kernel_rfl) (fun _ _ _ h => h) rfl (fun w' hw' => er_len 22 _ rfl (some ⟨gk, ok, none⟩) (l + 1) kc rfl (by kernel_rfl)) hS ?_
            simp only [Act.put, List.setIfInBounds_toArray, List.set_cons_zero, List.set_cons_succ]
            refine d_take 2 17 rfl rfl (by kernel_rfl) (by kernel_rfl) (by kernel_rfl) (fun _ _ _ h => h) rfl (fun w' hw' => er_eqlI _ _ rfl ((l + 1 : Nat) : Int) 0 false rfl rfl (by simp; omega)) hS ?_
            simp only [Act.put, List.setIfInBounds_toArray, List.set_cons_zero, List.set_cons_succ]
            refine d_take 3 18 rfl rfl (by kernel_rfl) (by kernel_rfl) (by kernel_rfl) (fun _ _ _ h => h) rfl (fun w' hw' => er_mv _ rfl (.bool false) rfl) hS ?_
            simp only [Act.put, List.setIfInBounds_toArray, List.set_cons_zero, List.set_cons_succ]
            refine d_take 4 19 rfl rfl (by kernel_rfl) (by kernel_rfl) (by kernel_rfl) (fun _ _ _ h => h) rfl (fun w' hw' => er_mv _ rfl (.slice (some ⟨b, o, none⟩) n c) rfl) hS ?_
            simp only [Act.put, List.setIfInBounds_toArray, List.set_cons_zero, List.set_cons_succ]
            refine d_take 5 20 rfl rfl (by kernel_rfl) (by kernel_rfl) (by kernel_rfl) (fun _ _ _ h => h) rfl (fun w' hw' => er_mv _ rfl (.int .i64 (k : Int)) rfl) hS ?_
            simp only [Act.put, List.setIfInBounds_toArray, List.set_cons_zero, List.set_cons_succ]
            refine d_take 6 21 rfl rfl (by kernel_rfl) (by kernel_rfl) (by kernel_rfl) (fun _ _ _ h => h) rfl (fun w' hw' => er_ixN _ _ rfl b o k n c rfl rfl hlt) hS ?_
            simp only [Act.put, List.setIfInBounds_toArray, List.set_cons_zero, List.set_cons_succ]
            refine d_take 7 22 rfl rfl (by kernel_rfl) (by kernel_rfl) (by kernel_rfl) (fun _ _ _ h => h) rfl (fun w' hw' => er_fT _ rfl b (o + k * 4) rfl) hS ?_
            simp only [Act.put, List.setIfInBounds_toArray, List.set_cons_zero, List.set_cons_succ]
            refine d_take 8 23 rfl rfl (by kernel_rfl) (by kernel_rfl) (by kernel_rfl) (fun _ _ _ h => h) rfl (fun w' hw' => er_ldi _ rfl b (o + k * 4) (.int .i64 x.tk) rfl (X0.out w' hw')) hS ?_
            simp only [Act.put, List.setIfInBounds_toArray, List.set_cons_zero, List.set_cons_succ]
            refine d_take 9 24 rfl rfl (by kernel_rfl) (by kernel_rfl) (by kernel_rfl) (fun _ _ _ h => h) rfl (fun w' hw' => er_mv _ rfl (.slice (some ⟨gk, ok, none⟩) (l + 1) kc) rfl) hS ?_
            simp only [Act.put, List.setIfInBounds_toArray, List.set_cons_zero, List.set_cons_succ]
            refine d_take 10 25 rfl rfl (by kernel_rfl) (by kernel_rfl) (by kernel_rfl) (fun _ _ _ h => h) rfl (fun w' hw' => er_mv _ rfl (.slice (some ⟨gk, ok, none⟩) (l + 1) kc) rfl) hS ?_
            simp only [Act.put, List.setIfInBounds_toArray, List.set_cons_zero, List.set_cons_succ]
            refine d_take 11 26 rfl rfl (by kernel_rfl) (by kernel_rfl) (by kernel_rfl) (fun _ _ _ h => h) rfl (fun w' hw' => er_len 22 _ rfl (some ⟨gk, ok, none⟩) (l + 1) kc rfl (by kernel_rfl)) hS ?_
            simp only [Act.put, List.setIfInBounds_toArray, List.set_cons_zero, List.set_cons_succ]
            refine d_take 12 27 rfl rfl (by kernel_rfl) (by kernel_rfl) (by kernel_rfl) (fun _ _ _ h => h) rfl (fun w' hw' => er_subN _ rfl l rfl (by omega)) hS ?_
            simp only [Act.put, List.setIfInBounds_toArray, List.set_cons_zero, List.set_cons_succ]
            refine d_take 13 28 rfl rfl (by kernel_rfl) (by kernel_rfl) (by kernel_rfl) (fun _ _ _ h => h) rfl (fun w' hw' => er_ixN _ _ rfl gk ok l (l + 1) kc rfl rfl (by omega)) hS ?_
            simp only [Act.put, List.setIfInBounds_toArray, List.set_cons_zero, List.set_cons_succ]
            refine d_take 14 29 rfl rfl (by kernel_rfl) (by kernel_rfl) (by kernel_rfl) (fun _ _ _ h => h) rfl (fun w' hw' => er_fT _ rfl gk (ok + l * 4) rfl) hS ?_
            simp only [Act.put, List.setIfInBounds_toArray, List.set_cons_zero, List.set_cons_succ]
            refine d_take 15 30 rfl rfl (by kernel_rfl) (by kernel_rfl) (by kernel_rfl) (fun _ _ _ h => h) rfl (fun w' hw' => er_ldi _ rfl gk (ok + l * 4) (.int .i64 y.tk) rfl (Y0.out w' hw')) hS ?_
            simp only [Act.put, List.setIfInBounds_toArray, List.set_cons_zero, List.set_cons_succ]
            refine d_take 16 31 rfl rfl (by kernel_rfl) (by kernel_rfl) (by kernel_rfl) (fun _ _ _ h => h) rfl (fun w' hw' => er_geq _ _ rfl x.tk y.tk dd rfl rfl ED.out) hS ?_
            simp only [Act.put, List.setIfInBounds_toArray, List.set_cons_zero, List.set_cons_succ]
            refine d_take 17 32 rfl rfl (by kernel_rfl) (by kernel_rfl) (by kernel_rfl) (fun _ _ _ h => h) rfl (fun w' hw' => er_pk _ _ _ rfl false (.bool dd) rfl rfl) hS ?_
            simp only [Act.put, List.setIfInBounds_toArray, List.set_cons_zero, List.set_cons_succ]
            refine wpAnyH_done (by kernel_rfl) ?_ _
            have KD := hid hS
            clear hS
            go_wp2
            go_meet
            exact ⟨rfl, KD.out⟩
          case rest =>
          rename World => w3
          obtain ⟨rfl, k3⟩ := hcut
          have H3 := hid k3
          have L3 := hid (LD.out _ k3)
          have hkb : Hid (keepB (srt [] (xs.take k)) x = dd) := KB.out.trans ED.out
          clear k3 LD X0 Y0 KB ED
          cases dd with
          | true =>
          have hkeep := hkb.out
          clear hkb
          go_wp2_with (first
            | (refine l_take 37 rfl rfl (er_ldX 28 (.tmp 36) rfl (.pointer (some ⟨b, o + k * 4, none⟩)) (.agg (x.val da dc)) rfl L3.out) ?_)
            | (refine l_make 38 rfl rfl (er_bsG 22 28 4 48 Z4 (x.val da dc) _ rfl Tryd.underlying22 Tryd.infoI (by decide) (by decide) rfl (fill_I x da dc)) ?_)
            | (at_builtin; refine wpList_apK rfl _ _ 22 28 rfl w.heap.size (.agg Z4) 4 48 Tryd.underlying22 Tryd.infoI rfl (by decide) (.slice (some ⟨gk, ok, none⟩) (l + 1) kc) (l + 1) _ rfl ((HG.out.1.keep (H3.out.alloc _)).own) (by rw [World.size_alloc]; have h1 := HG.out.2.1.size; have h2 := H3.out.size; omega) ⟨w3.heap.size, 0, none⟩ 1 1 (x.val da dc).toList rfl rfl (news_alloc w3 (x.val da dc) 28) (all_mem (x.val_one da dc)) (by omega) (by omega) (by decide) ?_; intro g7 c7 w5 o5 k5))
          have K4a : Kept No wr (w3.alloc (.cells (x.val da dc) 28)) := H3.out.alloc _
          refine ⟨⟨k + 1, l + 1 + 1, some ⟨g7, 0, none⟩, c7, by omega, by omega, by omega, rfl, by go_num, ?_, ?_⟩, ?_⟩
          · rw [HX.out, if_pos hkeep]
            exact (HG.out.1.keep K4a).more ((HG.out.2.2.keep K4a).mono (fun q hq => .inl hq)) k5.out o5.out
          · exact (HG.out.2.1.trans K4a (fun _ e => e.elim)).trans k5.out (fun q e => .inl (HG.out.1.low e))
          · simp [intOf]; omega
          | false =>
          have hkeep := hkb.out
          clear hkb
          go_wp2
          refine ⟨⟨k + 1, l + 1, _, kc, by omega, by omega, by omega, rfl, by go_num, ?_, ?_⟩, ?_⟩
          · rw [HX.out, if_neg (by rw [hkeep]; decide)]
            exact ⟨As, HG.out.1.keep H3.out⟩
          · exact HG.out.2.1.trans H3.out (fun _ e => e.elim)
          · simp [intOf]; omega
      · have h5z : ¬ (k : Int) < 500 := by omega
        clear gi kr
        go_wp2
        go_ret
        obtain ⟨ra, l', rc, ys, e, h1, h2, h3, h4⟩ := fin.out
        exact ⟨ra, l', rc, by rw [← e]; rfl, ys, h1, h2, h3, h4⟩
    · have hltz : ¬ (k : Int) < (n : Int) := by omega
      clear gi kr
      go_wp2
      go_ret
      obtain ⟨ra, l', rc, ys, e, h1, h2, h3, h4⟩ := fin.out
      exact ⟨ra, l', rc, by rw [← e]; rfl, ys, h1, h2, h3, h4⟩
set_option maxHeartbeats 4000000 in
theorem rising_yes {F : Nat → Prop} {a : Option Addr} {n c : Nat} {xs : List Inp} (w : World) (hl : Il w F a n c xs) (hr : Rise xs) (hn : n ≤ 1048576) :
    Calls Tryd.prog 16 #[.slice a n c] w fun r w' => r = .returned (.bool true) ∧ Kept No w w' := by
  have hlc := hl.cap
  have hlm := hl.max
  have hlen := hl.len
  have HH := hid (And.intro hl hr)
  clear hl hr
  go_enter Tryd.func16, Tryd.ntmps16
  go_upto_region 1 with fail
  go_wp2
  go_loopw [3] (fun u3 wr => ∃ (k : Nat), (k + 1 ≤ n ∨ k = 0) ∧ u3 = .int .i64 ((k + 1 : Nat) : Int) ∧ Kept No w wr) (fun u3 _ => n + 1 - (intOf u3).toNat)
  case atStart => exact ⟨0, by omega, rfl, Kept.refl _ _⟩
  case round =>
    obtain ⟨k, hk, rfl, kr⟩ := hrel
    by_cases hlt : k + 1 < n
    · have hltz : ((k + 1 : Nat) : Int) < (n : Int) := by omega
      have hltz' : (k : Int) + 1 < (n : Int) := by omega
      have ilr := HH.out.1.keep kr
      obtain ⟨x, hx⟩ : ∃ x, xs[k + 1]? = some x := ⟨_, List.getElem?_eq_getElem (by omega)⟩
      obtain ⟨y, hy⟩ : ∃ y, xs[k]? = some y := ⟨_, List.getElem?_eq_getElem (by omega)⟩
      obtain ⟨b, o, da, dc, rfl, _, hc, _⟩ := ilr.at' (k + 1) x hx
      obtain ⟨b', o', da', dc', e', _, hc', _⟩ := ilr.at' k y hy
      injection e' with e'
      injection e' with e1 e2 _
      subst e1 e2
      have X0 : Hid (∀ W, Kept No wr W → W.cell? ⟨b, o + (k + 1) * 4, none⟩ = some (.int .i64 x.tk)) := fun W q => q.cell (hc 0 _ rfl) (fun e => e)
      have Y0 : Hid (∀ W, Kept No wr W → W.cell? ⟨b, o + k * 4, none⟩ = some (.int .i64 y.tk)) := fun W q => q.cell (hc' 0 _ rfl) (fun e => e)
      have ED : Hid (decide (x.tk < y.tk) = false) := by
        refine decide_eq_false ?_
        have := (List.pairwise_iff_getElem.1 HH.out.2) k (k + 1) (by omega) (by omega) (by omega)
        obtain ⟨_, h1⟩ := List.getElem?_eq_some_iff.1 hx
        obtain ⟨_, h2⟩ := List.getElem?_eq_some_iff.1 hy
        rw [h1, h2] at this
        omega
      have KR := hid kr
      clear kr ilr hc hc' hx hy
      go_upto_region 4 with fail
      refine wp_region_held_drew (S := fun W => Kept No wr W) (by kernel_rfl) ((Kept.refl _ wr).drew) (fun hS => ?_)
      refine d_take 0 10 rfl rfl (by kernel_rfl) (by kernel_rfl) (by kernel_rfl) (fun _ _ _ h => h) rfl (fun w' hw' => er_mv _ rfl (.slice (some ⟨b, o, none⟩) n c) rfl) hS ?_
      simp only [Act.put, List.setIfInBounds_toArray, List.set_cons_zero, List.set_cons_succ]
      refine d_take 1 11 rfl rfl (by kernel_rfl) (by kernel_rfl) (by kernel_rfl) (fun _ _ _ h => h) rfl (fun w' hw' => er_mv _ rfl (.int .i64 ((k + 1 : Nat) : Int)) rfl) hS ?_
      simp only [Act.put, List.setIfInBounds_toArray, List.set_cons_zero, List.set_cons_succ]
      refine d_take 2 12 rfl rfl (by kernel_rfl) (by kernel_rfl) (by kernel_rfl) (fun _ _ _ h => h) rfl (fun w' hw' => er_ixN _ _ rfl b o (k + 1) n c rfl rfl hlt) hS ?_
      simp only [Act.put, List.setIfInBounds_toArray, List.set_cons_zero, List.set_cons_succ]
      refine d_take 3 13 rfl rfl (by kernel_rfl) (by kernel_rfl) (by kernel_rfl) (fun _ _ _ h => h) rfl (fun w' hw' => er_fT _ rfl b (o + (k + 1) * 4) rfl) hS ?_
      simp only [Act.put, List.setIfInBounds_toArray, List.set_cons_zero, List.set_cons_succ]
      refine d_take 4 14 rfl rfl (by kernel_rfl) (by kernel_rfl) (by kernel_rfl) (fun _ _ _ h => h) rfl (fun w' hw' => er_ldi _ rfl b (o + (k + 1) * 4) (.int .i64 x.tk) rfl (X0.out w' hw')) hS ?_
      simp only [Act.put, List.setIfInBounds_toArray, List.set_cons_zero, List.set_cons_succ]
      refine d_take 5 15 rfl rfl (by kernel_rfl) (by kernel_rfl) (by kernel_rfl) (fun _ _ _ h => h) rfl (fun w' hw' => er_mv _ rfl (.slice (some ⟨b, o, none⟩) n c) rfl) hS ?_
      simp only [Act.put, List.setIfInBounds_toArray, List.set_cons_zero, List.set_cons_succ]
      refine d_take 6 16 rfl rfl (by kernel_rfl) (by kernel_rfl) (by kernel_rfl) (fun _ _ _ h => h) rfl (fun w' hw' => er_mv _ rfl (.int .i64 ((k + 1 : Nat) : Int)) rfl) hS ?_
      simp only [Act.put, List.setIfInBounds_toArray, List.set_cons_zero, List.set_cons_succ]
      refine d_take 7 17 rfl rfl (by kernel_rfl) (by kernel_rfl) (by kernel_rfl) (fun _ _ _ h => h) rfl (fun w' hw' => er_subN _ rfl k rfl (by omega)) hS ?_
      simp only [Act.put, List.setIfInBounds_toArray, List.set_cons_zero, List.set_cons_succ]
      refine d_take 8 18 rfl rfl (by kernel_rfl) (by kernel_rfl) (by kernel_rfl) (fun _ _ _ h => h) rfl (fun w' hw' => er_ixN _ _ rfl b o k n c rfl rfl (by omega)) hS ?_
      simp only [Act.put, List.setIfInBounds_toArray, List.set_cons_zero, List.set_cons_succ]
      refine d_take 9 19 rfl rfl (by kernel_rfl) (by kernel_rfl) (by kernel_rfl) (fun _ _ _ h => h) rfl (fun w' hw' => er_fT _ rfl b (o + k * 4) rfl) hS ?_
      simp only [Act.put, List.setIfInBounds_toArray, List.set_cons_zero, List.set_cons_succ]
      refine d_take 10 20 rfl rfl (by kernel_rfl) (by kernel_rfl) (by kernel_rfl) (fun _ _ _ h => h) rfl (fun w' hw' => er_ldi _ rfl b (o + k * 4) (.int .i64 y.tk) rfl (Y0.out w' hw')) hS ?_
      simp only [Act.put, List.setIfInBounds_toArray, List.set_cons_zero, List.set_cons_succ]
      refine d_take 11 21 rfl rfl (by kernel_rfl) (by kernel_rfl) (by kernel_rfl) (fun _ _ _ h => h) rfl (fun w' hw' => er_lssI _ _ rfl x.tk y.tk false rfl rfl ED.out) hS ?_
      simp only [Act.put, List.setIfInBounds_toArray, List.set_cons_zero, List.set_cons_succ]
      refine wpAnyH_done (by kernel_rfl) ?_ _
      have KD := hid (KR.out.trans hS (fun _ e => e.elim))
      clear hS
      go_wp2
      refine ⟨⟨k + 1, by omega, by go_num, KD.out⟩, ?_⟩
      simp [intOf]; omega
    · have hltz : ¬ ((k + 1 : Nat) : Int) < (n : Int) := by omega
      have hltz' : ¬ (k : Int) + 1 < (n : Int) := by omega
      have KR := hid kr
      clear kr
      go_wp2
      go_ret
      exact ⟨rfl, KR.out⟩
end Go.Proofs.YtfdcmhbpnadcpaaDoor
