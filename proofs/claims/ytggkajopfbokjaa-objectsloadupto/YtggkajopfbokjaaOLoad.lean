/-
  objects: Load.
-/
import Derived.Test.YtggkajopfbokjaaOLoadP
namespace Go.Proofs.Ytggkajopfbokjaa
open Go.RowKit
set_option linter.unusedVariables false
set_option maxRecDepth 100000

section
variable {w : World} {a : Act} {o : Oper}
theorem er_lde (x : Operand) (ho : o.op = .load 35 x) (g off : Nat) (v : Value) (hx : a.eval x = .pointer (some ⟨g, off, none⟩)) (hr : w.cell? ⟨g, off, none⟩ = some v) : (execOp a.eval o).run Try.prog w = .ok (.value v) w := by
  simp only [execOp, ho, hx]; simp [go_sem, hr]
theorem er_fS1 (x : Operand) (ho : o.op = .fieldAddr 82 x 1) (g : Nat) (hx : a.eval x = .pointer (some ⟨g, 0, none⟩)) : (execOp a.eval o).run Try.prog w = .ok (.value (.pointer (some ⟨g, 1, none⟩))) w := by simp only [execOp, ho, hx]; simp [go_sem, add_none]
theorem er_fO1 (x : Operand) (ho : o.op = .fieldAddr 55 x 1) (g : Nat) (hx : a.eval x = .pointer (some ⟨g, 0, none⟩)) : (execOp a.eval o).run Try.prog w = .ok (.value (.pointer (some ⟨g, 1, none⟩))) w := by simp only [execOp, ho, hx]; simp [go_sem, add_none]
theorem er_copy (s x : Operand) (ho : o.op = .call { callee := .builtin .copy, args := #[s, x], argTypes := #[35, 35] }) (u v r : Value) {w' : World} (hs : a.eval s = u) (hx : a.eval x = v) (hr : (Builtin.copy_ #[35, 35] o.type #[u, v]).run Try.prog w = .ok r w') : (execOp a.eval o).run Try.prog w = .ok (.value r) w' := by
  simp only [execOp, ho, resolve, invoke, builtin, Sem.run_bind, Sem.run_pure, Result.andThen_ok, List.map_toArray, List.map_cons, List.map_nil, hs, hx, hr]
end
theorem Try.infoPart : (Try.prog.info? 37).map (·.size) = some 21 := by kernel_rfl
def LoadA (w w' : World) (b : Nat) (n : Nat) (p q : Nat → Int) (ne : Nat) (f : Nat → Bool) (nb : Nat) (p' q' : Nat → Int) (xs : Nat → List (List Int)) : Prop := ∃ sv ev bv it ms, St w' w.heap.size b sv ev bv (soFull n p q ne f nb p' q' it ms xs) ∧ Kept No w w'
/-- what Load keeps -/
structure Lw (w wr : World) (A : Array Value) (ts te tb : Value) (b : Nat) (sv ev bv : Value) (S : So) : Prop where
  st : St wr w.heap.size b sv ev bv S
  kept : Kept No w wr
  part : wr.heap[w.heap.size]? = some (.cells A 37)
  told : wr.heap[w.heap.size + 1]? = some (.cells #[ts, te, tb] 55)
namespace Lw
variable {w wr wr' : World} {A : Array Value} {ts te tb : Value} {b : Nat} {sv ev bv : Value} {S S' : So}
theorem keep (h : Lw w wr A ts te tb b sv ev bv S) (K : Kept No wr wr') : Lw w wr' A ts te tb b sv ev bv S := ⟨h.st.keep K, h.kept.trans K (fun _ e => e.elim), K.at' h.part (fun e => e), K.at' h.told (fun e => e)⟩
theorem fo_tag (h : Lw w wr A ts te tb b sv ev bv S) {k : Nat} {cs : Array Value} {t : TypeId} (hk : Fo b sv ev bv S k) (hc : wr.heap[k]? = some (.cells cs t)) : t ≠ 37 ∧ t ≠ 55 := by
  rcases hk with rfl | hk | hk | hk | ⟨i, hi, hk⟩
  · have := two_tags hc h.st.box; subst this; decide
  · obtain ⟨_, cs', h2⟩ := h.st.sems.blk hk
    have := two_tags hc h2; subst this; decide
  · obtain ⟨_, cs', h2⟩ := h.st.evs.blk hk
    have := two_tags hc h2; subst this; decide
  · obtain ⟨_, cs', h2⟩ := h.st.bufs.blk hk
    have := two_tags hc h2; subst this; decide
  · obtain ⟨_, cs', h2⟩ := (h.st.its i hi).blk hk
    have := two_tags hc h2; subst this; decide
theorem did (h : Lw w wr A ts te tb b sv ev bv S) (d : Did wr wr' w.heap.size b sv ev bv S S') : Lw w wr' A ts te tb b sv ev bv S' :=
  ⟨d.1, h.kept.trans d.2.1 (fun k hk => .inr (h.st.fo_blk hk).1), d.2.1.at' h.part (fun e => (h.fo_tag e h.part).1 rfl), d.2.1.at' h.told (fun e => (h.fo_tag e h.told).2 rfl)⟩
end Lw
set_option maxHeartbeats 8000000 in
theorem load_any {F : Nat → Prop} {A : Array Value} {sa ea ba : Option Addr} {n sc ne ec nb bc : Nat} {p q p' q' : Nat → Int} {us0 : List Value} {f0 f : Nat → Bool} {ts te tb : Value} {cs : List Int} {us lvs : List Value} {mss : List (List Value)} {xss : List (List (List Int))} (w : World)
    (hA : A.size = 21) (h18 : A[18]? = some (.slice sa n sc)) (h19 : A[19]? = some (.slice ea ne ec)) (h20 : A[20]? = some (.slice ba nb bc))
    (hs : Pp w F sa n sc p q) (he : Vs w F ea ne ec us0) (hb : Pp w F ba nb bc p' q') (hf0 : ∀ i, i < ne → us0[i]? = some (.bool (f0 i))) (hn : n ≤ 4095) (hne : ne ≤ 4095) (hnb : nb ≤ 4095)
    (ho : Or w F ts te tb cs us lvs mss xss) (hf : ∀ i, i < us.length → us[i]? = some (.bool (f i))) (hx : ∀ xs ∈ xss, xs.length ≤ 1099511627775 ∧ ∀ x ∈ xs, x.length ≤ 17592186044416) :
    Calls Try.prog 12 #[.agg A, .agg #[ts, te, tb]] w fun e w' => (okL n ne nb q p' q' cs us lvs xss ∧ ∃ b, e = .returned (.tuple #[.pointer (some ⟨b, 0, none⟩), .int .i64 0]) ∧ LoadA w w' b n (ck cs p n) q ne f nb p' q' (xf xss nb 0)) ∨ (¬ okL n ne nb q p' q' cs us lvs xss ∧ e = .returned (.tuple #[.pointer none, .int .i64 20]) ∧ Kept No w w') := by
  obtain ⟨ta, tc, rfl, hts⟩ := ho.sems
  obtain ⟨va, vc, rfl, hvs⟩ := ho.evs
  obtain ⟨la, lc, rfl, hls⟩ := ho.bufs
  have htc := hts.cap
  have htm := hts.max
  have hlc := hls.cap
  have hlm := hls.max
  have HS : Hid ((w.alloc (.cells A 37)).heap.size = w.heap.size + 1) := World.size_alloc _ _
  have K1 : Kept No w ((w.alloc (.cells A 37)).alloc (.cells #[.slice ta cs.length tc, .slice va us.length vc, .slice la lvs.length lc] 55)) := ((Kept.refl No w).alloc _).alloc _
  have hB : ((w.alloc (.cells A 37)).alloc (.cells #[.slice ta cs.length tc, .slice va us.length vc, .slice la lvs.length lc] 55)).heap[w.heap.size]? = some (.cells A 37) := ((Kept.refl No _).alloc _).at' (alloc_new w _) (fun e => e)
  have hC : ((w.alloc (.cells A 37)).alloc (.cells #[.slice ta cs.length tc, .slice va us.length vc, .slice la lvs.length lc] 55)).heap[w.heap.size + 1]? = some (.cells #[.slice ta cs.length tc, .slice va us.length vc, .slice la lvs.length lc] 55) := by
    have := alloc_new (w.alloc (.cells A 37)) (.cells #[.slice ta cs.length tc, .slice va us.length vc, .slice la lvs.length lc] 55)
    rwa [World.size_alloc] at this
  have c18 : ((w.alloc (.cells A 37)).alloc (.cells #[.slice ta cs.length tc, .slice va us.length vc, .slice la lvs.length lc] 55)).cell? ⟨w.heap.size, 18, none⟩ = some (.slice sa n sc) := (cell_of_row _ _ 18 _ _ _ hB).trans h18
  have c19 : ((w.alloc (.cells A 37)).alloc (.cells #[.slice ta cs.length tc, .slice va us.length vc, .slice la lvs.length lc] 55)).cell? ⟨w.heap.size, 19, none⟩ = some (.slice ea ne ec) := (cell_of_row _ _ 19 _ _ _ hB).trans h19
  have c20 : ((w.alloc (.cells A 37)).alloc (.cells #[.slice ta cs.length tc, .slice va us.length vc, .slice la lvs.length lc] 55)).cell? ⟨w.heap.size, 20, none⟩ = some (.slice ba nb bc) := (cell_of_row _ _ 20 _ _ _ hB).trans h20
  have d0 : ((w.alloc (.cells A 37)).alloc (.cells #[.slice ta cs.length tc, .slice va us.length vc, .slice la lvs.length lc] 55)).cell? ⟨w.heap.size + 1, 0, none⟩ = some (.slice ta cs.length tc) := (cell_of_row _ _ 0 _ _ _ hC).trans rfl
  have d1 : ((w.alloc (.cells A 37)).alloc (.cells #[.slice ta cs.length tc, .slice va us.length vc, .slice la lvs.length lc] 55)).cell? ⟨w.heap.size + 1, 1, none⟩ = some (.slice va us.length vc) := (cell_of_row _ _ 1 _ _ _ hC).trans rfl
  have d2 : ((w.alloc (.cells A 37)).alloc (.cells #[.slice ta cs.length tc, .slice va us.length vc, .slice la lvs.length lc] 55)).cell? ⟨w.heap.size + 1, 2, none⟩ = some (.slice la lvs.length lc) := (cell_of_row _ _ 2 _ _ _ hC).trans rfl
  have HK : Hid (Kept No w ((w.alloc (.cells A 37)).alloc (.cells #[.slice ta cs.length tc, .slice va us.length vc, .slice la lvs.length lc] 55)) ∧ ((w.alloc (.cells A 37)).alloc (.cells #[.slice ta cs.length tc, .slice va us.length vc, .slice la lvs.length lc] 55)).heap[w.heap.size]? = some (.cells A 37) ∧ ((w.alloc (.cells A 37)).alloc (.cells #[.slice ta cs.length tc, .slice va us.length vc, .slice la lvs.length lc] 55)).heap[w.heap.size + 1]? = some (.cells #[.slice ta cs.length tc, .slice va us.length vc, .slice la lvs.length lc] 55)) := ⟨K1, hB, hC⟩
  have NW : Hid (∀ W, Kept No w W → Calls Try.prog 6 #[.agg A] W fun e w' => ∃ b, e = .returned (.pointer (some ⟨b, 0, none⟩)) ∧ NewA W w' b (soNew n p q ne f0 nb p' q')) := fun W k => new_any W hA h18 h19 h20 (hs.kept k (fun _ _ e => e)) (he.kept k (fun _ _ e => e)) (hb.kept k (fun _ _ e => e)) hf0 hn hne hnb
  have HO : Hid (Or w F (.slice ta cs.length tc) (.slice va us.length vc) (.slice la lvs.length lc) cs us lvs mss xss ∧ (∀ i, i < us.length → us[i]? = some (.bool (f i))) ∧ (∀ xs ∈ xss, xs.length ≤ 1099511627775 ∧ ∀ x ∈ xs, x.length ≤ 17592186044416) ∧ A.size = 21) := ⟨ho, hf, hx, hA⟩
  clear K1 hB hC hts hvs hls ho hf hx h18 h19 h20 hs he hb hf0
  go_enter Try.func12, Try.ntmps12
  go_upto_region 1 with fail
  clear hA
  generalize ((w.alloc (.cells A 37)).alloc (.cells #[.slice ta cs.length tc, .slice va us.length vc, .slice la lvs.length lc] 55)) = w1 at *
  by_cases q1 : cs.length = n
  · by_cases q2 : us.length = ne
    · by_cases q3 : lvs.length = nb
      · subst q1 q2 q3
        have q1' : ((cs.length : Int) != (cs.length : Int)) = false := by simp
        have q2' : ((us.length : Int) != (us.length : Int)) = false := by simp
        have q3' : ((lvs.length : Int) != (lvs.length : Int)) = false := by simp
        go_upto_region 3 with fail
        clear c18 c19 c20 d0 d1 d2 q1' q2' q3'
        refine wp_region_lit ?_
        refine wpList_load_row rfl 37 (.tmp 2) rfl w.heap.size rfl _ A (0, 0) _ HK.out.2.1 Try.underlying37 rfl (by rw [HO.out.2.2.2]; exact Try.infoPart) ?_
        simp only [Act.put, List.setIfInBounds_toArray, List.set_cons_zero, List.set_cons_succ]
        go_upto_region 4 with (go_at_call 6; refine (NW.out _ HK.out.1).mono ?_; rintro e w2 ⟨b, rfl, hnw⟩; have HN := hid hnw; clear hnw NW)
        obtain ⟨sv, ev, bv, hst, hk2⟩ := HN.out
        have L0 : Lw w w2 A (.slice ta cs.length tc) (.slice va us.length vc) (.slice la lvs.length lc) b sv ev bv (soNew cs.length (ck cs p 0) q us.length f0 lvs.length p' q') := ⟨hst.base HK.out.1.size, HK.out.1.trans hk2 (fun _ e => e.elim), hk2.at' HK.out.2.1 (fun e => e), hk2.at' HK.out.2.2 (fun e => e)⟩
        have HL0 := hid L0
        obtain ⟨a0, s0, rfl, hs1, hs2⟩ := hst.sems.shape
        obtain ⟨a1, s1, rfl, _⟩ := hst.evs.shape
        obtain ⟨a2, s2, rfl, _⟩ := hst.bufs.shape
        have d0 : w2.cell? ⟨w.heap.size + 1, 0, none⟩ = some (.slice ta cs.length tc) := (cell_of_row _ _ 0 _ _ _ L0.told).trans rfl
        clear hst hk2 HN HK L0
        go_wp2
        clear d0
        go_loopw [45] (fun x wr => ∃ (k : Nat), k ≤ cs.length ∧ x = .int .i64 k ∧ Lw w wr A (.slice ta cs.length tc) (.slice va us.length vc) (.slice la lvs.length lc) b (.slice a0 (soNew cs.length p q us.length f0 lvs.length p' q').ns s0) (.slice a1 (soNew cs.length p q us.length f0 lvs.length p' q').ne s1) (.slice a2 (soNew cs.length p q us.length f0 lvs.length p' q').nb s2) (soNew cs.length (ck cs p k) q us.length f0 lvs.length p' q') ∧ ∀ i, i < k → 0 ≤ cs.getD i 0 ∧ cs.getD i 0 ≤ q i) (fun x _ => cs.length - (intOf x).toNat)
        case atStart => exact ⟨0, Nat.zero_le _, rfl, HL0.out, fun i hi => by omega⟩
        case round =>
          clear HL0
          obtain ⟨k, hk, rfl, hlw, hok⟩ := hrel
          have HL := hid hlw
          have HOK := hid hok
          clear hlw hok
          by_cases hlt : k < cs.length
          · have hltz : (k : Int) < (cs.length : Int) := by omega
            obtain ⟨_, _, hzv, hzs⟩ := HO.out.1.sems
            injection hzv with e1 _ e2
            subst e1 e2
            obtain ⟨zb, zo, rfl, _, ez⟩ := (hzs.kept HL.out.kept (fun _ _ e => e)).at' k hlt
            have ez' : wr.cell? ⟨zb, zo + k, none⟩ = some (.int .i64 (cs.getD k 0)) := ez
            obtain ⟨g, cap, hgv, _, _, hgo, hce, hfz⟩ := HL.out.st.sems.look (i := k) hlt
            injection hgv with e1 _ e2
            subst e1 e2
            have m1 : wr.cell? ⟨g, k * 2 + 1, none⟩ = some (.int .i64 (q k)) := hce 1 (by decide)
            have m0 : wr.cell? ⟨g, k * 2, none⟩ = some (.int .i64 (ck cs p k k)) := hce 0 (by decide)
            have fz := hfz (k * 2)
            have b0 := HL.out.st.cells.1
            have HP : Hid (Lw w (wr.setCell ⟨g, k * 2, none⟩ (.int .i64 (cs.getD k 0))) A (.slice (some ⟨zb, zo, none⟩) cs.length tc) (.slice va us.length vc) (.slice la lvs.length lc) b (.slice (some ⟨g, 0, none⟩) (soNew cs.length p q us.length f0 lvs.length p' q').ns s0) (.slice a1 (soNew cs.length p q us.length f0 lvs.length p' q').ne s1) (.slice a2 (soNew cs.length p q us.length f0 lvs.length p' q').nb s2) (soNew cs.length (ck cs p (k + 1)) q us.length f0 lvs.length p' q')) := by
              rw [← ck_succ]
              exact HL.out.did (HL.out.st.sem_put hgo (cs.getD k 0))
            clear hce hfz hzs hgo ez
            generalize hcx : cs.getD k 0 = x at *
            have HX := hid hcx
            generalize ck cs p k k = y at *
            clear hcx
            by_cases hneg : x < 0
            · go_wp2
              go_ret2
              exact .inr ⟨fun h => by have h3 := (h.2.2.2.1 k hlt).1; rw [HX.out] at h3; omega, rfl, HL.out.kept⟩
            · by_cases hgt : q k < x
              · go_wp2
                go_ret2
                exact .inr ⟨fun h => by have h3 := (h.2.2.2.1 k hlt).2; rw [HX.out] at h3; omega, rfl, HL.out.kept⟩
              · go_wp2
                go_roundw
                case rel =>
                  refine ⟨k + 1, by omega, by go_num, HP.out, fun i hi => ?_⟩
                  by_cases hik : i < k
                  · exact HOK.out i hik
                  · have : i = k := by omega
                    subst this
                    rw [HX.out]
                    omega
                case measure => simp [intOf]; omega
          · have hltz : ¬ (k : Int) < (cs.length : Int) := by omega
            have hkn : k = cs.length := by omega
            subst hkn
            go_upto_region 11 with fail
            obtain ⟨_, _, hvv, hvs⟩ := HO.out.1.evs
            injection hvv with e1 _ e2
            subst e1 e2
            have HLd := HL.out.keep ((Kept.refl No wr).drew)
            obtain ⟨r, wc, hcopy, hrc, kcp⟩ := run_copy_ev HLd.st.evs hne (hvs.kept HLd.kept (fun _ _ e => e)) HO.out.2.1 3
            have L2 := hid (HLd.did (HLd.st.ev_turn kcp hrc))
            have hSd : wr.drew.cell? ⟨b, 1, none⟩ = some _ ∧ wr.drew.cell? ⟨w.heap.size + 1, 1, none⟩ = some _ := ⟨HLd.st.cells.2.1, (cell_of_row _ _ 1 _ _ _ HLd.told).trans rfl⟩
            have hSc : wc.cell? ⟨b, 1, none⟩ = some _ ∧ wc.cell? ⟨w.heap.size + 1, 1, none⟩ = some _ := ⟨L2.out.st.cells.2.1, (cell_of_row _ _ 1 _ _ _ L2.out.told).trans rfl⟩
            clear hrc kcp hvs HLd HL
            refine wp_region_held_drew (S := fun w' => w'.cell? ⟨b, 1, none⟩ = some (.slice a1 (soNew cs.length p q us.length f0 lvs.length p' q').ne s1) ∧ w'.cell? ⟨w.heap.size + 1, 1, none⟩ = some (.slice va us.length vc)) (by kernel_rfl) hSd (fun hS => ?_)
            clear hSd
            refine d_take 0 73 rfl rfl (by kernel_rfl) (by kernel_rfl) (by kernel_rfl) (fun _ _ _ h => h) rfl (fun w' hw' => er_mv _ rfl (.pointer (some ⟨b, 0, none⟩)) rfl) hS ?_
            simp only [Act.put, List.setIfInBounds_toArray, List.set_cons_zero, List.set_cons_succ]
            refine d_take 1 74 rfl rfl (by kernel_rfl) (by kernel_rfl) (by kernel_rfl) (fun _ _ _ h => h) rfl (fun w' hw' => er_nil _ rfl ⟨b, 0, none⟩ rfl) hS ?_
            simp only [Act.put, List.setIfInBounds_toArray, List.set_cons_zero, List.set_cons_succ]
            refine d_take 2 75 rfl rfl (by kernel_rfl) (by kernel_rfl) (by kernel_rfl) (fun _ _ _ h => h) rfl (fun w' hw' => er_fS1 _ rfl b rfl) hS ?_
            simp only [Act.put, List.setIfInBounds_toArray, List.set_cons_zero, List.set_cons_succ]
            refine d_take 4 77 rfl rfl (by kernel_rfl) (by kernel_rfl) (by kernel_rfl) (fun _ _ _ h => h) rfl (fun w' hw' => er_fO1 _ rfl (w.heap.size + 1) rfl) hS ?_
            simp only [Act.put, List.setIfInBounds_toArray, List.set_cons_zero, List.set_cons_succ]
            refine d_take 3 76 rfl rfl (by kernel_rfl) (by kernel_rfl) (by kernel_rfl) (fun _ _ _ h => h) rfl (fun w' hw' => er_lde _ rfl b 1 _ rfl hw'.1) hS ?_
            simp only [Act.put, List.setIfInBounds_toArray, List.set_cons_zero, List.set_cons_succ]
            refine d_take 5 78 rfl rfl (by kernel_rfl) (by kernel_rfl) (by kernel_rfl) (fun _ _ _ h => h) rfl (fun w' hw' => er_lde _ rfl (w.heap.size + 1) 1 _ rfl hw'.2) hS ?_
            simp only [Act.put, List.setIfInBounds_toArray, List.set_cons_zero, List.set_cons_succ]
            refine d_make 6 79 (by kernel_rfl) rfl rfl rfl (er_copy (.tmp 76) (.tmp 78) rfl _ _ r rfl rfl hcopy) hSc ?_
            simp only [Act.put, List.setIfInBounds_toArray, List.set_cons_zero, List.set_cons_succ]
            refine wpAnyH_done (by kernel_rfl) ?_ _
            clear hS hSc hcopy
            have HL : Hid (Lw w wc A (.slice ta cs.length tc) (.slice va us.length vc) (.slice la lvs.length lc) b (.slice a0 cs.length s0) (.slice a1 us.length s1) (.slice a2 lvs.length s2) (soFull cs.length (ck cs p cs.length) q us.length f lvs.length p' q' (fun _ => .slice none 0 0) (fun _ => []) (xf xss 0 0))) := by
              rw [xf_start]
              exact L2.out
            clear L2
            have d2 : wc.cell? ⟨w.heap.size + 1, 2, none⟩ = some (.slice la lvs.length lc) := (cell_of_row _ _ 2 _ _ _ HL.out.told).trans rfl
            go_wp2
            clear d2
            go_loopw [83] (fun x wr => ∃ (m : Nat) (it : Nat → Value) (ms : Nat → List Value), m ≤ lvs.length ∧ x = .int .i64 m ∧ Lw w wr A (.slice ta cs.length tc) (.slice va us.length vc) (.slice la lvs.length lc) b (.slice a0 cs.length s0) (.slice a1 us.length s1) (.slice a2 lvs.length s2) (soFull cs.length (ck cs p cs.length) q us.length f lvs.length p' q' it ms (xf xss m 0)) ∧ ∀ i, i < m → okB (xss.getD i []) (p' i) (q' i)) (fun x _ => lvs.length - (intOf x).toNat)
            case atStart => exact ⟨0, _, _, Nat.zero_le _, rfl, HL.out, fun i hi => by omega⟩
            case round =>
              clear HL
              obtain ⟨m, it, ms, hm, rfl, hlw, hok⟩ := hrel
              have HL := hid hlw
              have HOB := hid hok
              clear hlw hok
              by_cases hlt : m < lvs.length
              · have hltz : (m : Int) < (lvs.length : Int) := by omega
                obtain ⟨_, _, hzv, hzs⟩ := HO.out.1.bufs
                injection hzv with e1 _ e2
                subst e1 e2
                have g1 : lvs[m]? = some lvs[m] := List.getElem?_eq_getElem hlt
                have hl1 : m < mss.length := by rw [HO.out.1.len1]; exact hlt
                have hl2 : m < xss.length := by rw [HO.out.1.len2]; exact hlt
                have g2 : mss[m]? = some mss[m] := List.getElem?_eq_getElem hl1
                have g3 : xss[m]? = some xss[m] := List.getElem?_eq_getElem hl2
                have g4 : xss.getD m [] = xss[m] := by simp [List.getD, hl2]
                obtain ⟨⟨na, nc, hlv, hns⟩, hxl, hmsg⟩ := HO.out.1.ent m _ _ _ g1 g2 g3
                obtain ⟨zb, zo, rfl, _, ez⟩ := (hzs.kept HL.out.kept (fun _ _ e => e)).at' m _ g1
                rw [hlv] at ez
                have hbx := HO.out.2.2.1 _ (List.mem_of_getElem? g3)
                generalize mss[m] = ns at *
                generalize xss[m] = xs at *
                have hnc := hns.cap
                have hnm := hns.max
                have HE : Hid (Vs w F na ns.length nc ns ∧ xs.length = ns.length ∧ (∀ (j : Nat) (v : Value) (x : List Int), ns[j]? = some v → xs[j]? = some x → ∃ a c, v = .slice a x.length c ∧ Zs w F a x.length c x) ∧ (xs.length ≤ 1099511627775 ∧ ∀ x ∈ xs, x.length ≤ 17592186044416) ∧ xss.getD m [] = xs) := ⟨hns, hxl, hmsg, hbx, g4⟩
                have hnl : ns.length ≤ 1099511627775 := by rw [← hxl]; exact hbx.1
                clear g1 g2 g3 g4 hns hxl hmsg hbx hlv hzs hl1 hl2
                go_upto_region 16 with fail
                clear ez
                go_loopw [90] (fun x wr => ∃ (j : Nat) (it : Nat → Value) (ms : Nat → List Value), j ≤ ns.length ∧ x = .int .i64 j ∧ Lw w wr A (.slice ta cs.length tc) (.slice va us.length vc) (.slice (some ⟨zb, zo, none⟩) lvs.length lc) b (.slice a0 cs.length s0) (.slice a1 us.length s1) (.slice a2 lvs.length s2) (soFull cs.length (ck cs p cs.length) q us.length f lvs.length p' q' it ms (xf xss m j)) ∧ ∀ i, i < j → (i : Int) < q' m ∧ ((xs.getD i []).length : Int) = p' m) (fun x _ => ns.length - (intOf x).toNat)
                case atStart => exact ⟨0, _, _, Nat.zero_le _, rfl, HL.out, fun i hi => by omega⟩
                case round =>
                  clear HL
                  obtain ⟨j, it, ms, hj, rfl, hlw, hok⟩ := hrel
                  have HL := hid hlw
                  have HOJ := hid hok
                  clear hlw hok
                  by_cases hlt3 : j < ns.length
                  · have hltz3 : (j : Int) < (ns.length : Int) := by omega
                    have hjx : j < xs.length := by rw [HE.out.2.1]; exact hlt3
                    have g1 : ns[j]? = some ns[j] := List.getElem?_eq_getElem hlt3
                    have g2 : xs[j]? = some xs[j] := List.getElem?_eq_getElem hjx
                    have g4 : xs.getD j [] = xs[j] := by simp [List.getD, hjx]
                    obtain ⟨xa, xc, hv, hzx⟩ := HE.out.2.2.1 j _ _ g1 g2
                    obtain ⟨nb', no, rfl, _, en⟩ := (HE.out.1.kept HL.out.kept (fun _ _ e => e)).at' j _ g1
                    rw [hv] at en
                    have hx17 := HE.out.2.2.2.1.2 _ (List.mem_of_getElem? g2)
                    generalize xs[j] = x at *
                    have hz' := hzx.kept HL.out.kept (fun _ _ e => e)
                    have hst := HL.out.st
                    have hxfj : xf xss m j m = xs.take j := by rw [xf_at, HE.out.2.2.2.2]
                    have hml : (ms m).length = j := by
                      have h1 : (xf xss m j m).length = (ms m).length := hst.len m hlt
                      rw [hxfj, List.length_take] at h1
                      omega
                    clear g1 hv hzx
                    have hnb4 : lvs.length ≤ 1048576 := by omega
                    by_cases hsz : (x.length : Int) = p' m
                    · by_cases hdp : (j : Int) < q' m
                      · have PY : Hid (Calls Try.prog 9 #[.pointer (some ⟨b, 0, none⟩), .int .i64 ((m : Int) + 1), .slice xa x.length xc] wr fun e w' => e = .returned (.tuple #[.bool true, .int .i64 0]) ∧ Puts wr w' w.heap.size b (.slice a0 cs.length s0) (.slice a1 us.length s1) (.slice a2 lvs.length s2) (soFull cs.length (ck cs p cs.length) q us.length f lvs.length p' q' it ms (xf xss m j)) m x) := put_yes wr hst (i := m) hlt hnb4 hz' hsz (by show ((ms m).length : Int) < q' m; rw [hml]; exact hdp) (by show (ms m).length + 1 ≤ _; rw [hml]; omega) hx17
                        have HX : Hid (xf xss m j m = xs.take j ∧ (xss.getD m [])[j]? = some x ∧ xs.getD j [] = x) := ⟨hxfj, by rw [HE.out.2.2.2.2]; exact g2, g4⟩
                        clear hz' hst hxfj hml hnb4 g2 g4 hx17
                        go_wp2_with (go_at_call 9; refine PY.out.mono ?_; rintro e w5 ⟨rfl, p5⟩; have P5 := hid p5; clear p5 PY)
                        go_roundw
                        case rel =>
                          obtain ⟨it', mv, d⟩ := P5.out
                          have L5 := HL.out.did d
                          refine ⟨j + 1, upd it m it', upd ms m (ms m ++ [mv]), by omega, by go_num, ?_, fun i hi => ?_⟩
                          · rw [← xf_more xss m j HX.out.2.1, HE.out.2.2.2.2, ← HX.out.1]
                            exact L5
                          · by_cases hij : i < j
                            · exact HOJ.out i hij
                            · have : i = j := by omega
                              subst this
                              rw [HX.out.2.2]
                              exact ⟨hdp, hsz⟩
                        case measure => simp [intOf]; omega
                      · have PF : Hid (Calls Try.prog 9 #[.pointer (some ⟨b, 0, none⟩), .int .i64 ((m : Int) + 1), .slice xa x.length xc] wr fun e w' => e = .returned (.tuple #[.bool false, .int .i64 0]) ∧ Kept No wr w') := put_full wr hst (i := m) hlt hnb4 hz' hsz (by show q' m ≤ ((ms m).length : Int); rw [hml]; omega) hx17
                        have HX : Hid (xss.getD m [] = xs) := HE.out.2.2.2.2
                        clear hz' hst hxfj hml hnb4 g2 g4 hx17
                        go_wp2_with (go_at_call 9; refine PF.out.mono ?_; rintro e w5 ⟨rfl, k5⟩; have K5 := hid k5; clear k5 PF)
                        go_ret2
                        exact .inr ⟨fun h => by have h3 := (h.2.2.2.2 m hlt); rw [HX.out] at h3; have := (h3 j hjx).1; omega, rfl, HL.out.kept.trans K5.out (fun _ e => e.elim)⟩
                    · have PB : Hid (Calls Try.prog 9 #[.pointer (some ⟨b, 0, none⟩), .int .i64 ((m : Int) + 1), .slice xa x.length xc] wr fun e w' => e = .returned (.tuple #[.bool false, .int .i64 2]) ∧ Kept No wr w') := put_bad wr hst (i := m) hlt hnb4 xa x.length xc hsz
                      have HX : Hid (xss.getD m [] = xs ∧ xs.getD j [] = x) := ⟨HE.out.2.2.2.2, g4⟩
                      clear hz' hst hxfj hml hnb4 g2 g4 hx17
                      go_wp2_with (go_at_call 9; refine PB.out.mono ?_; rintro e w5 ⟨rfl, k5⟩; have K5 := hid k5; clear k5 PB)
                      go_ret2
                      exact .inr ⟨fun h => by have h3 := (h.2.2.2.2 m hlt); rw [HX.out.1] at h3; have h4 := (h3 j hjx).2; rw [HX.out.2] at h4; exact hsz h4, rfl, HL.out.kept.trans K5.out (fun _ e => e.elim)⟩
                  · have hltz3 : ¬ (j : Int) < (ns.length : Int) := by omega
                    have hjn : j = ns.length := by omega
                    go_wp2
                    go_roundw
                    case rel =>
                      refine ⟨m + 1, it, ms, by omega, by go_num, ?_, fun i hi => ?_⟩
                      · rw [← xf_next xss m j (by rw [HE.out.2.2.2.2, HE.out.2.1]; exact hjn)]
                        exact HL.out
                      · by_cases him : i < m
                        · exact HOB.out i him
                        · have : i = m := by omega
                          subst this
                          rw [HE.out.2.2.2.2]
                          exact fun c hc => HOJ.out c (by have := HE.out.2.1; omega)
                    case measure => simp [intOf]; omega
              · have hltz : ¬ (m : Int) < (lvs.length : Int) := by omega
                have hmn : m = lvs.length := by omega
                subst hmn
                go_wp2
                go_ret2
                exact .inl ⟨⟨rfl, rfl, rfl, HOK.out, HOB.out⟩, b, rfl, _, _, _, it, ms, HL.out.st, HL.out.kept⟩
      · have q3' : ((lvs.length : Int) != (nb : Int)) = true := by simp; omega
        have q1' : ((cs.length : Int) != (n : Int)) = false := by simp; omega
        have q2' : ((us.length : Int) != (ne : Int)) = false := by simp; omega
        go_wp2
        go_ret2
        exact .inr ⟨fun h => q3 h.2.2.1, rfl, HK.out.1⟩
    · have q1' : ((cs.length : Int) != (n : Int)) = false := by simp; omega
      have q2' : ((us.length : Int) != (ne : Int)) = true := by simp; omega
      go_wp2
      go_ret2
      exact .inr ⟨fun h => q2 h.2.1, rfl, HK.out.1⟩
  · have q1' : ((cs.length : Int) != (n : Int)) = true := by simp; omega
    go_wp2
    go_ret2
    exact .inr ⟨fun h => q1 h.1, rfl, HK.out.1⟩
end Go.Proofs.Ytggkajopfbokjaa
