/-
  The document's Load.
-/
import Derived.Test.YtggkajopfbokjaaORefB
namespace Go.Proofs.Ytggkajopfbokjaa
open Go.RowKit
set_option linter.unusedVariables false
set_option maxRecDepth 100000

theorem results_ct {P : Program} {fn : Func} {p q : Tmp} {ty : TypeId} (h : fn.results = #[.cell p ty, .tmp q]) (tmps : Array Value) (w : World) (g : Nat) (v u : Value)
    (hp : tmps.getD p undef = .pointer (some ⟨g, 0, none⟩)) (hq : tmps.getD q undef = u) (hl : (loadVar ty ⟨g, 0, none⟩).run P w = .ok v w) : (results fn tmps).run P w = .ok (.tuple #[v, u]) w := by
  have hp' : tmps[p]?.getD undef = .pointer (some ⟨g, 0, none⟩) := by simpa using hp
  have hq' : tmps[q]?.getD undef = u := by simpa using hq
  simp [results, h, hp', hq', asAddr, hl]
theorem ldOS {w : World} {q : Nat} {cs : Array Value} (hs : cs.size = 3) (h : w.heap[q]? = some (.cells cs 55)) : (loadVar 55 ⟨q, 0, none⟩).run Try.prog w = .ok (.agg cs) w :=
  run_loadVar_row (P := Try.prog) w q 55 55 _ (0, 0) _ h Try.underlying55 rfl (by rw [hs]; exact Try.infoOS)
theorem Ll.baseB {w : World} {B B' : Nat} {tb : Value} {lvs : List Value} {mss : List (List Value)} {xss : List (List (List Int))} (h : Lb w B tb lvs mss xss) (hB : B' ≤ B) : Lb w B' tb lvs mss xss :=
  ⟨owns_base h.own hB, h.len1, h.len2, fun i lv ms xs h1 h2 h3 => (h.ent i lv ms xs h1 h2 h3).base hB, h.far⟩
/-- what the document's Load keeps -/
def Rl (w wr : World) (A src : Array Value) : Prop := Kept No w wr ∧ wr.heap[w.heap.size]? = some (.cells A 37) ∧ wr.heap[w.heap.size + 1]? = some (.cells src 55) ∧ wr.heap[w.heap.size + 2]? = some (.cells #[.slice none 0 0, .slice none 0 0, .slice none 0 0] 55)
theorem Rl.keep {w wr wr' : World} {A src : Array Value} (h : Rl w wr A src) (K : Kept No wr wr') : Rl w wr' A src := ⟨h.1.trans K (fun _ e => e.elim), K.at' h.2.1 (fun e => e), K.at' h.2.2.1 (fun e => e), K.at' h.2.2.2 (fun e => e)⟩
section
variable {w : World} {a : Act} {o : Oper}
theorem er_fP10 (x : Operand) (ho : o.op = .fieldAddr 37 x 10) (g : Nat) (hx : a.eval x = .pointer (some ⟨g, 0, none⟩)) : (execOp a.eval o).run Try.prog w = .ok (.value (.pointer (some ⟨g, 20, none⟩))) w := by simp only [execOp, ho, hx]; simp [go_sem, add_none]
theorem er_ldAB (x : Operand) (ho : o.op = .load 28 x) (g off : Nat) (v : Value) (hx : a.eval x = .pointer (some ⟨g, off, none⟩)) (hr : w.cell? ⟨g, off, none⟩ = some v) : (execOp a.eval o).run Try.prog w = .ok (.value v) w := by
  simp only [execOp, ho, hx]; simp [go_sem, hr]
theorem er_ixAB (x y : Operand) (ho : o.op = .indexAddr 28 x y) (g off i n c : Nat) (hx : a.eval x = .slice (some ⟨g, off, none⟩) n c) (hy : a.eval y = .int .i64 (i : Int)) (hi : i < n) : (execOp a.eval o).run Try.prog w = .ok (.value (.pointer (some ⟨g, off + i * 2, none⟩))) w := by
  simp only [execOp, ho, hx, hy]; simp [go_sem, add_none, hi]
theorem er_ldB2 (x : Operand) (ho : o.op = .load 27 x) (g off : Nat) (u v : Value) (hx : a.eval x = .pointer (some ⟨g, off, none⟩)) (h0 : w.cell? ⟨g, off, none⟩ = some u) (h1 : w.cell? ⟨g, off + 1, none⟩ = some v) : (execOp a.eval o).run Try.prog w = .ok (.value (.agg #[u, v])) w := by
  simp only [execOp, ho, hx]; simp [go_sem, add_none, h0, h1]
theorem er_c_bf (x y : Operand) (t t' : TypeId) (ho : o.op = .call { callee := .value (.func 37), args := #[x, y], argTypes := #[t, t'] }) (v u : Value) (hx : a.eval x = v) (hy : a.eval y = u) : (execOp a.eval o).run Try.prog w = .ok (.enter 37 #[v, u]) w := by
  subst hx hy
  simp [execOp, ho, go_sem, Act.eval]
end
set_option maxHeartbeats 8000000 in
theorem rload_any {F : Nat → Prop} {A : Array Value} {sa ea ba : Option Addr} {n sc ne ec nb bc : Nat} {p q p' q' : Nat → Int} {ts te tb : Value} {cs : List Int} {us lvs : List Value} {mss : List (List Value)} {xss : List (List (List Int))} (w : World)
    (hA : A.size = 21) (h18 : A[18]? = some (.slice sa n sc)) (h19 : A[19]? = some (.slice ea ne ec)) (h20 : A[20]? = some (.slice ba nb bc))
    (hs : Pp w F sa n sc p q) (hb : Pp w F ba nb bc p' q') (hn : n ≤ 4095) (hne : ne ≤ 4095) (hnb : nb ≤ 4095)
    (ho : Or w F ts te tb cs us lvs mss xss) (h1 : ∀ u ∈ us, u.oneCell' = true) (hx : ∀ xs ∈ xss, xs.length ≤ 1099511627775 ∧ ∀ x ∈ xs, x.length ≤ 17592186044416) :
    Calls Try.prog 19 #[.agg A, .agg #[ts, te, tb]] w fun e w' => (okL n ne nb q p' q' cs us lvs xss ∧ ∃ ts' te' tb', e = .returned (.tuple #[.agg #[ts', te', tb'], .int .i64 0]) ∧ Ow w w' ts' te' tb' cs us xss) ∨ (¬ okL n ne nb q p' q' cs us lvs xss ∧ e = .returned (.tuple #[.agg #[.slice none 0 0, .slice none 0 0, .slice none 0 0], .int .i64 20]) ∧ Kept No w w') := by
  obtain ⟨ta, tc, rfl, hts⟩ := ho.sems
  obtain ⟨va, vc, rfl, hvs⟩ := ho.evs
  obtain ⟨la, lc, rfl, hls⟩ := ho.bufs
  have htc := hts.cap
  have htm := hts.max
  have hlc := hls.cap
  have hlm := hls.max
  have hsc := hs.cap
  have hsm := hs.max
  have hbc := hb.cap
  have hbm := hb.max
  have B1 : Hid (Rl w (((w.alloc (.cells A 37)).alloc (.cells #[.slice ta cs.length tc, .slice va us.length vc, .slice la lvs.length lc] 55)).alloc (.cells #[.slice none 0 0, .slice none 0 0, .slice none 0 0] 55)) A #[.slice ta cs.length tc, .slice va us.length vc, .slice la lvs.length lc]) := by
    refine ⟨(((Kept.refl No w).alloc _).alloc _).alloc _, (((Kept.refl No _).alloc _).alloc _).at' (alloc_new w _) (fun e => e), ?_, ?_⟩
    · have h5 := alloc_new (w.alloc (.cells A 37)) (.cells #[.slice ta cs.length tc, .slice va us.length vc, .slice la lvs.length lc] 55)
      rw [World.size_alloc] at h5
      exact ((Kept.refl No _).alloc _).at' h5 (fun e => e)
    · have h5 := alloc_new ((w.alloc (.cells A 37)).alloc (.cells #[.slice ta cs.length tc, .slice va us.length vc, .slice la lvs.length lc] 55)) (.cells #[.slice none 0 0, .slice none 0 0, .slice none 0 0] 55)
      rw [World.size_alloc, World.size_alloc] at h5
      exact h5
  have BC : Hid (∀ W, Rl w W A #[.slice ta cs.length tc, .slice va us.length vc, .slice la lvs.length lc] → (W.cell? ⟨w.heap.size, 18, none⟩ = some (.slice sa n sc) ∧ W.cell? ⟨w.heap.size, 19, none⟩ = some (.slice ea ne ec) ∧ W.cell? ⟨w.heap.size, 20, none⟩ = some (.slice ba nb bc)) ∧ (W.cell? ⟨w.heap.size + 1, 0, none⟩ = some (.slice ta cs.length tc) ∧ W.cell? ⟨w.heap.size + 1, 1, none⟩ = some (.slice va us.length vc) ∧ W.cell? ⟨w.heap.size + 1, 2, none⟩ = some (.slice la lvs.length lc)) ∧ (W.cell? ⟨w.heap.size + 2, 0, none⟩ = some (.slice none 0 0) ∧ W.cell? ⟨w.heap.size + 2, 1, none⟩ = some (.slice none 0 0) ∧ W.cell? ⟨w.heap.size + 2, 2, none⟩ = some (.slice none 0 0)) ∧ (W.frozen? ⟨w.heap.size + 2, 0, none⟩ = false ∧ W.frozen? ⟨w.heap.size + 2, 1, none⟩ = false ∧ W.frozen? ⟨w.heap.size + 2, 2, none⟩ = false)) := fun W h => ⟨⟨(cell_of_row _ _ 18 _ _ _ h.2.1).trans h18, (cell_of_row _ _ 19 _ _ _ h.2.1).trans h19, (cell_of_row _ _ 20 _ _ _ h.2.1).trans h20⟩, ⟨(cell_blk h.2.2.1 0).trans rfl, (cell_blk h.2.2.1 1).trans rfl, (cell_blk h.2.2.1 2).trans rfl⟩, ⟨(cell_blk h.2.2.2 0).trans rfl, (cell_blk h.2.2.2 1).trans rfl, (cell_blk h.2.2.2 2).trans rfl⟩, fz_blk h.2.2.2 0, fz_blk h.2.2.2 1, fz_blk h.2.2.2 2⟩
  have HO : Hid (Or w F (.slice ta cs.length tc) (.slice va us.length vc) (.slice la lvs.length lc) cs us lvs mss xss ∧ Pp w F sa n sc p q ∧ Pp w F ba nb bc p' q' ∧ (∀ u ∈ us, u.oneCell' = true) ∧ ∀ xs ∈ xss, xs.length ≤ 1099511627775 ∧ ∀ x ∈ xs, x.length ≤ 17592186044416) := ⟨ho, hs, hb, h1, hx⟩
  obtain ⟨⟨c18, c19, c20⟩, ⟨d0, d1, d2⟩, ⟨r0, r1, r2⟩, f0, f1, f2⟩ := BC.out _ B1.out
  clear hts hvs hls ho hx h18 h19 h20 hs hb h1
  go_enter Try.func19, Try.ntmps19
  go_upto_region 1 with fail
  clear hA
  generalize (((w.alloc (.cells A 37)).alloc (.cells #[.slice ta cs.length tc, .slice va us.length vc, .slice la lvs.length lc] 55)).alloc (.cells #[.slice none 0 0, .slice none 0 0, .slice none 0 0] 55)) = w1 at *
  by_cases q1 : cs.length = n
  · by_cases q2 : us.length = ne
    · by_cases q3 : lvs.length = nb
      · subst q1 q2 q3
        have q1' : ((cs.length : Int) != (cs.length : Int)) = false := by simp
        have q2' : ((us.length : Int) != (us.length : Int)) = false := by simp
        have q3' : ((lvs.length : Int) != (lvs.length : Int)) = false := by simp
        go_upto_region 4 with fail
        clear c18 c19 c20 d0 d1 d2 q1' q2' q3' r0 r1 r2 f0 f1 f2
        go_loopw [6] (fun x wr => ∃ (k : Nat), k ≤ cs.length ∧ x = .int .i64 k ∧ Rl w wr A #[.slice ta cs.length tc, .slice va us.length vc, .slice la lvs.length lc] ∧ ∀ i, i < k → 0 ≤ cs.getD i 0 ∧ cs.getD i 0 ≤ q i) (fun x _ => cs.length - (intOf x).toNat)
        case atStart => exact ⟨0, Nat.zero_le _, rfl, B1.out, fun i hi => by omega⟩
        case round =>
          clear B1
          obtain ⟨k, hk, rfl, hrl, hok⟩ := hrel
          have HL := hid hrl
          have HOK := hid hok
          obtain ⟨⟨c18, c19, c20⟩, ⟨d0, d1, d2⟩, ⟨r0, r1, r2⟩, f0, f1, f2⟩ := BC.out _ hrl
          obtain ⟨kw, _⟩ := hrl
          clear hok c19 c20 d1 d2
          by_cases hlt : k < cs.length
          · have hltz : (k : Int) < (cs.length : Int) := by omega
            obtain ⟨_, _, hzv, hzs⟩ := HO.out.1.sems
            injection hzv with e1 _ e2
            subst e1 e2
            obtain ⟨zb, zo, rfl, _, ez⟩ := (hzs.kept kw (fun _ _ e => e)).at' k hlt
            have ez' : wr.cell? ⟨zb, zo + k, none⟩ = some (.int .i64 (cs.getD k 0)) := ez
            obtain ⟨qb, qo, rfl, _, m0, m1⟩ := (HO.out.2.1.kept kw (fun _ _ e => e)).at' k hlt
            clear hzs ez m0 kw
            generalize hcx : cs.getD k 0 = x at *
            have HX := hid hcx
            clear hcx
            by_cases hneg : x < 0
            · have hb1 : decide (x < 0) = true := by simp [hneg]
              go_upto_region 6 with fail
              go_region
              go_wp2
              refine bodyPost_ret (results_ct rfl _ _ (w.heap.size + 2) (.agg #[.slice none 0 0, .slice none 0 0, .slice none 0 0]) (.int .i64 20) rfl rfl (ldOS rfl (set3 (HL.out.keep ((Kept.refl No _).drew)).2.2.2 _ _ _))) rfl ?_
              exact .inr ⟨fun h => by have h3 := (h.2.2.2.1 k hlt).1; rw [HX.out] at h3; omega, rfl, (((HL.out.keep ((Kept.refl No _).drew)).1.setCell (.inr (by show _ ≤ w.heap.size + 2; omega)) _).setCell (.inr (by show _ ≤ w.heap.size + 2; omega)) _).setCell (.inr (by show _ ≤ w.heap.size + 2; omega)) _⟩
            · have hb1 : decide (x < 0) = false := by simp; omega
              by_cases hgt : q k < x
              · have hb2 : decide (q k < x) = true := by simp [hgt]
                go_upto_region 6 with fail
                go_region
                go_wp2
                refine bodyPost_ret (results_ct rfl _ _ (w.heap.size + 2) (.agg #[.slice none 0 0, .slice none 0 0, .slice none 0 0]) (.int .i64 20) rfl rfl (ldOS rfl (set3 (HL.out.keep ((Kept.refl No _).drew)).2.2.2 _ _ _))) rfl ?_
                exact .inr ⟨fun h => by have h3 := (h.2.2.2.1 k hlt).2; rw [HX.out] at h3; omega, rfl, (((HL.out.keep ((Kept.refl No _).drew)).1.setCell (.inr (by show _ ≤ w.heap.size + 2; omega)) _).setCell (.inr (by show _ ≤ w.heap.size + 2; omega)) _).setCell (.inr (by show _ ≤ w.heap.size + 2; omega)) _⟩
              · have hb2 : decide (q k < x) = false := by simp; omega
                go_upto_region 6 with fail
                go_region
                go_wp2
                go_roundw
                case rel =>
                  refine ⟨k + 1, by omega, by go_num, HL.out.keep ((Kept.refl No _).drew), fun i hi => ?_⟩
                  by_cases hik : i < k
                  · exact HOK.out i hik
                  · have : i = k := by omega
                    subst this
                    rw [HX.out]
                    omega
                case measure => simp [intOf]; omega
          · have hltz : ¬ (k : Int) < (cs.length : Int) := by omega
            have hkn : k = cs.length := by omega
            subst hkn
            clear kw
            go_upto_region 9 with fail
            clear c18 d0 r0 r1 r2 f0 f1 f2
            go_loopw [7] (fun x wr => ∃ (m : Nat), m ≤ lvs.length ∧ x = .int .i64 m ∧ Rl w wr A #[.slice ta cs.length tc, .slice va us.length vc, .slice la lvs.length lc] ∧ ∀ i, i < m → okB (xss.getD i []) (p' i) (q' i)) (fun x _ => lvs.length - (intOf x).toNat)
            case atStart => exact ⟨0, Nat.zero_le _, rfl, HL.out, fun i hi => by omega⟩
            case round =>
              clear HL
              obtain ⟨m, hm, rfl, hrl, hok⟩ := hrel
              have HL := hid hrl
              have HOB := hid hok
              obtain ⟨⟨c18, c19, c20⟩, ⟨d0, d1, d2⟩, ⟨r0, r1, r2⟩, f0, f1, f2⟩ := BC.out _ hrl
              obtain ⟨kw, _⟩ := hrl
              clear hok c18 c19
              by_cases hlt : m < lvs.length
              · have hltz : (m : Int) < (lvs.length : Int) := by omega
                obtain ⟨_, _, hzv, hzs⟩ := HO.out.1.bufs
                injection hzv with e1 _ e2
                subst e1 e2
                have g1 : lvs[m]? = some lvs[m] := List.getElem?_eq_getElem hlt
                have hl1 : m < mss.length := by rw [HO.out.1.len1]; exact hlt
                have hl2 : m < xss.length := by rw [HO.out.1.len2]; exact hlt
                have g2 : mss[m]? = some mss[m] := List.getElem?_eq_getElem hl1
                have g3 : xss[m]? = some xss[m] := List.getElem?_eq_getElem hl2
                have g4 : xss.getD m [] = xss[m] := by simp [List.getD, hl2]
                obtain ⟨⟨na, nc, hlv, hns⟩, hxl, hmsg⟩ := HO.out.1.ent m _ _ _ g1 g2 g3
                obtain ⟨b2, o2, rfl, _, ez⟩ := (hzs.kept kw (fun _ _ e => e)).at' m _ g1
                rw [hlv] at ez
                obtain ⟨b1, o1, rfl, _, m0, m1⟩ := (HO.out.2.2.1.kept kw (fun _ _ e => e)).at' m hlt
                have hbx := HO.out.2.2.2.2 _ (List.mem_of_getElem? g3)
                generalize mss[m] = ns at *
                generalize xss[m] = xs at *
                have kd := kw.drew
                have BF := hid (buffer_any (p' m) (q' m) wr.drew (hns.kept kd (fun _ _ e => e)) hxl (fun j v x h2 h3 => by obtain ⟨a, c, e, z⟩ := hmsg j v x h2 h3; exact ⟨a, c, e, z.kept kd (fun _ _ e => e)⟩) (by rw [← hxl]; exact hbx.1))
                have HG := hid g4
                clear g1 g2 g3 g4 hns hxl hmsg hbx hlv hzs hl1 hl2 kd kw
                go_upto_region 11 with fail
                have s1 : (wr.drew.cell? ⟨w.heap.size, 20, none⟩ = some (.slice (some ⟨b1, o1, none⟩) lvs.length bc) ∧ wr.drew.cell? ⟨b1, o1 + m * 2, none⟩ = some (.int .i64 (p' m)) ∧ wr.drew.cell? ⟨b1, o1 + m * 2 + 1, none⟩ = some (.int .i64 (q' m)) ∧ wr.drew.cell? ⟨w.heap.size + 1, 2, none⟩ = some (.slice (some ⟨b2, o2, none⟩) lvs.length lc) ∧ wr.drew.cell? ⟨b2, o2 + m, none⟩ = some (.slice na ns.length nc)) := ⟨c20, m0, m1, d2, ez⟩
                have SK : Hid (∀ w', Kept No wr.drew w' → (w'.cell? ⟨w.heap.size, 20, none⟩ = some (.slice (some ⟨b1, o1, none⟩) lvs.length bc) ∧ w'.cell? ⟨b1, o1 + m * 2, none⟩ = some (.int .i64 (p' m)) ∧ w'.cell? ⟨b1, o1 + m * 2 + 1, none⟩ = some (.int .i64 (q' m)) ∧ w'.cell? ⟨w.heap.size + 1, 2, none⟩ = some (.slice (some ⟨b2, o2, none⟩) lvs.length lc) ∧ w'.cell? ⟨b2, o2 + m, none⟩ = some (.slice na ns.length nc))) := fun w' k => ⟨k.cell s1.1 (fun e => e), k.cell s1.2.1 (fun e => e), k.cell s1.2.2.1 (fun e => e), k.cell s1.2.2.2.1 (fun e => e), k.cell s1.2.2.2.2 (fun e => e)⟩
                have SC : Hid (Calls Try.prog 37 #[.agg #[.int .i64 (p' m), .int .i64 (q' m)], .slice na ns.length nc] wr.drew fun e w' => ∃ u, e = .returned u ∧ (w'.cell? ⟨w.heap.size, 20, none⟩ = some (.slice (some ⟨b1, o1, none⟩) lvs.length bc) ∧ w'.cell? ⟨b1, o1 + m * 2, none⟩ = some (.int .i64 (p' m)) ∧ w'.cell? ⟨b1, o1 + m * 2 + 1, none⟩ = some (.int .i64 (q' m)) ∧ w'.cell? ⟨w.heap.size + 1, 2, none⟩ = some (.slice (some ⟨b2, o2, none⟩) lvs.length lc) ∧ w'.cell? ⟨b2, o2 + m, none⟩ = some (.slice na ns.length nc)) ∧ ((okB xs (p' m) (q' m) ∧ u = .bool true ∧ Kept No wr.drew w') ∨ (¬ okB xs (p' m) (q' m) ∧ u = .bool false ∧ Kept No wr.drew w'))) := BF.out.mono (fun e w' h => by rcases h with ⟨h1, h2, h3⟩ | ⟨h1, h2, h3⟩; exact ⟨_, h2, SK.out w' h3, .inl ⟨h1, rfl, h3⟩⟩; exact ⟨_, h2, SK.out w' h3, .inr ⟨h1, rfl, h3⟩⟩)
                clear c20 m0 m1 d2 ez BF SK d0 d1 r0 r1 r2 f0 f1 f2
                refine wp_region_held_drew (S := fun w' => (w'.cell? ⟨w.heap.size, 20, none⟩ = some (.slice (some ⟨b1, o1, none⟩) lvs.length bc) ∧ w'.cell? ⟨b1, o1 + m * 2, none⟩ = some (.int .i64 (p' m)) ∧ w'.cell? ⟨b1, o1 + m * 2 + 1, none⟩ = some (.int .i64 (q' m)) ∧ w'.cell? ⟨w.heap.size + 1, 2, none⟩ = some (.slice (some ⟨b2, o2, none⟩) lvs.length lc) ∧ w'.cell? ⟨b2, o2 + m, none⟩ = some (.slice na ns.length nc))) (by kernel_rfl) s1 (fun hS => ?_)
                clear s1
                refine d_take 0 69 rfl rfl (by kernel_rfl) (by kernel_rfl) (by kernel_rfl) (fun _ _ _ h => h) rfl (fun w' hw' => er_fP10 _ rfl w.heap.size rfl) hS ?_
                simp only [Act.put, List.setIfInBounds_toArray, List.set_cons_zero, List.set_cons_succ]
                refine d_take 1 70 rfl rfl (by kernel_rfl) (by kernel_rfl) (by kernel_rfl) (fun _ _ _ h => h) rfl (fun w' hw' => er_ldAB _ rfl w.heap.size 20 _ rfl hw'.1) hS ?_
                simp only [Act.put, List.setIfInBounds_toArray, List.set_cons_zero, List.set_cons_succ]
                refine d_take 2 71 rfl rfl (by kernel_rfl) (by kernel_rfl) (by kernel_rfl) (fun _ _ _ h => h) rfl (fun w' hw' => er_mv _ rfl (.int .i64 (m : Int)) rfl) hS ?_
                simp only [Act.put, List.setIfInBounds_toArray, List.set_cons_zero, List.set_cons_succ]
                refine d_take 3 72 rfl rfl (by kernel_rfl) (by kernel_rfl) (by kernel_rfl) (fun _ _ _ h => h) rfl (fun w' hw' => er_ixAB _ _ rfl b1 o1 m lvs.length bc rfl rfl hlt) hS ?_
                simp only [Act.put, List.setIfInBounds_toArray, List.set_cons_zero, List.set_cons_succ]
                refine d_take 4 73 rfl rfl (by kernel_rfl) (by kernel_rfl) (by kernel_rfl) (fun _ _ _ h => h) rfl (fun w' hw' => er_ldB2 _ rfl b1 (o1 + m * 2) _ _ rfl hw'.2.1 hw'.2.2.1) hS ?_
                simp only [Act.put, List.setIfInBounds_toArray, List.set_cons_zero, List.set_cons_succ]
                refine d_take 5 74 rfl rfl (by kernel_rfl) (by kernel_rfl) (by kernel_rfl) (fun _ _ _ h => h) rfl (fun w' hw' => er_fO2 _ rfl (w.heap.size + 1) rfl) hS ?_
                simp only [Act.put, List.setIfInBounds_toArray, List.set_cons_zero, List.set_cons_succ]
                refine d_take 6 75 rfl rfl (by kernel_rfl) (by kernel_rfl) (by kernel_rfl) (fun _ _ _ h => h) rfl (fun w' hw' => er_ldBB _ rfl (w.heap.size + 1) 2 _ rfl hw'.2.2.2.1) hS ?_
                simp only [Act.put, List.setIfInBounds_toArray, List.set_cons_zero, List.set_cons_succ]
                refine d_take 7 76 rfl rfl (by kernel_rfl) (by kernel_rfl) (by kernel_rfl) (fun _ _ _ h => h) rfl (fun w' hw' => er_mv _ rfl (.int .i64 (m : Int)) rfl) hS ?_
                simp only [Act.put, List.setIfInBounds_toArray, List.set_cons_zero, List.set_cons_succ]
                refine d_take 8 77 rfl rfl (by kernel_rfl) (by kernel_rfl) (by kernel_rfl) (fun _ _ _ h => h) rfl (fun w' hw' => er_ixBB _ _ rfl b2 o2 m lvs.length lc rfl rfl hlt) hS ?_
                simp only [Act.put, List.setIfInBounds_toArray, List.set_cons_zero, List.set_cons_succ]
                refine d_take 9 78 rfl rfl (by kernel_rfl) (by kernel_rfl) (by kernel_rfl) (fun _ _ _ h => h) rfl (fun w' hw' => er_ldLL _ rfl b2 (o2 + m) _ rfl hw'.2.2.2.2) hS ?_
                simp only [Act.put, List.setIfInBounds_toArray, List.set_cons_zero, List.set_cons_succ]
                refine d_callN _ 10 79 (by kernel_rfl) rfl rfl rfl (er_c_bf _ _ _ _ rfl (.agg #[.int .i64 (p' m), .int .i64 (q' m)]) (.slice na ns.length nc) rfl rfl) SC.out ?_
                rintro u w7 hS (⟨hokb, rfl, k7⟩ | ⟨hokb, rfl, k7⟩)
                · simp only [Act.put, List.setIfInBounds_toArray, List.set_cons_zero, List.set_cons_succ]
                  refine d_take 11 80 rfl rfl (by kernel_rfl) (by kernel_rfl) (by kernel_rfl) (fun _ _ _ h => h) rfl (fun w' hw' => er_not _ rfl true rfl) hS ?_
                  simp only [Act.put, List.setIfInBounds_toArray, List.set_cons_zero, List.set_cons_succ]
                  refine wpAnyH_done (by kernel_rfl) ?_ _
                  have H7 := hid (HL.out.keep (((Kept.refl No wr).drew).trans k7 (fun _ e => e.elim)))
                  clear k7 hS SC
                  go_wp2
                  go_roundw
                  case rel =>
                    refine ⟨m + 1, by omega, by go_num, H7.out, fun c hc => ?_⟩
                    by_cases hcm : c < m
                    · exact HOB.out c hcm
                    · have : c = m := by omega
                      subst this
                      rw [HG.out]
                      exact hokb
                  case measure => simp [intOf]; omega
                · simp only [Act.put, List.setIfInBounds_toArray, List.set_cons_zero, List.set_cons_succ]
                  refine d_take 11 80 rfl rfl (by kernel_rfl) (by kernel_rfl) (by kernel_rfl) (fun _ _ _ h => h) rfl (fun w' hw' => er_not _ rfl false rfl) hS ?_
                  simp only [Act.put, List.setIfInBounds_toArray, List.set_cons_zero, List.set_cons_succ]
                  refine wpAnyH_done (by kernel_rfl) ?_ _
                  have H7 := hid (HL.out.keep (((Kept.refl No wr).drew).trans k7 (fun _ e => e.elim)))
                  clear k7 hS SC
                  obtain ⟨_, _, ⟨r0, r1, r2⟩, f0, f1, f2⟩ := BC.out _ H7.out
                  go_wp2
                  refine bodyPost_ret (results_ct rfl _ _ (w.heap.size + 2) (.agg #[.slice none 0 0, .slice none 0 0, .slice none 0 0]) (.int .i64 20) rfl rfl (ldOS rfl (set3 (H7.out).2.2.2 _ _ _))) rfl ?_
                  exact .inr ⟨fun h => hokb (by have h3 := h.2.2.2.2 m hlt; rw [HG.out] at h3; exact h3), rfl, (((H7.out).1.setCell (.inr (by show _ ≤ w.heap.size + 2; omega)) _).setCell (.inr (by show _ ≤ w.heap.size + 2; omega)) _).setCell (.inr (by show _ ≤ w.heap.size + 2; omega)) _⟩
              · have hltz : ¬ (m : Int) < (lvs.length : Int) := by omega
                have hmn : m = lvs.length := by omega
                have OW := hid (own_any wr (HO.out.1.kept kw (fun _ _ e => e)) hn hne hnb HO.out.2.2.2.1 HO.out.2.2.2.2)
                have HM := hid hmn
                clear kw hmn c20
                go_upto_region 13 with fail
                have HW := hid hlt
                go_wp2_with (go_at_call 17; refine OW.out.mono ?_; rintro e w8 ⟨t1', t2', t3', rfl, ow⟩; obtain ⟨lv8, ms8, o1', o2', o3', k8⟩ := ow; obtain ⟨x1, y1, z1, rfl⟩ := own_slice o1'; obtain ⟨x2, y2, z2, rfl⟩ := own_slice o2'; obtain ⟨x3, y3, z3, rfl⟩ := own_slice o3'.own; obtain ⟨_, _, ⟨r0', r1', r2'⟩, f0', f1', f2'⟩ := BC.out _ (HL.out.keep k8); have O8 : Hid (w8.ownsRow wr.heap.size 3 1 (.slice x1 y1 z1) cs.length (cs.map iv) ∧ w8.ownsRow wr.heap.size 4 1 (.slice x2 y2 z2) us.length us ∧ Lb w8 wr.heap.size (.slice x3 y3 z3) lv8 ms8 xss ∧ Kept No wr w8) := ⟨o1', o2', o3', k8⟩; clear o1' o2' o3' k8 OW)
                have hR := HL.out.keep O8.out.2.2.2
                refine bodyPost_ret (results_ct rfl _ _ (w.heap.size + 2) (.agg #[.slice x1 y1 z1, .slice x2 y2 z2, .slice x3 y3 z3]) (.int .i64 0) rfl rfl (ldOS rfl (set3 hR.2.2.2 _ _ _))) rfl ?_
                have hwr := HL.out.1.size
                have K : Kept (fun j => j = w.heap.size + 2) w8 (((w8.setCell ⟨w.heap.size + 2, 0, none⟩ (.slice x1 y1 z1)).setCell ⟨w.heap.size + 2, 1, none⟩ (.slice x2 y2 z2)).setCell ⟨w.heap.size + 2, 2, none⟩ (.slice x3 y3 z3)) := (((Kept.refl (fun j => j = w.heap.size + 2) w8).setCell (p := ⟨w.heap.size + 2, 0, none⟩) (.inl rfl) _).setCell (p := ⟨w.heap.size + 2, 1, none⟩) (.inl rfl) _).setCell (p := ⟨w.heap.size + 2, 2, none⟩) (.inl rfl) _
                have lt2 := heap_lt HL.out.2.2.2
                have no : ∀ k, wr.heap.size ≤ k → ¬ k = w.heap.size + 2 := fun k hk e => by omega
                refine .inl ⟨⟨rfl, rfl, rfl, HOK.out, by rw [← HM.out]; exact HOB.out⟩, _, _, _, rfl, lv8, ms8, owns_base (K.owns O8.out.1 (fun k hk => no k (owns_at O8.out.1 hk).1)) hwr, owns_base (K.owns O8.out.2.1 (fun k hk => no k (owns_at O8.out.2.1 hk).1)) hwr, Ll.baseB (O8.out.2.2.1.kept K (fun k hk => no k (O8.out.2.2.1.lt hk).1)) hwr, hR.1.trans K (fun k e => .inr (by omega))⟩
      · have q3' : ((lvs.length : Int) != (nb : Int)) = true := by simp; omega
        have q1' : ((cs.length : Int) != (n : Int)) = false := by simp; omega
        have q2' : ((us.length : Int) != (ne : Int)) = false := by simp; omega
        go_wp2
        refine bodyPost_ret (results_ct rfl _ _ (w.heap.size + 2) (.agg #[.slice none 0 0, .slice none 0 0, .slice none 0 0]) (.int .i64 20) rfl rfl (ldOS rfl (set3 (B1.out).2.2.2 _ _ _))) rfl ?_
        exact .inr ⟨fun h => q3 h.2.2.1, rfl, (((B1.out).1.setCell (.inr (by show _ ≤ w.heap.size + 2; omega)) _).setCell (.inr (by show _ ≤ w.heap.size + 2; omega)) _).setCell (.inr (by show _ ≤ w.heap.size + 2; omega)) _⟩
    · have q1' : ((cs.length : Int) != (n : Int)) = false := by simp; omega
      have q2' : ((us.length : Int) != (ne : Int)) = true := by simp; omega
      go_wp2
      refine bodyPost_ret (results_ct rfl _ _ (w.heap.size + 2) (.agg #[.slice none 0 0, .slice none 0 0, .slice none 0 0]) (.int .i64 20) rfl rfl (ldOS rfl (set3 (B1.out).2.2.2 _ _ _))) rfl ?_
      exact .inr ⟨fun h => q2 h.2.1, rfl, (((B1.out).1.setCell (.inr (by show _ ≤ w.heap.size + 2; omega)) _).setCell (.inr (by show _ ≤ w.heap.size + 2; omega)) _).setCell (.inr (by show _ ≤ w.heap.size + 2; omega)) _⟩
  · have q1' : ((cs.length : Int) != (n : Int)) = true := by simp; omega
    go_wp2
    refine bodyPost_ret (results_ct rfl _ _ (w.heap.size + 2) (.agg #[.slice none 0 0, .slice none 0 0, .slice none 0 0]) (.int .i64 20) rfl rfl (ldOS rfl (set3 (B1.out).2.2.2 _ _ _))) rfl ?_
    exact .inr ⟨fun h => q1 h.1, rfl, (((B1.out).1.setCell (.inr (by show _ ≤ w.heap.size + 2; omega)) _).setCell (.inr (by show _ ≤ w.heap.size + 2; omega)) _).setCell (.inr (by show _ ≤ w.heap.size + 2; omega)) _⟩
end Go.Proofs.Ytggkajopfbokjaa
