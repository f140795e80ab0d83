/-
  port: copySample; what two calls make of a port.
-/
import Derived.Test.YthebokkogeigoaaSDat
import Derived.Test.YthebokkogeigoaaPWork
namespace Go.Proofs.Ythebokkogeigoaa
open Go.RowKit
set_option linter.unusedVariables false
set_option linter.unusedSimpArgs false
set_option maxRecDepth 100000

def En.ps (e : En) : Ps := ⟨e.xs, e.has, e.tk, e.sx, e.lost⟩
def En.pr (e : En) : Pr := ⟨e.pt, e.kd, e.out, e.sz, e.dp, e.rf⟩
theorem Did.trans {w w1 w2 : World} {B : Nat} {e e1 e2 : En} (h : Ep w B e) (d : Did w w1 B e e1) (f : Did w1 w2 B e1 e2) : Did w w2 B e e2 := by
  have hs := d.kept.size
  refine ⟨f.ep, d.kept.trans f.kept (fun k hk => ?_), f.eb.trans d.eb, fun k hk => ?_⟩
  · rcases d.fp k (.inl hk) with q | q
    · rcases q with q | q
      · exact .inl q
      · exfalso
        obtain ⟨_, cs, h2⟩ := h.em_blk q
        have hn : ¬ Ew e k := fun q2 => by
          rcases h.ew_tag q2 h2 with h3 | h3 <;> exact absurd h3 (by decide)
        rcases d.ep.ew_tag hk (d.kept.at' h2 hn) with h3 | h3 <;> exact absurd h3 (by decide)
    · exact .inr q
  · rcases f.fp k hk with q | q
    · exact d.fp k q
    · exact .inr (by omega)
set_option maxHeartbeats 2000000 in
theorem copySample_any {F : Nat → Prop} {da : Option Addr} {dn dc : Nat} {x : List Int} (w : World) (has : Bool) (tk : Int) (hz : Zs w F da dn dc x) (hd : dn ≤ 1048576) :
    Calls Try.prog 59 #[.agg #[.bool has, .int .i64 tk, .slice da dn dc]] w fun r w' => ∃ ya yc, r = .returned (.agg #[.bool has, .int .i64 tk, .slice ya dn yc]) ∧ w'.ownsRow w.heap.size 2 1 (.slice ya dn yc) dn (x.map iv) ∧ Kept No w w' := by
  have K1 : Kept No w ((w.alloc (.cells #[.bool has, .int .i64 tk, .slice da dn dc] 59)).alloc (.cells #[.bool false, .int .i64 0, .slice none 0 0] 59)) := ((Kept.refl No w).alloc _).alloc _
  have BA : ((w.alloc (.cells #[.bool has, .int .i64 tk, .slice da dn dc] 59)).alloc (.cells #[.bool false, .int .i64 0, .slice none 0 0] 59)).heap[w.heap.size]? = some (.cells #[.bool has, .int .i64 tk, .slice da dn dc] 59) := ((Kept.refl No _).alloc _).at' (alloc_new w _) (fun e => e)
  have BR : ((w.alloc (.cells #[.bool has, .int .i64 tk, .slice da dn dc] 59)).alloc (.cells #[.bool false, .int .i64 0, .slice none 0 0] 59)).heap[w.heap.size + 1]? = some (.cells #[.bool false, .int .i64 0, .slice none 0 0] 59) := by
    have := alloc_new (w.alloc (.cells #[.bool has, .int .i64 tk, .slice da dn dc] 59)) (.cells #[.bool false, .int .i64 0, .slice none 0 0] 59)
    rw [World.size_alloc] at this
    exact this
  have S1 : Hid (w.heap.size + 1 < ((w.alloc (.cells #[.bool has, .int .i64 tk, .slice da dn dc] 59)).alloc (.cells #[.bool false, .int .i64 0, .slice none 0 0] 59)).heap.size) := heap_lt BR
  have wo := words_any _ (hz.kept K1 (fun _ _ e => e)) (by omega)
  have c2a : ((w.alloc (.cells #[.bool has, .int .i64 tk, .slice da dn dc] 59)).alloc (.cells #[.bool false, .int .i64 0, .slice none 0 0] 59)).cell? ⟨w.heap.size, 2, none⟩ = some (.slice da dn dc) := (cell_blk BA 2).trans rfl
  have H1 := hid (And.intro K1 (And.intro BA BR))
  clear K1 BA BR hz
  go_enter Try.func59, Try.ntmps59
  go_upto_region 1 with fail
  generalize (w.alloc (.cells #[.bool has, .int .i64 tk, .slice da dn dc] 59)).alloc (.cells #[.bool false, .int .i64 0, .slice none 0 0] 59) = w2 at *
  go_wp2_with (go_at_call 31; refine wo.mono ?_; rintro e w3 ⟨ya, yc, rfl, o3, k3⟩; have b1 := k3.at' H1.out.2.1 (fun e => e); have b2 := k3.at' H1.out.2.2 (fun e => e); have c0 := (cell_blk b1 0).trans rfl; have c1 := (cell_blk b1 1).trans rfl; have c2 := (cell_blk b1 2).trans rfl; have r0 := (cell_blk b2 0).trans rfl; have r1 := (cell_blk b2 1).trans rfl; have r2 := (cell_blk b2 2).trans rfl; have fa := fz_blk b1 2; have f0 := fz_blk b2 0; have f1 := fz_blk b2 1; have f2 := fz_blk b2 2; have H3 := hid (And.intro o3 (And.intro k3 (And.intro b1 b2))); clear o3 k3 b1 b2 wo)
  have kq : Kept (fun k => k = w.heap.size ∨ k = w.heap.size + 1) w3 ((((w3.setCell ⟨w.heap.size, 2, none⟩ (.slice ya dn yc)).setCell ⟨w.heap.size + 1, 0, none⟩ (.bool has)).setCell ⟨w.heap.size + 1, 1, none⟩ (.int .i64 tk)).setCell ⟨w.heap.size + 1, 2, none⟩ (.slice ya dn yc)) := ((((Kept.refl (fun k => k = w.heap.size ∨ k = w.heap.size + 1) w3).setCell (p := ⟨w.heap.size, 2, none⟩) (.inl (.inl rfl)) _).setCell (p := ⟨w.heap.size + 1, 0, none⟩) (.inl (.inr rfl)) _).setCell (p := ⟨w.heap.size + 1, 1, none⟩) (.inl (.inr rfl)) _).setCell (p := ⟨w.heap.size + 1, 2, none⟩) (.inl (.inr rfl)) _
  have hfin : ((((w3.setCell ⟨w.heap.size, 2, none⟩ (.slice ya dn yc)).setCell ⟨w.heap.size + 1, 0, none⟩ (.bool has)).setCell ⟨w.heap.size + 1, 1, none⟩ (.int .i64 tk)).setCell ⟨w.heap.size + 1, 2, none⟩ (.slice ya dn yc)).heap[w.heap.size + 1]? = some (.cells #[.bool has, .int .i64 tk, .slice ya dn yc] 59) :=
    set_blk (set_blk (set_blk (((Kept.refl (fun k => k = w.heap.size) w3).setCell (p := ⟨w.heap.size, 2, none⟩) (.inl rfl) _).at' H3.out.2.2.2 (fun e => by omega)) 0 _) 1 _) 2 _
  refine bodyPost_ret (results_cell_row rfl _ _ (w.heap.size + 1) 59 #[.bool has, .int .i64 tk, .slice ya dn yc] (0, 0) _ rfl hfin Try.underlying59 rfl (by kernel_rfl)) rfl ?_
  have s1 := S1.out
  exact ⟨ya, yc, rfl, kq.owns (owns_base H3.out.1 (by omega)) (fun k hk e => by have := (owns_blk H3.out.1 hk).1; omega), (H1.out.1.trans H3.out.2.1 (fun _ e => .inl e)).trans kq (fun k e => .inr (by omega))⟩
end Go.Proofs.Ythebokkogeigoaa
