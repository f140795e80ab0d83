/-
  trace: Show.
-/
import Derived.Test.YtjhhldgbllbbhaaGreatDoorVShw
namespace Go.Proofs.YtjhhldgbllbbhaaGreatDoor
open Go.RowKit
set_option linter.unusedVariables false
set_option linter.unusedSimpArgs false
set_option maxRecDepth 100000

theorem nms_small : ∀ t ∈ NMS, t.size ≤ 7 := by decide
theorem Fl.tok_len {f : Fl} (h : f.ok) : f.tok.data.toList.length ≤ 21 := by
  obtain ⟨g, n⟩ := f
  match g, h with
  | 0, h => exact Lib.itoa_length_le n h.1 h.2
  | 1, h => exact Lib.itoa_length_le n h.1 h.2
  | _ + 2, h =>
    have h1 : 0 ≤ n ∧ n < 13 := h
    have hn : n.toNat < 13 := by omega
    have hm : NMS.getD n.toNat ⟨#[]⟩ ∈ NMS := by
      rw [List.getD, List.getElem?_eq_getElem (show n.toNat < NMS.length from hn)]
      exact List.getElem_mem _
    have := nms_small _ hm
    show (NMS.getD n.toNat ⟨#[]⟩).size ≤ 21
    omega
theorem lens_le : ∀ (l : List (List UInt8)), (∀ t ∈ l, t.length ≤ 21) → Lib.lens l ≤ 21 * l.length
  | [], _ => Nat.le_refl _
  | t :: l, h => by
    have h1 := lens_le l (fun u hu => h u (List.mem_cons_of_mem _ hu))
    have h2 := h t (List.mem_cons_self ..)
    have e : Lib.lens (t :: l) = t.length + Lib.lens l := by simp [Lib.lens]
    rw [e, List.length_cons]
    omega
theorem join_small {fl : List Fl} (ho : ∀ f ∈ fl, f.ok) (hn : fl.length ≤ 22) : (Lib.join ((fl.map Fl.tok).map (·.data.toList)) sp1.data.toList).length ≤ 500 := by
  cases fl with
  | nil => simp [Lib.join_nil]
  | cons f r =>
    rw [List.map_cons, List.map_cons, Lib.join_length]
    have h1 := lens_le ((f :: r).map Fl.tok |>.map (·.data.toList)) (fun t ht => by
      rw [List.map_map, List.mem_map] at ht
      obtain ⟨g, hg, rfl⟩ := ht
      exact Fl.tok_len (ho g hg))
    simp only [List.map_cons, List.length_map, List.length_cons] at h1 hn ⊢
    have : sp1.data.toList.length = 1 := rfl
    rw [this]
    omega
theorem own_at {w : World} {B t n : Nat} {v : Value} {us : List Value} (h : w.ownsRow B t 1 v n us) (hn : 0 < n) : ∃ g c, v = .slice (some ⟨g, 0, none⟩) n c ∧ g < w.heap.size ∧ B ≤ g ∧ n ≤ c ∧ c ≤ 9223372036854775807 ∧ ∀ i u, us[i]? = some u → w.cell? ⟨g, i, none⟩ = some u := by
  rcases owns_cells h with ⟨_, h0⟩ | ⟨g, cap, rfl, h1, h2, h3, h4, h5, _⟩
  · omega
  · exact ⟨g, cap, rfl, h2, h1, h3, h4, h5⟩
def Tk (fl : List Fl) (k : Nat) : List Value := (fl.take k).map (fun f => .string f.tok)
theorem show_no {F : Nat → Prop} {x : Ev} {da : Option Addr} {dc : Nat} (w : World) (hr : Ir w F x da dc) (hg : ¬ x.Go) :
    Calls Tryz.prog 7 #[.agg (x.val da dc)] w fun r w' => r = .returned (.tuple #[.string ⟨#[]⟩, .bool false]) ∧ Kept No w w' := by
  obtain ⟨w2, e2⟩ : ∃ w2, w2 = w.alloc (.cells #[.int .i64 x.tk, .int .i64 x.pt, .int .i64 x.kd, .int .i64 x.pr, .int .i64 x.ea, .int .i64 x.eb, .slice da x.d.length dc] 25) := ⟨_, rfl⟩
  have K1 : Kept No w w2 := by rw [e2]; exact (Kept.refl No w).alloc _
  have BA : w2.heap[w.heap.size]? = some (.cells (x.val da dc) 25) := by rw [e2]; exact alloc_new w _
  have LD := hid (ldI (w := w2) (b := w.heap.size) (o := 0) (x := x) (da := da) (dc := dc) (fun j v hv => by rw [Nat.zero_add, cell_blk BA, ← Array.getElem?_toList]; exact hv))
  have GG := goest_any (x := x) (da := da) (dc := dc) w2
  rw [decide_eq_false hg] at GG
  have HH := hid K1
  clear K1 BA hr hg
  show Calls Tryz.prog 7 #[.agg #[.int .i64 x.tk, .int .i64 x.pt, .int .i64 x.kd, .int .i64 x.pr, .int .i64 x.ea, .int .i64 x.eb, .slice da x.d.length dc]] w _
  go_enter Tryz.func7, Tryz.ntmps7
  go_upto_region 1 with fail
  rw [← e2]
  clear e2
  go_wp2_with (first
    | (refine l_take 7 rfl rfl (er_ldX 25 (.tmp 1) rfl (.pointer (some ⟨w.heap.size, 0, none⟩)) (.agg (x.val da dc)) rfl LD.out) ?_)
    | (go_at_call 13; refine GG.mono ?_; rintro r w3 ⟨rfl, k3⟩; have H3 := hid (HH.out.trans k3 (fun _ e => e.elim)); clear k3 GG))
  go_ret2
  exact ⟨rfl, H3.out⟩
set_option maxHeartbeats 8000000 in
theorem show_any {F : Nat → Prop} {x : Ev} {da : Option Addr} {dc : Nat} (w : World) (hr : Ir w F x da dc) (hg : x.Go) (hf : x.Fit) (en : En w) :
    Calls Tryz.prog 7 #[.agg (x.val da dc)] w fun r w' => r = .returned (.tuple #[.string (lineB x), .bool true]) ∧ Kept No w w' := by
  obtain ⟨w2, e2⟩ : ∃ w2, w2 = w.alloc (.cells #[.int .i64 x.tk, .int .i64 x.pt, .int .i64 x.kd, .int .i64 x.pr, .int .i64 x.ea, .int .i64 x.eb, .slice da x.d.length dc] 25) := ⟨_, rfl⟩
  have K1 : Kept No w w2 := by rw [e2]; exact (Kept.refl No w).alloc _
  have BA : w2.heap[w.heap.size]? = some (.cells (x.val da dc) 25) := by rw [e2]; exact alloc_new w _
  have LD : Hid (∀ W, Kept No w2 W → (Instr.loadAt 25 (.pointer (some ⟨w.heap.size, 0, none⟩))).run Tryz.prog W = .ok (.agg (x.val da dc)) W) := fun W q => ldI (o := 0) (fun j v hv => by rw [Nat.zero_add]; exact q.cell (by rw [cell_blk BA, ← Array.getElem?_toList]; exact hv) (fun e => e))
  have GG := goest_any (x := x) (da := da) (dc := dc) w2
  rw [decide_eq_true hg] at GG
  have hd : x.d.length ≤ 16 := by have := hg.2.2.2.2.2.2.2.2; omega
  have FF : Hid (∀ W, Kept No w W → Calls Tryz.prog 14 #[.agg (x.val da dc)] W fun r w' => ∃ v, r = .returned v ∧ w'.ownsRow W.heap.size 20 1 v (6 + x.d.length) (x.fls.map Fl.val) ∧ Kept No W w') := fun W q => fields_any W (hr.keep q) hd
  have TT : Hid (∀ W, Kept No w W → ∀ f ∈ x.fls, Calls Tryz.prog 15 #[f.val] W fun e w' => e = .returned (.string f.tok) ∧ Kept No W w') := fun W q f hm => told_any f W (Ev.fls_ok hg hf f hm) (en.keep q)
  have JJ := hid (join_small (Ev.fls_ok hg hf) (by rw [x.fls_len]; omega))
  have hN : x.fls.length = 6 + x.d.length := x.fls_len
  have HH := hid K1
  clear K1 BA hr hg hf en
  obtain ⟨N, hN2⟩ : ∃ N, N = 6 + x.d.length := ⟨_, rfl⟩
  rw [← hN2] at hN FF
  have hN22 : N ≤ 22 := by omega
  have hN1 : 6 ≤ N := by omega
  have HLB : Hid (lineB x = ⟨(Lib.join ((x.fls.map Fl.tok).map (·.data.toList)) sp1.data.toList).toArray⟩) := rfl
  show Calls Tryz.prog 7 #[.agg #[.int .i64 x.tk, .int .i64 x.pt, .int .i64 x.kd, .int .i64 x.pr, .int .i64 x.ea, .int .i64 x.eb, .slice da x.d.length dc]] w _
  go_enter Tryz.func7, Tryz.ntmps7
  go_upto_region 1 with fail
  rw [← e2]
  clear e2 hN2 hd
  generalize x.fls = fl at *
  go_upto_region 4 with (first
    | (refine l_take 7 rfl rfl (er_ldX 25 (.tmp 1) rfl (.pointer (some ⟨w.heap.size, 0, none⟩)) (.agg (x.val da dc)) rfl (LD.out _ (Kept.refl _ _))) ?_)
    | (go_at_call 13; refine GG.mono ?_; rintro r w3 ⟨rfl, k3⟩; have H3 := hid (And.intro k3 (HH.out.trans k3 (fun _ e => e.elim))); clear k3 GG))
  have FC := FF.out w3 H3.out.2
  go_upto_region 5 with (first
    | (refine l_take 10 rfl rfl (er_ldX 25 (.tmp 1) rfl (.pointer (some ⟨w.heap.size, 0, none⟩)) (.agg (x.val da dc)) rfl (LD.out _ H3.out.1)) ?_)
    | (go_at_call 14; refine FC.mono ?_; rintro r w4 ⟨v4, rfl, o4, k4⟩; obtain ⟨fg, fc, rfl, fl1, fl2, fl3, fl4, fl5⟩ := own_at o4 (by omega); have H4 := hid (And.intro (H3.out.2.trans k4 (fun _ e => e.elim)) (And.intro fl1 fl5)); clear k4 FC o4 fl1 fl2 fl5))
  clear FF LD H3 HH
  go_wp2
  go_loopw [4, 6, 13] (fun u4 u6 u13 wr => ∃ (k : Nat), k ≤ N ∧ u13 = .int .i64 k ∧ wr.ownsRow w4.heap.size 9 1 u4 k (Tk fl k) ∧ Kept (fun k => w4.heap.size ≤ k) w4 wr) (fun _ _ u13 _ => N - (intOf u13).toNat)
  case atStart => exact ⟨0, by omega, rfl, World.ownsRow_nil _ _ _ _, Kept.refl _ _⟩
  case round =>
    obtain ⟨k, hk, rfl, ho, kr⟩ := hrel
    have HO := hid (And.intro ho (And.intro kr ((Kept.refl No w4).trans kr (fun k e => .inr e))))
    clear ho kr
    by_cases hlt : k < N
    · have hltz : (k : Int) < (N : Int) := by omega
      obtain ⟨f, hfk⟩ : ∃ f, fl[k]? = some f := ⟨_, List.getElem?_eq_getElem (by omega)⟩
      have hc := HO.out.2.2.cell (H4.out.2.2 k f.val (by rw [List.getElem?_map, hfk]; rfl)) (fun e => e)
      have TC := TT.out wr (H4.out.1.trans HO.out.2.2 (fun _ e => e.elim)) f (List.mem_of_getElem? hfk)
      have HT : Hid (Tk fl (k + 1) = Tk fl k ++ [.string f.tok]) := by unfold Tk; rw [take_snoc hfk, List.map_append]; rfl
      clear hfk
      generalize f.val = V at *
      generalize f.tok = t at *
      go_wp2_with (first
        | (go_at_call 15; refine TC.mono ?_; rintro r w5 ⟨rfl, k5⟩; have H5 := hid k5; clear k5 TC)
        | (at_builtin; refine wpList_apB rfl _ _ 42 9 rfl w4.heap.size (.string ⟨#[]⟩) 1 16 Tryz.underlying42 Tryz.infoStr rfl (by decide) u4 k _ rfl ((H5.out.owns HO.out.1 (fun _ _ e => e)).alloc _) (by rw [World.size_alloc]; have h1 := HO.out.2.1.size; have h2 := H5.out.size; omega) ⟨w5.heap.size, 0, none⟩ 1 1 [.string t] rfl rfl (cell_one_new _ _ _) (by intro u hu; simp at hu; subst hu; rfl) (by omega) (by omega) (by omega) ?_; intro g7 c7 w6 o6 k6))
      refine ⟨⟨k + 1, by omega, rfl, ?_, ?_⟩, ?_⟩
      · rw [HT.out]
        exact o6.out
      · exact ((HO.out.2.1.trans H5.out (fun _ e => e.elim)).alloc _).trans k6.out (fun q e => .inl (HO.out.1.lt q e).1)
      · simp [intOf]; omega
    · have hltz : ¬ (k : Int) < (N : Int) := by omega
      obtain rfl : k = N := by omega
      obtain ⟨lg, lc, rfl, l1, l2, l3, l4, l5⟩ := own_at HO.out.1 (by omega)
      have JC := join_any lg 0 lc (fl.map Fl.tok) sp1 wr (fun j t ht => by
        rw [Nat.zero_add]
        refine l5 j _ ?_
        unfold Tk
        rw [List.take_of_length_le (by omega), List.getElem?_map]
        rw [List.getElem?_map] at ht
        cases hq : fl[j]? with
        | none => rw [hq] at ht; cases ht
        | some f => rw [hq] at ht; simp at ht; subst ht; rfl) l1 (by rw [List.length_map]; omega) (by rw [List.length_map]; omega) (by have := JJ.out; omega)
      rw [List.length_map, hN, ← HLB.out] at JC
      clear l5
      go_wp2_with (go_at_call 16; refine JC.mono ?_; rintro r w6 ⟨rfl, b6⟩; have H6 := hid b6; clear b6 JC)
      go_ret2
      exact ⟨rfl, (H4.out.1.trans HO.out.2.2 (fun _ e => e.elim)).trans (Kept.of_below (F := No) H6.out) (fun _ e => e.elim)⟩
end Go.Proofs.YtjhhldgbllbbhaaGreatDoor
