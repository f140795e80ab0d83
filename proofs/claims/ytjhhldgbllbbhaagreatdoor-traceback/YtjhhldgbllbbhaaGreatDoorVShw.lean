/-
  trace: fieldsOf, Show.
-/
import Derived.Test.YtjhhldgbllbbhaaGreatDoorVGo
import Derived.Lib.ItoaLen
namespace Go.Proofs.YtjhhldgbllbbhaaGreatDoor
open Go.RowKit
set_option linter.unusedVariables false
set_option linter.unusedSimpArgs false
set_option maxRecDepth 100000

def Ev.six (x : Ev) : List Fl := [.i x.tk, .i x.pt, .k x.kd, .i x.pr, .w x.ea, .w x.eb]
def Ev.fls (x : Ev) : List Fl := x.six ++ x.d.map Fl.w
theorem Ev.fls_len (x : Ev) : x.fls.length = 6 + x.d.length := by simp [Ev.fls, Ev.six]; omega
/-- what no int64 is beyond -/
def Ev.Fit (x : Ev) : Prop := T6 x.ea ∧ T6 x.eb ∧ ∀ z ∈ x.d, T6 z
theorem Ev.fls_ok {x : Ev} (hg : x.Go) (hf : x.Fit) : ∀ f ∈ x.fls, f.ok := by
  obtain ⟨h0, h1, h2, h3, h4, h5, h6, h7, h8⟩ := hg
  intro f hm
  simp only [Ev.fls, Ev.six, List.mem_append, List.mem_cons, List.not_mem_nil, or_false, List.mem_map] at hm
  rcases hm with (rfl | rfl | rfl | rfl | rfl | rfl) | ⟨z, hz, rfl⟩
  · show T6 x.tk
    exact ⟨by omega, by omega⟩
  · show T6 x.pt
    exact ⟨by omega, by omega⟩
  · show 0 ≤ x.kd ∧ x.kd < 13
    exact ⟨by omega, by omega⟩
  · show T6 x.pr
    exact ⟨by omega, by omega⟩
  · exact hf.1
  · exact hf.2.1
  · exact hf.2.2 z hz
def lineB (x : Ev) : ByteArray := ⟨(Lib.join ((x.fls.map Fl.tok).map (·.data.toList)) sp1.data.toList).toArray⟩
theorem Tryz.infoAny : (Tryz.prog.info? 20).map (fun i => (i.zero, i.size, i.bytes)) = some (some .nilIface, 1, 16) := by kernel_rfl
theorem Tryz.infoStr : (Tryz.prog.info? 9).map (fun i => (i.zero, i.size, i.bytes)) = some (some (.string ⟨#[]⟩), 1, 16) := by kernel_rfl
theorem own_new (w : World) (A : Array Value) (t : TypeId) (hm : A.size ≤ maxLen) : (w.alloc (.cells A t)).ownsRow w.heap.size t 1 (.slice (some ⟨w.heap.size, 0, none⟩) A.size A.size) A.size A.toList :=
  ⟨by simp, .inr ⟨w.heap.size, A.size, A, rfl, Nat.le_refl _, alloc_new w _, Nat.le_refl _, hm, by simp, by rw [Nat.mul_one]; exact List.take_of_length_le (by simp)⟩⟩
set_option maxHeartbeats 4000000 in
theorem fields_any {F : Nat → Prop} {x : Ev} {da : Option Addr} {dc : Nat} (w : World) (hr : Ir w F x da dc) (hd : x.d.length ≤ 16) :
    Calls Tryz.prog 14 #[.agg (x.val da dc)] w fun r w' => ∃ v, r = .returned v ∧ w'.ownsRow w.heap.size 20 1 v (6 + x.d.length) (x.fls.map Fl.val) ∧ Kept No w w' := by
  obtain ⟨w2, e2⟩ : ∃ w2, w2 = w.alloc (.cells #[.int .i64 x.tk, .int .i64 x.pt, .int .i64 x.kd, .int .i64 x.pr, .int .i64 x.ea, .int .i64 x.eb, .slice da x.d.length dc] 25) := ⟨_, rfl⟩
  have K1 : Kept No w w2 := by rw [e2]; exact (Kept.refl No w).alloc _
  have BA : w2.heap[w.heap.size]? = some (.cells #[.int .i64 x.tk, .int .i64 x.pt, .int .i64 x.kd, .int .i64 x.pr, .int .i64 x.ea, .int .i64 x.eb, .slice da x.d.length dc] 25) := by rw [e2]; exact alloc_new w _
  have hs2 : w2.heap.size = w.heap.size + 1 := by rw [e2, World.size_alloc]
  have c0 : w2.cell? ⟨w.heap.size, 0, none⟩ = some (.int .i64 x.tk) := (cell_blk BA 0).trans rfl
  have c1 : w2.cell? ⟨w.heap.size, 1, none⟩ = some (.int .i64 x.pt) := (cell_blk BA 1).trans rfl
  have c2 : w2.cell? ⟨w.heap.size, 2, none⟩ = some (.int .i64 x.kd) := (cell_blk BA 2).trans rfl
  have c3 : w2.cell? ⟨w.heap.size, 3, none⟩ = some (.int .i64 x.pr) := (cell_blk BA 3).trans rfl
  have c4 : w2.cell? ⟨w.heap.size, 4, none⟩ = some (.int .i64 x.ea) := (cell_blk BA 4).trans rfl
  have c5 : w2.cell? ⟨w.heap.size, 5, none⟩ = some (.int .i64 x.eb) := (cell_blk BA 5).trans rfl
  have c6 : w2.cell? ⟨w.heap.size, 6, none⟩ = some (.slice da x.d.length dc) := (cell_blk BA 6).trans rfl
  have hcd := hr.zs.cap
  have hcm := hr.zs.max
  have HR : Hid (∀ k, k < x.d.length → ∃ b o, da = some ⟨b, o, none⟩ ∧ b < w.heap.size ∧ w.cell? ⟨b, o + k, none⟩ = some (.int .i64 (x.d.getD k 0))) := fun k hk => by
    obtain ⟨b, o, e, _, hc⟩ := hr.zs.at' k hk
    exact ⟨b, o, e, cell_lt hc, hc⟩
  have HH := hid (And.intro K1 hs2)
  obtain ⟨w3, e3⟩ : ∃ w3, w3 = w2.alloc (.cells (x.six.map Fl.val).toArray 20) := ⟨_, rfl⟩
  have H3 : Hid (Kept No w w3 ∧ w3.ownsRow w.heap.size 20 1 (.slice (some ⟨w.heap.size + 1, 0, none⟩) 6 6) 6 (x.six.map Fl.val) ∧ w.heap.size ≤ w3.heap.size) := by
    refine ⟨by rw [e3]; exact K1.alloc _, ?_, by rw [e3, World.size_alloc]; omega⟩
    rw [e3]
    have := own_new w2 (x.six.map Fl.val).toArray 20 (by show 6 ≤ maxLen; unfold maxLen; omega)
    rw [hs2] at this
    exact owns_base this (by omega)
  have x6' : w3.cell? ⟨w.heap.size, 6, none⟩ = some (.slice da x.d.length dc) := by rw [e3]; exact ((Kept.refl No w2).alloc _).cell c6 (fun e => e)
  clear K1 BA hr
  show Calls Tryz.prog 14 #[.agg #[.int .i64 x.tk, .int .i64 x.pt, .int .i64 x.kd, .int .i64 x.pr, .int .i64 x.ea, .int .i64 x.eb, .slice da x.d.length dc]] w _
  go_enter Tryz.func14, Tryz.ntmps14
  go_upto_region 1 with fail
  rw [← e2]
  clear e2
  go_upto_region 2 with fail
  rw [show w2.alloc (.cells #[.iface 3 (.int .i64 x.tk), .iface 3 (.int .i64 x.pt), .iface 61 (.int .i64 x.kd), .iface 3 (.int .i64 x.pr), .iface 2 (.int .i64 x.ea), .iface 2 (.int .i64 x.eb)] 20) = w3 from e3.symm]
  clear e3 c0 c1 c2 c3 c4 c5 c6
  go_wp2
  go_loopw [3, 5, 28] (fun u3 u5 u28 wr => ∃ (k : Nat), k ≤ x.d.length ∧ u28 = .int .i64 k ∧ wr.ownsRow w.heap.size 20 1 u3 (6 + k) (x.six.map Fl.val ++ (x.d.take k).map (fun z => Fl.val (.w z))) ∧ Kept (fun k => w.heap.size ≤ k) w wr) (fun _ _ u28 _ => x.d.length - (intOf u28).toNat)
  case atStart => exact ⟨0, by omega, rfl, by rw [List.take_zero, List.map_nil, List.append_nil]; exact H3.out.2.1, (Kept.refl _ w).trans H3.out.1 (fun _ e => e.elim)⟩
  case round =>
    obtain ⟨k, hk, rfl, ho, kr⟩ := hrel
    have HO := hid (And.intro ho kr)
    clear ho kr
    by_cases hlt : k < x.d.length
    · have hltz : (k : Int) < (x.d.length : Int) := by omega
      obtain ⟨b, o, rfl, hbl, hc⟩ := HR.out k (by omega)
      have hc' := HO.out.2.cell hc (fun e => by have : w.heap.size ≤ b := e; omega)
      have HT : Hid (x.d.take (k + 1) = x.d.take k ++ [x.d.getD k 0]) := take_snoc (by rw [List.getD, List.getElem?_eq_getElem (by omega)]; rfl)
      clear hc
      generalize x.d.getD k 0 = z at *
      go_wp2_with (at_builtin; refine wpList_apB rfl _ _ 43 20 rfl w.heap.size .nilIface 1 16 Tryz.underlying43 Tryz.infoAny rfl (by decide) u3 (6 + k) _ rfl (HO.out.1.alloc _) (by rw [World.size_alloc]; have h1 := HO.out.2.size; omega) ⟨wr.heap.size, 0, none⟩ 1 1 [.iface 2 (.int .i64 z)] rfl rfl (cell_one_new _ _ _) (by intro u hu; simp at hu; subst hu; rfl) (by omega) (by omega) (by omega) ?_; intro g7 c7 w5 o5 k5)
      refine ⟨⟨k + 1, by omega, rfl, ?_, ?_⟩, ?_⟩
      · rw [HT.out, List.map_append, ← List.append_assoc]
        exact o5.out
      · exact (HO.out.2.alloc _).trans k5.out (fun q e => .inl (HO.out.1.lt q e).1)
      · simp [intOf]; omega
    · have hltz : ¬ (k : Int) < (x.d.length : Int) := by omega
      obtain rfl : k = x.d.length := by omega
      have HX : Hid (wr.ownsRow w.heap.size 20 1 u3 (6 + x.d.length) (x.fls.map Fl.val)) := by
        have h1 := HO.out.1
        rw [List.take_of_length_le (by omega)] at h1
        have : x.fls.map Fl.val = x.six.map Fl.val ++ x.d.map (fun z => Fl.val (.w z)) := by simp [Ev.fls, List.map_append, List.map_map, Function.comp]
        rw [this]; exact h1
      go_wp2
      go_ret
      exact ⟨_, rfl, HX.out, (Kept.refl No w).trans HO.out.2 (fun k e => .inr e)⟩
end Go.Proofs.YtjhhldgbllbbhaaGreatDoor
