/-
  Taken over out of image.
-/
import Derived.Test.YtggejpccjmolhaaGreatDoorG32
namespace Go.Proofs.YtggejpccjmolhaaGreatDoor
open Go.RowKit
set_option linter.unusedVariables false
set_option linter.unusedSimpArgs false
set_option maxRecDepth 100000

theorem size_alloc (w : World) (o : Obj) : (w.alloc o).heap.size = w.heap.size + 1 := by simp
/-- the cells of what was just made -/
theorem cells_new (w : World) (cs : List Value) (t : TypeId) (b : Nat) (hb : b = w.heap.size) : ∀ j u, cs[j]? = some u → (w.alloc (.cells cs.toArray t)).cell? ((⟨b, 0, none⟩ : Addr).add j) = some u := by
  intro j u hj
  subst hb
  rw [add_none, Nat.zero_add]
  have h := heap_alloc_new w (.cells cs.toArray t)
  unfold World.cell?
  simp only [h]
  simpa using hj
def clI (x : Int) : List Value := [.int .i64 x]
theorem clI_one (x : Int) : ∀ u ∈ clI x, u.oneCell' = true := by
  intro u hu; unfold clI at hu; simp at hu; subst hu; rfl
theorem own_slice {w : World} {B : Nat} {t : TypeId} {sz : Nat} {v : Value} {n : Nat} {xs : List Value} (h : w.ownsRow B t sz v n xs) : ∃ a m c, v = .slice a m c := by
  obtain ⟨_, ⟨rfl, _⟩ | ⟨g, cap, cur, rfl, _⟩⟩ := h
  · exact ⟨_, _, _, rfl⟩
  · exact ⟨_, _, _, rfl⟩
def clB (x : Bool) : List Value := [.bool x]
theorem clB_one (x : Bool) : ∀ u ∈ clB x, u.oneCell' = true := by
  intro u hu; unfold clB at hu; simp at hu; subst hu; rfl
def clIns (x : Ins) : List Value := [.int .u8 x.op, .int .u8 x.a, .int .u8 x.b, .int .u8 x.c, .int .i32 x.imm]
theorem clIns_one (x : Ins) : ∀ u ∈ clIns x, u.oneCell' = true := by
  intro u hu; unfold clIns at hu; simp at hu; rcases hu with rfl | rfl | rfl | rfl | rfl <;> rfl
def clPrc (x : Prc) : List Value := [.int .i64 x.en, .int .i64 x.pr, .int .i64 x.pe, .int .i64 x.li, .int .i64 x.ca, .bool x.auto]
theorem clPrc_one (x : Prc) : ∀ u ∈ clPrc x, u.oneCell' = true := by
  intro u hu; unfold clPrc at hu; simp at hu; rcases hu with rfl | rfl | rfl | rfl | rfl | rfl <;> rfl
def clSm (x : Sm) : List Value := [.int .i64 x.st, .int .i64 x.mx]
theorem clSm_one (x : Sm) : ∀ u ∈ clSm x, u.oneCell' = true := by
  intro u hu; unfold clSm at hu; simp at hu; rcases hu with rfl | rfl <;> rfl
def clBf (x : Bf) : List Value := [.int .i64 x.sz, .int .i64 x.dp]
theorem clBf_one (x : Bf) : ∀ u ∈ clBf x, u.oneCell' = true := by
  intro u hu; unfold clBf at hu; simp at hu; rcases hu with rfl | rfl <;> rfl
def clPo (x : Po) : List Value := [.int .i64 x.pt, .int .i64 x.kd, .bool x.out, .int .i64 x.sz, .int .i64 x.dp, .int .i64 x.rf]
theorem clPo_one (x : Po) : ∀ u ∈ clPo x, u.oneCell' = true := by
  intro u hu; unfold clPo at hu; simp at hu; rcases hu with rfl | rfl | rfl | rfl | rfl | rfl <;> rfl
theorem sizePn : (Tryz.prog.info? 59).map (·.size) = some 21 := by kernel_rfl
theorem elPn_one {w : World} {G : Nat → Prop} {cs : List Value} {x : Pn} (h : elPn w G cs x) : ∀ v ∈ cs, v.oneCell' = true := by
  obtain ⟨a0, n0, c0, a1, n1, c1, a2, n2, c2, a3, n3, c3, a4, n4, c4, a5, n5, c5, rfl, _⟩ := h.sl
  intro v hv
  simp only [List.mem_cons, List.not_mem_nil, or_false] at hv
  rcases hv with rfl | rfl | rfl | rfl | rfl | rfl | rfl | rfl | rfl | rfl | rfl | rfl | rfl | rfl | rfl | rfl | rfl | rfl | rfl | rfl | rfl <;> rfl
theorem box_Pn (w : World) (cs : List Value) (hl : cs.length = 21) (h1 : ∀ v ∈ cs, v.oneCell' = true) :
    ∃ w2, (Instr.storeAt 59 (.pointer (some ⟨w.heap.size, 0, none⟩)) (.agg cs.toArray)).run Tryz.prog (w.alloc (.cells #[.int .i64 0, .int .i64 0, .int .i64 0, .int .i64 0, .int .i64 0, .int .i64 0, .slice none 0 0, .slice none 0 0, .slice none 0 0, .int .i64 0, .int .i64 0, .int .i64 0, .int .i64 0, .int .i64 0, .int .i64 0, .int .i64 0, .int .i64 0, .int .i64 0, .slice none 0 0, .slice none 0 0, .slice none 0 0] 59)) = .ok () w2 ∧
      (Instr.loadAt 59 (.pointer (some ⟨w.heap.size, 0, none⟩))).run Tryz.prog w2 = .ok (.agg cs.toArray) w2 ∧ Kept No w w2 := by
  have hb : Bk (w.alloc (.cells #[.int .i64 0, .int .i64 0, .int .i64 0, .int .i64 0, .int .i64 0, .int .i64 0, .slice none 0 0, .slice none 0 0, .slice none 0 0, .int .i64 0, .int .i64 0, .int .i64 0, .int .i64 0, .int .i64 0, .int .i64 0, .int .i64 0, .int .i64 0, .int .i64 0, .slice none 0 0, .slice none 0 0, .slice none 0 0] 59)) w.heap.size [.int .i64 0, .int .i64 0, .int .i64 0, .int .i64 0, .int .i64 0, .int .i64 0, .slice none 0 0, .slice none 0 0, .slice none 0 0, .int .i64 0, .int .i64 0, .int .i64 0, .int .i64 0, .int .i64 0, .int .i64 0, .int .i64 0, .int .i64 0, .int .i64 0, .slice none 0 0, .slice none 0 0, .slice none 0 0] 59 := heap_alloc_new w _
  have ht : (w.alloc (.cells #[.int .i64 0, .int .i64 0, .int .i64 0, .int .i64 0, .int .i64 0, .int .i64 0, .slice none 0 0, .slice none 0 0, .slice none 0 0, .int .i64 0, .int .i64 0, .int .i64 0, .int .i64 0, .int .i64 0, .int .i64 0, .int .i64 0, .int .i64 0, .int .i64 0, .slice none 0 0, .slice none 0 0, .slice none 0 0] 59)).there w.heap.size 0 21 := by
    intro j hj
    rw [Nat.zero_add]
    refine ⟨?_, hb.fz j⟩
    obtain ⟨v, hv⟩ : ∃ v, ([.int .i64 0, .int .i64 0, .int .i64 0, .int .i64 0, .int .i64 0, .int .i64 0, .slice none 0 0, .slice none 0 0, .slice none 0 0, .int .i64 0, .int .i64 0, .int .i64 0, .int .i64 0, .int .i64 0, .int .i64 0, .int .i64 0, .int .i64 0, .int .i64 0, .slice none 0 0, .slice none 0 0, .slice none 0 0] : List Value)[j]? = some v := ⟨_, List.getElem?_eq_getElem (by simpa using hj)⟩
    rw [hb.cell hv]; rfl
  refine ⟨(w.alloc (.cells #[.int .i64 0, .int .i64 0, .int .i64 0, .int .i64 0, .int .i64 0, .int .i64 0, .slice none 0 0, .slice none 0 0, .slice none 0 0, .int .i64 0, .int .i64 0, .int .i64 0, .int .i64 0, .int .i64 0, .int .i64 0, .int .i64 0, .int .i64 0, .int .i64 0, .slice none 0 0, .slice none 0 0, .slice none 0 0] 59)).setCells w.heap.size 0 cs, ?_, ?_, ?_⟩
  · exact run_storeAt_mid _ w.heap.size 0 _ cs.toArray (by simpa [hl] using ht) (by rw [sizePn]; simp [hl]) (all_oneCell_toArray h1)
  · exact run_loadAt_mid _ w.heap.size 0 _ cs _ (World.rangeAt_setCells_same _ _ _ _ (by rw [hl]; exact ht)) Tryz.underlying59 rfl (by rw [hl]; exact sizePn)
  · exact setCells_kept _ _ _ _ _ ((Kept.refl No w).alloc _) (Nat.le_refl _)
/-- all the cells of a row, set one by one -/
def setL : List Value → Nat → List Value → List Value
  | l, _, [] => l
  | l, o, v :: r => setL (l.set o v) (o + 1) r
theorem Bk.setCells {b : Nat} {t : TypeId} : ∀ (vs : List Value) (w : World) (l : List Value) (o : Nat), Bk w b l t → Bk (w.setCells b o vs) b (setL l o vs) t
  | [], w, l, o, h => h
  | v :: vs, w, l, o, h => Bk.setCells vs _ _ _ (h.set o v)
theorem setL_all : ∀ (vs pre post : List Value), post.length = vs.length → setL (pre ++ post) pre.length vs = pre ++ vs
  | [], pre, post, h => by
    have : post = [] := List.eq_nil_of_length_eq_zero h
    subst this; rfl
  | v :: vs, pre, [], h => by simp at h
  | v :: vs, pre, q :: post, h => by
    show setL ((pre ++ q :: post).set pre.length v) (pre.length + 1) vs = _
    rw [List.set_append_right _ _ (Nat.le_refl _), Nat.sub_self, List.set_cons_zero]
    have := setL_all vs (pre ++ [v]) post (by simpa using h)
    simpa using this
theorem flat_get {α : Type} (sz : Nat) : ∀ (css : List (List α)), (∀ cs ∈ css, cs.length = sz) → ∀ i j cs, css[i]? = some cs → j < sz → css.flatten[i * sz + j]? = cs[j]?
  | [], _, i, j, cs, h, _ => by simp at h
  | c :: css, hl, 0, j, cs, h, hj => by
    simp at h; subst h
    have := hl c (by simp)
    rw [Nat.zero_mul, Nat.zero_add, List.flatten_cons, List.getElem?_append_left (by omega)]
  | c :: css, hl, i + 1, j, cs, h, hj => by
    have hc := hl c (by simp)
    rw [List.flatten_cons, List.getElem?_append_right (by rw [hc, Nat.add_mul]; omega), hc, show (i + 1) * sz + j - sz = i * sz + j by rw [Nat.add_mul]; omega]
    exact flat_get sz css (fun cs h => hl cs (List.mem_cons_of_mem _ h)) i j cs (by simpa using h) hj
theorem Tryz.infEPn : (Tryz.prog.info? 59).map (fun i => (i.zero, i.size, i.bytes)) = some (some (.agg #[.int .i64 0, .int .i64 0, .int .i64 0, .int .i64 0, .int .i64 0, .int .i64 0, .slice none 0 0, .slice none 0 0, .slice none 0 0, .int .i64 0, .int .i64 0, .int .i64 0, .int .i64 0, .int .i64 0, .int .i64 0, .int .i64 0, .int .i64 0, .int .i64 0, .slice none 0 0, .slice none 0 0, .slice none 0 0]), 21, 264) := by kernel_rfl
section
variable {o : Oper} {a : Act} {w : World}
theorem er_bsPn (x : Operand) (ho : o.op = .buildSlice 22 1 #[(0, x)]) (cs : List Value) (hl : cs.length = 21) (h1 : ∀ v ∈ cs, v.oneCell' = true) (hx : a.eval x = .agg cs.toArray) : (execOp a.eval o).run Tryz.prog w = .ok (.value (.slice (some ⟨w.heap.size, 0, none⟩) 1 1)) (w.alloc (.cells cs.toArray 59)) := by
  match cs, hl with
  | [e0, e1, e2, e3, e4, e5, e6, e7, e8, e9, e10, e11, e12, e13, e14, e15, e16, e17, e18, e19, e20], _ =>
    simp only [execOp, ho, List.map_toArray, List.map_cons, List.map_nil, hx]
    simp [go_sem]
end
section
variable {o : Oper} {a : Act} {w : World}
theorem er_appPn (s x : Operand) (ho : o.op = .call { callee := .builtin .append, args := #[s, x], argTypes := #[22, 22] }) (u v r : Value) {w' : World} (hs : a.eval s = u) (hx : a.eval x = v) (hr : (Builtin.append_ #[22, 22] o.type #[u, v]).run Tryz.prog w = .ok r w') : (execOp a.eval o).run Tryz.prog w = .ok (.value r) w' := by
  simp only [execOp, ho, resolve, invoke, builtin, Sem.run_bind, Sem.run_pure, Result.andThen_ok, List.map_toArray, List.map_cons, List.map_nil, hs, hx, hr]
end
theorem Tryz.infECh : (Tryz.prog.info? 34).map (fun i => (i.zero, i.size, i.bytes)) = some (some (.agg #[.int .i64 0, .int .i64 0, .slice none 0 0, .int .i64 0, .int .i64 0]), 5, 56) := by kernel_rfl
theorem sizeECh : (Tryz.prog.info? 34).map (·.size) = some 5 := by kernel_rfl
section
variable {o : Oper} {a : Act} {w : World}
theorem er_alChE (ho : o.op = .alloc 34) : (execOp a.eval o).run Tryz.prog w = .ok (.value (.pointer (some ⟨w.heap.size, 0, none⟩))) (w.alloc (.cells #[.int .i64 0, .int .i64 0, .slice none 0 0, .int .i64 0, .int .i64 0] 34)) := by
  simp only [execOp, ho, Instr.alloc, newVar]; simp [Value.cells, go_sem]
end
section
variable {o : Oper} {a : Act} {w : World}
theorem er_bsCh (x : Operand) (ho : o.op = .buildSlice 24 1 #[(0, x)]) (cs : List Value) (hl : cs.length = 5) (h1 : ∀ v ∈ cs, v.oneCell' = true) (hx : a.eval x = .agg cs.toArray) : (execOp a.eval o).run Tryz.prog w = .ok (.value (.slice (some ⟨w.heap.size, 0, none⟩) 1 1)) (w.alloc (.cells cs.toArray 34)) := by
  match cs, hl with
  | [e0, e1, e2, e3, e4], _ =>
    simp only [execOp, ho, List.map_toArray, List.map_cons, List.map_nil, hx]
    simp [go_sem]
end
section
variable {o : Oper} {a : Act} {w : World}
theorem er_appCh (s x : Operand) (ho : o.op = .call { callee := .builtin .append, args := #[s, x], argTypes := #[24, 24] }) (u v r : Value) {w' : World} (hs : a.eval s = u) (hx : a.eval x = v) (hr : (Builtin.append_ #[24, 24] o.type #[u, v]).run Tryz.prog w = .ok r w') : (execOp a.eval o).run Tryz.prog w = .ok (.value r) w' := by
  simp only [execOp, ho, resolve, invoke, builtin, Sem.run_bind, Sem.run_pure, Result.andThen_ok, List.map_toArray, List.map_cons, List.map_nil, hs, hx, hr]
end
theorem box_ChE (w : World) (cs : List Value) (hl : cs.length = 5) (h1 : ∀ v ∈ cs, v.oneCell' = true) :
    ∃ w2, (Instr.storeAt 34 (.pointer (some ⟨w.heap.size, 0, none⟩)) (.agg cs.toArray)).run Tryz.prog (w.alloc (.cells #[.int .i64 0, .int .i64 0, .slice none 0 0, .int .i64 0, .int .i64 0] 34)) = .ok () w2 ∧
      (Instr.loadAt 34 (.pointer (some ⟨w.heap.size, 0, none⟩))).run Tryz.prog w2 = .ok (.agg cs.toArray) w2 ∧ Kept No w w2 := by
  have hb : Bk (w.alloc (.cells #[.int .i64 0, .int .i64 0, .slice none 0 0, .int .i64 0, .int .i64 0] 34)) w.heap.size [.int .i64 0, .int .i64 0, .slice none 0 0, .int .i64 0, .int .i64 0] 34 := heap_alloc_new w _
  have ht : (w.alloc (.cells #[.int .i64 0, .int .i64 0, .slice none 0 0, .int .i64 0, .int .i64 0] 34)).there w.heap.size 0 5 := by
    intro j hj
    rw [Nat.zero_add]
    refine ⟨?_, hb.fz j⟩
    obtain ⟨v, hv⟩ : ∃ v, ([.int .i64 0, .int .i64 0, .slice none 0 0, .int .i64 0, .int .i64 0] : List Value)[j]? = some v := ⟨_, List.getElem?_eq_getElem (by simpa using hj)⟩
    rw [hb.cell hv]; rfl
  refine ⟨(w.alloc (.cells #[.int .i64 0, .int .i64 0, .slice none 0 0, .int .i64 0, .int .i64 0] 34)).setCells w.heap.size 0 cs, ?_, ?_, ?_⟩
  · exact run_storeAt_mid _ w.heap.size 0 _ cs.toArray (by simpa [hl] using ht) (by rw [sizeECh]; simp [hl]) (all_oneCell_toArray h1)
  · exact run_loadAt_mid _ w.heap.size 0 _ cs _ (World.rangeAt_setCells_same _ _ _ _ (by rw [hl]; exact ht)) Tryz.underlying34 rfl (by rw [hl]; exact sizeECh)
  · exact setCells_kept _ _ _ _ _ ((Kept.refl No w).alloc _) (Nat.le_refl _)
theorem set3 {w : World} {b : Nat} {t : TypeId} {u0 u1 u2 : Value} (h : Bk w b [u0, u1, u2] t) (v0 v1 v2 : Value) : Bk (((w.setCell ⟨b, 0, none⟩ v0).setCell ⟨b, 1, none⟩ v1).setCell ⟨b, 2, none⟩ v2) b [v0, v1, v2] t := ((h.set 0 v0).set 1 v1).set 2 v2
theorem setK3 (w : World) (b : Nat) (v0 v1 v2 : Value) : Kept (fun k => k = b) w (((w.setCell ⟨b, 0, none⟩ v0).setCell ⟨b, 1, none⟩ v1).setCell ⟨b, 2, none⟩ v2) := (((Kept.refl (fun k => k = b) w).setCell (p := ⟨b, 0, none⟩) (.inl rfl) _).setCell (p := ⟨b, 1, none⟩) (.inl rfl) _).setCell (p := ⟨b, 2, none⟩) (.inl rfl) _
theorem Ls.of_rows {α : Type} {sz : Nat} {El : World → (Nat → Prop) → List Value → α → Prop} {w : World} {F : Nat → Prop} {B : Nat} {t : TypeId} {a : Option Addr} {n c : Nat} {l : List α} {css : List (List Value)} (hz : 0 < sz)
    (h : w.ownsRow B t sz (.slice a n c) l.length css.flatten) (hc : css.length = l.length) (hl : ∀ cs ∈ css, cs.length = sz) (hF : ∀ g, B ≤ g → g < w.heap.size → F g) (hE : ∀ (i : Nat) cs x, css[i]? = some cs → l[i]? = some x → El w F cs x) : Ls sz El w F a n c l := by
  have hlt := h.lt
  have hcells := h
  obtain ⟨_, ⟨h1, h2⟩ | ⟨g, cap, cur, h1, hb, hg, hn, hm, _, _⟩⟩ := h
  · injection h1 with e1 e2 e3
    subst e1 e2 e3
    refine ⟨h2, Nat.le_refl _, by omega, fun _ => rfl, fun i x hx => ?_⟩
    have : l = [] := List.eq_nil_of_length_eq_zero h2
    subst this
    simp at hx
  · injection h1 with e1 e2 e3
    subst e1 e2 e3
    refine ⟨rfl, hn, hm, fun h => (by cases h), fun i x hx => ?_⟩
    obtain ⟨cs, hcs⟩ : ∃ cs, css[i]? = some cs := ⟨_, List.getElem?_eq_getElem (by rw [hc]; exact (List.getElem?_eq_some_iff.1 hx).1)⟩
    have hcl := hl cs (List.mem_of_getElem? hcs)
    have hq := hlt g rfl
    refine ⟨g, 0, cs, rfl, hF g hq.1 hq.2, hcl, ?_, hE i cs x hcs hx⟩
    intro j u hj
    have hjl : j < sz := by rw [← hcl]; exact (List.getElem?_eq_some_iff.1 hj).1
    have e := flat_get sz css hl i j cs hcs hjl
    have := hcells.cells (g := g) rfl (i * sz + j) u (by rw [e]; exact hj)
    rw [add_none, Nat.zero_add] at this
    rw [Nat.zero_add]
    exact this
theorem flat_ls {α : Type} {sz : Nat} {cl : α → List Value} {El : World → (Nat → Prop) → List Value → α → Prop} {ok : α → Prop} {w : World} {F : Nat → Prop} {B : Nat} {t : TypeId} {a : Option Addr} {n c : Nat} {l : List α} (hz : 0 < sz)
    (h : w.ownsRow B t sz (.slice a n c) l.length ((l.map cl).flatten)) (hcl : ∀ x, (cl x).length = sz) (ho : okL ok l) (hF : ∀ g, B ≤ g → g < w.heap.size → F g) (hE : ∀ x, ok x → El w F (cl x) x) : Ls sz El w F a n c l := by
  refine Ls.of_rows (css := l.map cl) hz h (by simp) (fun cs hm => ?_) hF (fun i cs x hc hx => ?_)
  · rw [List.mem_map] at hm
    obtain ⟨x, _, rfl⟩ := hm
    exact hcl x
  · rw [List.getElem?_map, hx] at hc
    simp at hc
    subst hc
    exact hE x (ho x (List.mem_of_getElem? hx))
/-- where what is handed in lies -/
def Hn (W : World) (k : Nat) : Prop := k < W.heap.size
/-- how long the lists of a channel, of a partition, of an image may be -/
def szCh (x : Ch) : Prop := x.dst.length * 8 ≤ reachBytes
def szPn (x : Pn) : Prop := x.init.length * 8 ≤ reachBytes ∧ x.code.length * 8 ≤ reachBytes ∧ x.procs.length * 48 ≤ reachBytes ∧ x.sems.length * 16 ≤ reachBytes ∧ x.evs.length ≤ reachBytes ∧ x.bufs.length * 16 ≤ reachBytes
def szIm (x : Im) : Prop := x.parts.length * 264 ≤ reachBytes ∧ x.ports.length * 48 ≤ reachBytes ∧ x.chans.length * 56 ≤ reachBytes ∧ (∀ p ∈ x.parts, szPn p) ∧ ∀ c ∈ x.chans, szCh c
end Go.Proofs.YtggejpccjmolhaaGreatDoor
