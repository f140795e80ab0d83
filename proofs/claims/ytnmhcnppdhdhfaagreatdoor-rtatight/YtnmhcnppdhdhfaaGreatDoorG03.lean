/-
  One text: IDt, CFPn.
-/
import Derived.Test.YtnmhcnppdhdhfaaGreatDoorG02
import Derived.Deep.MidRow
import Derived.BigQuiet
namespace Go.Proofs.YtnmhcnppdhdhfaaGreatDoor
open Go.RowKit
set_option linter.unusedVariables false
set_option maxRecDepth 100000

def okL {α : Type} (ok : α → Prop) (l : List α) : Prop := ∀ x ∈ l, ok x
def U8 (x : Int) : Prop := 0 ≤ x ∧ x < 256
def I3 (x : Int) : Prop := -2147483648 ≤ x ∧ x ≤ 2147483647
structure Ins where
  op : Int
  a : Int
  b : Int
  c : Int
  imm : Int
def okIns (x : Ins) : Prop := U8 x.op ∧ U8 x.a ∧ U8 x.b ∧ U8 x.c ∧ I3 x.imm
structure Prc where
  en : Int
  pr : Int
  pe : Int
  li : Int
  ca : Int
  auto : Bool
def okPrc (x : Prc) : Prop := I6 x.en ∧ I6 x.pr ∧ I6 x.pe ∧ I6 x.li ∧ I6 x.ca ∧ (fun _ : Bool => True) x.auto
structure Sm where
  st : Int
  mx : Int
def okSm (x : Sm) : Prop := I6 x.st ∧ I6 x.mx
structure Bf where
  sz : Int
  dp : Int
def okBf (x : Bf) : Prop := I6 x.sz ∧ I6 x.dp
structure Po where
  pt : Int
  kd : Int
  out : Bool
  sz : Int
  dp : Int
  rf : Int
def okPo (x : Po) : Prop := I6 x.pt ∧ I6 x.kd ∧ (fun _ : Bool => True) x.out ∧ I6 x.sz ∧ I6 x.dp ∧ I6 x.rf
structure Ch where
  kd : Int
  fr : Int
  dst : List Int
  ph : Int
  pe : Int
def okCh (x : Ch) : Prop := I6 x.kd ∧ I6 x.fr ∧ okL I6 x.dst ∧ I6 x.ph ∧ I6 x.pe
structure Pn where
  pe : Int
  bu : Int
  off : Int
  pr : Int
  wo : Int
  fi : Int
  init : List Int
  code : List Ins
  procs : List Prc
  ha : Int
  h0 : Int
  h1 : Int
  h2 : Int
  h3 : Int
  h4 : Int
  h5 : Int
  h6 : Int
  h7 : Int
  sems : List Sm
  evs : List Bool
  bufs : List Bf
def okPn (x : Pn) : Prop := I6 x.pe ∧ I6 x.bu ∧ I6 x.off ∧ I6 x.pr ∧ I6 x.wo ∧ I6 x.fi ∧ okL I6 x.init ∧ okL okIns x.code ∧ okL okPrc x.procs ∧ I6 x.ha ∧ I6 x.h0 ∧ I6 x.h1 ∧ I6 x.h2 ∧ I6 x.h3 ∧ I6 x.h4 ∧ I6 x.h5 ∧ I6 x.h6 ∧ I6 x.h7 ∧ okL okSm x.sems ∧ okL (fun _ => True) x.evs ∧ okL okBf x.bufs
structure Im where
  parts : List Pn
  ports : List Po
  chans : List Ch
def okIm (x : Im) : Prop := okL okPn x.parts ∧ okL okPo x.ports ∧ okL okCh x.chans

/-- a slice of elements of so many cells each, told by what an element's cells mean; its blocks lie in F -/
structure Ls {α : Type} (sz : Nat) (El : World → (Nat → Prop) → List Value → α → Prop) (w : World) (F : Nat → Prop) (a : Option Addr) (n c : Nat) (xs : List α) : Prop where
  len : xs.length = n
  cap : n ≤ c
  max : c ≤ 9223372036854775807
  nil : a = none → c = 0
  at' : ∀ i x, xs[i]? = some x → ∃ b o cs, a = some ⟨b, o, none⟩ ∧ F b ∧ cs.length = sz ∧ w.rangeAt b (o + i * sz) cs ∧ El w F cs x

theorem rangeAt_kept {G : Nat → Prop} {w w' : World} {b o : Nat} {cs : List Value} (h : w.rangeAt b o cs) (k : Kept G w w') (hb : ¬ G b) : w'.rangeAt b o cs :=
  fun j v hv => k.cell (h j v hv) hb
theorem Ls.kept {α : Type} {sz : Nat} {El : World → (Nat → Prop) → List Value → α → Prop} {w w' : World} {F G : Nat → Prop} {a : Option Addr} {n c : Nat} {xs : List α}
    (h : Ls sz El w F a n c xs) (k : Kept G w w') (hd : ∀ b, F b → ¬ G b) (he : ∀ cs x, El w F cs x → El w' F cs x) : Ls sz El w' F a n c xs :=
  ⟨h.len, h.cap, h.max, h.nil, fun i x hx => by obtain ⟨b, o, cs, e, hb, hl, hr, hE⟩ := h.at' i x hx; exact ⟨b, o, cs, e, hb, hl, rangeAt_kept hr k (hd b hb), he cs x hE⟩⟩
theorem Ls.mono {α : Type} {sz : Nat} {El : World → (Nat → Prop) → List Value → α → Prop} {w : World} {F G : Nat → Prop} {a : Option Addr} {n c : Nat} {xs : List α}
    (h : Ls sz El w F a n c xs) (hF : ∀ k, F k → G k) (he : ∀ cs x, El w F cs x → El w G cs x) : Ls sz El w G a n c xs :=
  ⟨h.len, h.cap, h.max, h.nil, fun i x hx => by obtain ⟨b, o, cs, e, hb, hl, hr, hE⟩ := h.at' i x hx; exact ⟨b, o, cs, e, hF b hb, hl, hr, he cs x hE⟩⟩
theorem Ls.all {α : Type} {sz : Nat} {El : World → (Nat → Prop) → List Value → α → Prop} {w : World} {F : Nat → Prop} {a : Option Addr} {n c : Nat} {xs : List α}
    (h : Ls sz El w F a n c xs) {ok : α → Prop} (he : ∀ cs x, El w F cs x → ok x) : okL ok xs := by
  intro x hx
  obtain ⟨i, hi⟩ := List.getElem?_of_mem hx
  obtain ⟨b, o, cs, e, hb, hl, hr, hE⟩ := h.at' i x hi
  exact he cs x hE

/-! ### what an element's cells are -/
def elI (w : World) (F : Nat → Prop) (cs : List Value) (x : Int) : Prop := cs = [.int .i64 x] ∧ I6 x
def elB (w : World) (F : Nat → Prop) (cs : List Value) (x : Bool) : Prop := cs = [.bool x]
def elIns (w : World) (F : Nat → Prop) (cs : List Value) (x : Ins) : Prop := cs = [.int .u8 x.op, .int .u8 x.a, .int .u8 x.b, .int .u8 x.c, .int .i32 x.imm] ∧ okIns x
def elPrc (w : World) (F : Nat → Prop) (cs : List Value) (x : Prc) : Prop := cs = [.int .i64 x.en, .int .i64 x.pr, .int .i64 x.pe, .int .i64 x.li, .int .i64 x.ca, .bool x.auto] ∧ okPrc x
def elSm (w : World) (F : Nat → Prop) (cs : List Value) (x : Sm) : Prop := cs = [.int .i64 x.st, .int .i64 x.mx] ∧ okSm x
def elBf (w : World) (F : Nat → Prop) (cs : List Value) (x : Bf) : Prop := cs = [.int .i64 x.sz, .int .i64 x.dp] ∧ okBf x
def elPo (w : World) (F : Nat → Prop) (cs : List Value) (x : Po) : Prop := cs = [.int .i64 x.pt, .int .i64 x.kd, .bool x.out, .int .i64 x.sz, .int .i64 x.dp, .int .i64 x.rf] ∧ okPo x
/-- a channel; its list -/
structure elCh (w : World) (F : Nat → Prop) (cs : List Value) (x : Ch) : Prop where
  sl : ∃ a n c, cs = [.int .i64 x.kd, .int .i64 x.fr, .slice a n c, .int .i64 x.ph, .int .i64 x.pe] ∧ Ls 1 elI w F a n c x.dst
  ok : okCh x
/-- a partition; its lists -/
structure elPn (w : World) (F : Nat → Prop) (cs : List Value) (x : Pn) : Prop where
  sl : ∃ a0 n0 c0 a1 n1 c1 a2 n2 c2 a3 n3 c3 a4 n4 c4 a5 n5 c5, cs = [.int .i64 x.pe, .int .i64 x.bu, .int .i64 x.off, .int .i64 x.pr, .int .i64 x.wo, .int .i64 x.fi, .slice a0 n0 c0, .slice a1 n1 c1, .slice a2 n2 c2, .int .i64 x.ha, .int .i64 x.h0, .int .i64 x.h1, .int .i64 x.h2, .int .i64 x.h3, .int .i64 x.h4, .int .i64 x.h5, .int .i64 x.h6, .int .i64 x.h7, .slice a3 n3 c3, .slice a4 n4 c4, .slice a5 n5 c5] ∧
    Ls 1 elI w F a0 n0 c0 x.init ∧ Ls 5 elIns w F a1 n1 c1 x.code ∧ Ls 6 elPrc w F a2 n2 c2 x.procs ∧ Ls 2 elSm w F a3 n3 c3 x.sems ∧ Ls 1 elB w F a4 n4 c4 x.evs ∧ Ls 2 elBf w F a5 n5 c5 x.bufs
  ok : okPn x

theorem elI_kept {G : Nat → Prop} {w w' : World} {F : Nat → Prop} (k : Kept G w w') (hd : ∀ b, F b → ¬ G b) : ∀ cs x, elI w F cs x → elI w' F cs x := fun _ _ h => h
theorem elB_kept {G : Nat → Prop} {w w' : World} {F : Nat → Prop} (k : Kept G w w') (hd : ∀ b, F b → ¬ G b) : ∀ cs x, elB w F cs x → elB w' F cs x := fun _ _ h => h
theorem elIns_kept {G : Nat → Prop} {w w' : World} {F : Nat → Prop} (k : Kept G w w') (hd : ∀ b, F b → ¬ G b) : ∀ cs x, elIns w F cs x → elIns w' F cs x := fun _ _ h => h
theorem elPrc_kept {G : Nat → Prop} {w w' : World} {F : Nat → Prop} (k : Kept G w w') (hd : ∀ b, F b → ¬ G b) : ∀ cs x, elPrc w F cs x → elPrc w' F cs x := fun _ _ h => h
theorem elSm_kept {G : Nat → Prop} {w w' : World} {F : Nat → Prop} (k : Kept G w w') (hd : ∀ b, F b → ¬ G b) : ∀ cs x, elSm w F cs x → elSm w' F cs x := fun _ _ h => h
theorem elBf_kept {G : Nat → Prop} {w w' : World} {F : Nat → Prop} (k : Kept G w w') (hd : ∀ b, F b → ¬ G b) : ∀ cs x, elBf w F cs x → elBf w' F cs x := fun _ _ h => h
theorem elPo_kept {G : Nat → Prop} {w w' : World} {F : Nat → Prop} (k : Kept G w w') (hd : ∀ b, F b → ¬ G b) : ∀ cs x, elPo w F cs x → elPo w' F cs x := fun _ _ h => h
theorem elCh_kept {G : Nat → Prop} {w w' : World} {F : Nat → Prop} (k : Kept G w w') (hd : ∀ b, F b → ¬ G b) : ∀ cs x, elCh w F cs x → elCh w' F cs x := fun cs x h => by
  obtain ⟨⟨a, n, c, e, h1⟩, ho⟩ := h
  exact ⟨⟨a, n, c, e, h1.kept k hd (elI_kept k hd)⟩, ho⟩
theorem elPn_kept {G : Nat → Prop} {w w' : World} {F : Nat → Prop} (k : Kept G w w') (hd : ∀ b, F b → ¬ G b) : ∀ cs x, elPn w F cs x → elPn w' F cs x := fun cs x h => by
  obtain ⟨⟨a0, n0, c0, a1, n1, c1, a2, n2, c2, a3, n3, c3, a4, n4, c4, a5, n5, c5, e, h0, h1, h2, h3, h4, h5⟩, ho⟩ := h
  exact ⟨⟨a0, n0, c0, a1, n1, c1, a2, n2, c2, a3, n3, c3, a4, n4, c4, a5, n5, c5, e, h0.kept k hd (elI_kept k hd), h1.kept k hd (elIns_kept k hd), h2.kept k hd (elPrc_kept k hd), h3.kept k hd (elSm_kept k hd), h4.kept k hd (elB_kept k hd), h5.kept k hd (elBf_kept k hd)⟩, ho⟩
theorem elCh_mono {w : World} {F G : Nat → Prop} (hF : ∀ k, F k → G k) : ∀ cs x, elCh w F cs x → elCh w G cs x := fun cs x h => by
  obtain ⟨⟨a, n, c, e, h1⟩, ho⟩ := h
  exact ⟨⟨a, n, c, e, h1.mono hF (fun _ _ h => h)⟩, ho⟩
theorem elPn_mono {w : World} {F G : Nat → Prop} (hF : ∀ k, F k → G k) : ∀ cs x, elPn w F cs x → elPn w G cs x := fun cs x h => by
  obtain ⟨⟨a0, n0, c0, a1, n1, c1, a2, n2, c2, a3, n3, c3, a4, n4, c4, a5, n5, c5, e, h0, h1, h2, h3, h4, h5⟩, ho⟩ := h
  exact ⟨⟨a0, n0, c0, a1, n1, c1, a2, n2, c2, a3, n3, c3, a4, n4, c4, a5, n5, c5, e, h0.mono hF (fun _ _ h => h), h1.mono hF (fun _ _ h => h), h2.mono hF (fun _ _ h => h), h3.mono hF (fun _ _ h => h), h4.mono hF (fun _ _ h => h), h5.mono hF (fun _ _ h => h)⟩, ho⟩

/-- an image that is read -/
structure Img (w : World) (F : Nat → Prop) (a0 : Option Addr) (n0 c0 : Nat) (a1 : Option Addr) (n1 c1 : Nat) (a2 : Option Addr) (n2 c2 : Nat) (x : Im) : Prop where
  ps : Ls 21 elPn w F a0 n0 c0 x.parts
  qs : Ls 6 elPo w F a1 n1 c1 x.ports
  cs : Ls 5 elCh w F a2 n2 c2 x.chans
theorem Img.kept {w w' : World} {F G : Nat → Prop} {a0 : Option Addr} {n0 c0 : Nat} {a1 : Option Addr} {n1 c1 : Nat} {a2 : Option Addr} {n2 c2 : Nat} {x : Im} (h : Img w F a0 n0 c0 a1 n1 c1 a2 n2 c2 x) (k : Kept G w w') (hd : ∀ b, F b → ¬ G b) : Img w' F a0 n0 c0 a1 n1 c1 a2 n2 c2 x :=
  ⟨h.ps.kept k hd (elPn_kept k hd), h.qs.kept k hd (elPo_kept k hd), h.cs.kept k hd (elCh_kept k hd)⟩
theorem Img.mono {w : World} {F G : Nat → Prop} {a0 : Option Addr} {n0 c0 : Nat} {a1 : Option Addr} {n1 c1 : Nat} {a2 : Option Addr} {n2 c2 : Nat} {x : Im} (h : Img w F a0 n0 c0 a1 n1 c1 a2 n2 c2 x) (hF : ∀ k, F k → G k) : Img w G a0 n0 c0 a1 n1 c1 a2 n2 c2 x :=
  ⟨h.ps.mono hF (elPn_mono hF), h.qs.mono hF (fun _ _ h => h), h.cs.mono hF (elCh_mono hF)⟩
theorem Img.ok {w : World} {F : Nat → Prop} {a0 : Option Addr} {n0 c0 : Nat} {a1 : Option Addr} {n1 c1 : Nat} {a2 : Option Addr} {n2 c2 : Nat} {x : Im} (h : Img w F a0 n0 c0 a1 n1 c1 a2 n2 c2 x) : okIm x :=
  ⟨h.ps.all (fun _ _ h => h.ok), h.qs.all (fun _ _ h => h.2), h.cs.all (fun _ _ h => h.ok)⟩

end Go.Proofs.YtnmhcnppdhdhfaaGreatDoor

namespace Go.Proofs.YtnmhcnppdhdhfaaGreatDoor
open Go.RowKit
set_option linter.unusedVariables false
set_option maxRecDepth 100000

section
variable {P : Program} {ops : Array Oper} {Q : Exit → Act → World → Prop} {rest : List Oper} {op : Oper} {a : Act} {w : World}
theorem wg_val {w' : World} {v : Value} (hw : Region.wanted op (yielded ops a.tmps) = true) (hr : (execOp a.eval op).run P w = .ok (.value v) w') (h : wpList P ops Q rest (a.put op.dst v) w') : wpList P ops Q (op :: rest) a w :=
  BigFrame.wpList_want hw fun K hK => by unfold Oper.wp; rw [hr]; exact hK _ _ h
theorem l_take (k : Nat) {v : Value} (hd : op.dst = some k) (hw : Region.wanted op (yielded ops a.tmps) = true) (hr : (execOp a.eval op).run P w = .ok (.value v) w) (h : wpList P ops Q rest (a.put (some k) v) w) : wpList P ops Q (op :: rest) a w :=
  wg_val hw hr (by rw [hd]; exact h)
theorem l_make (k : Nat) {v : Value} {w' : World} (hd : op.dst = some k) (hw : Region.wanted op (yielded ops a.tmps) = true) (hr : (execOp a.eval op).run P w = .ok (.value v) w') (h : wpList P ops Q rest (a.put (some k) v) w') : wpList P ops Q (op :: rest) a w :=
  wg_val hw hr (by rw [hd]; exact h)
theorem l_turn {w' : World} (hd : op.dst = none) (hw : Region.wanted op (yielded ops a.tmps) = true) (hr : (execOp a.eval op).run P w = .ok .skip w') (h : wpList P ops Q rest a w') : wpList P ops Q (op :: rest) a w :=
  BigFrame.wpList_want hw fun K hK => by unfold Oper.wp; rw [hr]; exact hK _ _ (by rw [hd]; exact h)
end

def Bk (w : World) (b : Nat) (cs : List Value) (t : TypeId) : Prop := w.heap[b]? = some (.cells cs.toArray t (0, 0))
theorem Bk.kept {G : Nat → Prop} {w w' : World} {b : Nat} {cs : List Value} {t : TypeId} (h : Bk w b cs t) (k : Kept G w w') (hb : ¬ G b) : Bk w' b cs t := k.at' h hb
theorem Bk.cell {w : World} {b : Nat} {cs : List Value} {t : TypeId} (h : Bk w b cs t) {j : Nat} {v : Value} (hj : cs[j]? = some v) : w.cell? ⟨b, j, none⟩ = some v := by
  unfold Bk at h; simp [World.cell?, h, hj]
theorem Bk.fz {w : World} {b : Nat} {cs : List Value} {t : TypeId} (h : Bk w b cs t) (j : Nat) : w.frozen? ⟨b, j, none⟩ = false := by
  unfold Bk at h; simp [World.frozen?, h]
theorem Bk.set {w : World} {b : Nat} {cs : List Value} {t : TypeId} (h : Bk w b cs t) (j : Nat) (v : Value) : Bk (w.setCell ⟨b, j, none⟩ v) b (cs.set j v) t := by
  unfold Bk at h ⊢
  simp [World.setCell, Array.getElem?_modify, h]
theorem Bk.other {w : World} {b b' : Nat} {cs : List Value} {t : TypeId} (h : Bk w b cs t) (j : Nat) (v : Value) (hne : b ≠ b') : Bk (w.setCell ⟨b', j, none⟩ v) b cs t :=
  ((Kept.refl (fun k => k = b') w).setCell (p := ⟨b', j, none⟩) (.inl rfl) v).at' h hne
theorem Bk.lt {w : World} {b : Nat} {cs : List Value} {t : TypeId} (h : Bk w b cs t) : b < w.heap.size := heap_lt h
theorem Bk.two (w : World) (o : Obj) (ds : List Value) (t : TypeId) : Bk ((w.alloc o).alloc (.cells ds.toArray t)) (w.heap.size + 1) ds t := by
  have e : (w.alloc o).heap.size = w.heap.size + 1 := by simp
  have h := heap_alloc_new (w.alloc o) (.cells ds.toArray t)
  rw [e] at h
  exact h


theorem Bk.range {w : World} {b : Nat} {cs : List Value} {t : TypeId} (h : Bk w b cs t) : w.rangeAt b 0 cs := fun j v hv => by
  rw [Nat.zero_add]; exact h.cell hv
theorem ldPn {w : World} {b : Nat} {cs : List Value} (h : w.rangeAt b 0 cs) (hl : cs.length = 21) : (Instr.loadAt 48 (.pointer (some ⟨b, 0, none⟩))).run Tryz.prog w = .ok (.agg cs.toArray) w :=
  run_loadAt_mid w b 0 _ cs _ h Tryz.underlying48 rfl (by rw [hl]; kernel_rfl)
theorem er_fR1 {w : World} {a : Act} {o : Oper} (x : Operand) (ho : o.op = .fieldAddr 187 x 1) (g : Nat) (hx : a.eval x = .pointer (some ⟨g, 0, none⟩)) : (execOp a.eval o).run Tryz.prog w = .ok (.value (.pointer (some ⟨g, 1, none⟩))) w := by simp only [execOp, ho, hx]; simp [go_sem, add_none]
theorem er_neqF {w : World} {a : Act} {o : Oper} (x : Operand) (ho : o.op = .binOp .neq 87 x (.const .nilFunc) 87) (k : Nat) (caps : Array Value) (hx : a.eval x = .func (.func k) #[] caps) : (execOp a.eval o).run Tryz.prog w = .ok (.value (.bool true)) w := by
  have q1 : ∀ w : World, (binOp .neq 87 (.func (.func k) #[] caps) .nilFunc).run Tryz.prog w = .ok (.bool true) w := fun w => by kernel_rfl
  simp only [execOp, ho, hx]
  simp [go_sem, q1, Act.eval]

set_option maxHeartbeats 4000000 in
theorem findsPn_alone_true (err : Int) (k : Nat) (caps : Array Value) (cs : List Value) (hl : cs.length = 21) (aa : Option Addr) (an ac : Nat) (w : World) (hen : Enters Tryz.prog k)
    (hc : ∀ w', Kept No w w' → Calls Tryz.prog k (#[.agg cs.toArray] ++ caps) w' fun e w'' => e = .returned (.bool true) ∧ Kept No w' w'') :
    Calls Tryz.prog 104 #[.agg #[.int .i64 err, .func (.func k) #[] caps, .nilFunc, .nilFunc], .agg cs.toArray, .slice aa an ac] w fun e w' => e = .returned (.int .i64 (0)) ∧ Kept No w w' := by
  have HK : Hid (Kept No w ((w.alloc (.cells #[.int .i64 err, .func (.func k) #[] caps, .nilFunc, .nilFunc] 187)).alloc (.cells cs.toArray 48))) := ((Kept.refl No w).alloc _).alloc _
  have hc1 := hc _ HK.out
  have HLD : Hid ((Instr.loadAt 48 (.pointer (some ⟨w.heap.size + 1, 0, none⟩))).run Tryz.prog ((w.alloc (.cells #[.int .i64 err, .func (.func k) #[] caps, .nilFunc, .nilFunc] 187)).alloc (.cells cs.toArray 48)) = .ok (.agg cs.toArray) ((w.alloc (.cells #[.int .i64 err, .func (.func k) #[] caps, .nilFunc, .nilFunc] 187)).alloc (.cells cs.toArray 48))) := ldPn (Bk.two w _ cs _).range hl
  have HM : Hid (∀ w', Kept No ((w.alloc (.cells #[.int .i64 err, .func (.func k) #[] caps, .nilFunc, .nilFunc] 187)).alloc (.cells cs.toArray 48)) w' → w'.cell? ⟨w.heap.size, 0, none⟩ = some (.int .i64 err) ∧ w'.cell? ⟨w.heap.size, 1, none⟩ = some (.func (.func k) #[] caps) ∧ w'.cell? ⟨w.heap.size, 2, none⟩ = some (.nilFunc) ∧ w'.cell? ⟨w.heap.size, 3, none⟩ = some (.nilFunc)) := fun w' k => ⟨k.cell (by simp) (fun h => h), k.cell (by simp) (fun h => h), k.cell (by simp) (fun h => h), k.cell (by simp) (fun h => h)⟩
  clear hc
  unfold Enters at hen
  have q1 : ∀ w : World, (binOp .neq 87 (.func (.func k) #[] caps) .nilFunc).run Tryz.prog w = .ok (.bool true) w := fun w => by kernel_rfl
  have q2 : ∀ w : World, (binOp .neq 184 (.nilFunc) .nilFunc).run Tryz.prog w = .ok (.bool false) w := fun w => by kernel_rfl
  have q3 : ∀ w : World, (binOp .neq 185 (.nilFunc) .nilFunc).run Tryz.prog w = .ok (.bool false) w := fun w => by kernel_rfl
  go_enter Tryz.func104, Tryz.ntmps104
  go_upto_region 1 with fail
  generalize (w.alloc (.cells #[.int .i64 err, .func (.func k) #[] caps, .nilFunc, .nilFunc] 187)).alloc (.cells cs.toArray 48) = w0 at *
  generalize Value.agg cs.toArray = av at *
  obtain ⟨n0, n1, n2, n3⟩ := HM.out w0 (Kept.refl No w0)
  have L1 : (Instr.loadAt 87 (.pointer (some ⟨w.heap.size, 1, none⟩))).run Tryz.prog w0 = .ok (.func (.func k) #[] caps) w0 := by simp [go_sem, n1]
  have HL1 : Hid ((Instr.loadAt 87 (.pointer (some ⟨w.heap.size, 1, none⟩))).run Tryz.prog w0 = .ok (.func (.func k) #[] caps) w0) := L1
  clear L1
  refine wp_region_lit ?_
  refine l_take 9 rfl rfl (er_fR1 _ rfl w.heap.size rfl) ?_
  simp only [Act.put, List.setIfInBounds_toArray, List.set_cons_zero, List.set_cons_succ]
  refine l_take 10 rfl rfl (er_ld _ _ rfl _ _ rfl HL1.out) ?_
  simp only [Act.put, List.setIfInBounds_toArray, List.set_cons_zero, List.set_cons_succ]
  refine l_take 11 rfl rfl (er_neqF _ rfl k caps rfl) ?_
  simp only [Act.put, List.setIfInBounds_toArray, List.set_cons_zero, List.set_cons_succ]
  refine l_take 12 rfl rfl (er_mv _ rfl (.bool true) rfl) ?_
  simp only [Act.put, List.setIfInBounds_toArray, List.set_cons_zero, List.set_cons_succ]
  refine l_take 13 rfl rfl (er_fR1 _ rfl w.heap.size rfl) ?_
  simp only [Act.put, List.setIfInBounds_toArray, List.set_cons_zero, List.set_cons_succ]
  refine l_take 14 rfl rfl (er_ld _ _ rfl _ _ rfl HL1.out) ?_
  simp only [Act.put, List.setIfInBounds_toArray, List.set_cons_zero, List.set_cons_succ]
  refine l_take 15 rfl rfl (er_ld _ _ rfl _ _ rfl HLD.out) ?_
  simp only [Act.put, List.setIfInBounds_toArray, List.set_cons_zero, List.set_cons_succ]
  go_wp2_with (first | (go_at_fn k; refine hc1.mono ?_; rintro e w' ⟨rfl, hk⟩; have HK2 : Hid (Kept No w w') := HK.out.trans hk (fun _ h => h.elim); obtain ⟨m0, m1, m2, m3⟩ := HM.out _ hk; clear hk))
  go_ret
  exact ⟨rfl, HK2.out⟩

set_option maxHeartbeats 4000000 in
theorem findsPn_alone_false (err : Int) (k : Nat) (caps : Array Value) (cs : List Value) (hl : cs.length = 21) (aa : Option Addr) (an ac : Nat) (w : World) (hen : Enters Tryz.prog k)
    (hc : ∀ w', Kept No w w' → Calls Tryz.prog k (#[.agg cs.toArray] ++ caps) w' fun e w'' => e = .returned (.bool false) ∧ Kept No w' w'') :
    Calls Tryz.prog 104 #[.agg #[.int .i64 err, .func (.func k) #[] caps, .nilFunc, .nilFunc], .agg cs.toArray, .slice aa an ac] w fun e w' => e = .returned (.int .i64 (err)) ∧ Kept No w w' := by
  have HK : Hid (Kept No w ((w.alloc (.cells #[.int .i64 err, .func (.func k) #[] caps, .nilFunc, .nilFunc] 187)).alloc (.cells cs.toArray 48))) := ((Kept.refl No w).alloc _).alloc _
  have hc1 := hc _ HK.out
  have HLD : Hid ((Instr.loadAt 48 (.pointer (some ⟨w.heap.size + 1, 0, none⟩))).run Tryz.prog ((w.alloc (.cells #[.int .i64 err, .func (.func k) #[] caps, .nilFunc, .nilFunc] 187)).alloc (.cells cs.toArray 48)) = .ok (.agg cs.toArray) ((w.alloc (.cells #[.int .i64 err, .func (.func k) #[] caps, .nilFunc, .nilFunc] 187)).alloc (.cells cs.toArray 48))) := ldPn (Bk.two w _ cs _).range hl
  have HM : Hid (∀ w', Kept No ((w.alloc (.cells #[.int .i64 err, .func (.func k) #[] caps, .nilFunc, .nilFunc] 187)).alloc (.cells cs.toArray 48)) w' → w'.cell? ⟨w.heap.size, 0, none⟩ = some (.int .i64 err) ∧ w'.cell? ⟨w.heap.size, 1, none⟩ = some (.func (.func k) #[] caps) ∧ w'.cell? ⟨w.heap.size, 2, none⟩ = some (.nilFunc) ∧ w'.cell? ⟨w.heap.size, 3, none⟩ = some (.nilFunc)) := fun w' k => ⟨k.cell (by simp) (fun h => h), k.cell (by simp) (fun h => h), k.cell (by simp) (fun h => h), k.cell (by simp) (fun h => h)⟩
  clear hc
  unfold Enters at hen
  have q1 : ∀ w : World, (binOp .neq 87 (.func (.func k) #[] caps) .nilFunc).run Tryz.prog w = .ok (.bool true) w := fun w => by kernel_rfl
  have q2 : ∀ w : World, (binOp .neq 184 (.nilFunc) .nilFunc).run Tryz.prog w = .ok (.bool false) w := fun w => by kernel_rfl
  have q3 : ∀ w : World, (binOp .neq 185 (.nilFunc) .nilFunc).run Tryz.prog w = .ok (.bool false) w := fun w => by kernel_rfl
  go_enter Tryz.func104, Tryz.ntmps104
  go_upto_region 1 with fail
  generalize (w.alloc (.cells #[.int .i64 err, .func (.func k) #[] caps, .nilFunc, .nilFunc] 187)).alloc (.cells cs.toArray 48) = w0 at *
  generalize Value.agg cs.toArray = av at *
  obtain ⟨n0, n1, n2, n3⟩ := HM.out w0 (Kept.refl No w0)
  have L1 : (Instr.loadAt 87 (.pointer (some ⟨w.heap.size, 1, none⟩))).run Tryz.prog w0 = .ok (.func (.func k) #[] caps) w0 := by simp [go_sem, n1]
  have HL1 : Hid ((Instr.loadAt 87 (.pointer (some ⟨w.heap.size, 1, none⟩))).run Tryz.prog w0 = .ok (.func (.func k) #[] caps) w0) := L1
  clear L1
  refine wp_region_lit ?_
  refine l_take 9 rfl rfl (er_fR1 _ rfl w.heap.size rfl) ?_
  simp only [Act.put, List.setIfInBounds_toArray, List.set_cons_zero, List.set_cons_succ]
  refine l_take 10 rfl rfl (er_ld _ _ rfl _ _ rfl HL1.out) ?_
  simp only [Act.put, List.setIfInBounds_toArray, List.set_cons_zero, List.set_cons_succ]
  refine l_take 11 rfl rfl (er_neqF _ rfl k caps rfl) ?_
  simp only [Act.put, List.setIfInBounds_toArray, List.set_cons_zero, List.set_cons_succ]
  refine l_take 12 rfl rfl (er_mv _ rfl (.bool true) rfl) ?_
  simp only [Act.put, List.setIfInBounds_toArray, List.set_cons_zero, List.set_cons_succ]
  refine l_take 13 rfl rfl (er_fR1 _ rfl w.heap.size rfl) ?_
  simp only [Act.put, List.setIfInBounds_toArray, List.set_cons_zero, List.set_cons_succ]
  refine l_take 14 rfl rfl (er_ld _ _ rfl _ _ rfl HL1.out) ?_
  simp only [Act.put, List.setIfInBounds_toArray, List.set_cons_zero, List.set_cons_succ]
  refine l_take 15 rfl rfl (er_ld _ _ rfl _ _ rfl HLD.out) ?_
  simp only [Act.put, List.setIfInBounds_toArray, List.set_cons_zero, List.set_cons_succ]
  go_wp2_with (first | (go_at_fn k; refine hc1.mono ?_; rintro e w' ⟨rfl, hk⟩; have HK2 : Hid (Kept No w w') := HK.out.trans hk (fun _ h => h.elim); obtain ⟨m0, m1, m2, m3⟩ := HM.out _ hk; clear hk))
  go_ret
  exact ⟨rfl, HK2.out⟩

set_option maxHeartbeats 4000000 in
theorem findsPn_inner (err : Int) (k : Nat) (caps : Array Value) (cs : List Value) (hl : cs.length = 21) (aa : Option Addr) (an ac : Nat) (w : World) (hg : Gl w) (hen : Enters Tryz.prog k) (fo : Option (Int × Int))
    (hc : ∀ w', Kept No w w' → Calls Tryz.prog k (#[.agg cs.toArray] ++ caps) w' fun e w'' => e = .returned (fv fo) ∧ Kept No w' w'') :
    Calls Tryz.prog 104 #[.agg #[.int .i64 err, .nilFunc, .nilFunc, .func (.func k) #[] caps], .agg cs.toArray, .slice aa an ac] w fun e w' => e = .returned (.int .i64 (fe fo)) ∧ Kept No w w' := by
  have HK : Hid (Kept No w ((w.alloc (.cells #[.int .i64 err, .nilFunc, .nilFunc, .func (.func k) #[] caps] 187)).alloc (.cells cs.toArray 48))) := ((Kept.refl No w).alloc _).alloc _
  have hc1 := hc _ HK.out
  have HLD : Hid ((Instr.loadAt 48 (.pointer (some ⟨w.heap.size + 1, 0, none⟩))).run Tryz.prog ((w.alloc (.cells #[.int .i64 err, .nilFunc, .nilFunc, .func (.func k) #[] caps] 187)).alloc (.cells cs.toArray 48)) = .ok (.agg cs.toArray) ((w.alloc (.cells #[.int .i64 err, .nilFunc, .nilFunc, .func (.func k) #[] caps] 187)).alloc (.cells cs.toArray 48))) := ldPn (Bk.two w _ cs _).range hl
  have HM : Hid (∀ w', Kept No ((w.alloc (.cells #[.int .i64 err, .nilFunc, .nilFunc, .func (.func k) #[] caps] 187)).alloc (.cells cs.toArray 48)) w' → w'.cell? ⟨w.heap.size, 0, none⟩ = some (.int .i64 err) ∧ w'.cell? ⟨w.heap.size, 1, none⟩ = some (.nilFunc) ∧ w'.cell? ⟨w.heap.size, 2, none⟩ = some (.nilFunc) ∧ w'.cell? ⟨w.heap.size, 3, none⟩ = some (.func (.func k) #[] caps)) := fun w' k => ⟨k.cell (by simp) (fun h => h), k.cell (by simp) (fun h => h), k.cell (by simp) (fun h => h), k.cell (by simp) (fun h => h)⟩
  have HG : Hid (Gl w) := hg
  clear hg
  clear hc
  unfold Enters at hen
  have q1 : ∀ w : World, (binOp .neq 87 (.nilFunc) .nilFunc).run Tryz.prog w = .ok (.bool false) w := fun w => by kernel_rfl
  have q2 : ∀ w : World, (binOp .neq 184 (.nilFunc) .nilFunc).run Tryz.prog w = .ok (.bool false) w := fun w => by kernel_rfl
  have q3 : ∀ w : World, (binOp .neq 185 (.func (.func k) #[] caps) .nilFunc).run Tryz.prog w = .ok (.bool true) w := fun w => by kernel_rfl
  go_enter Tryz.func104, Tryz.ntmps104
  go_upto_region 1 with fail
  generalize (w.alloc (.cells #[.int .i64 err, .nilFunc, .nilFunc, .func (.func k) #[] caps] 187)).alloc (.cells cs.toArray 48) = w0 at *
  generalize Value.agg cs.toArray = av at *
  obtain ⟨n0, n1, n2, n3⟩ := HM.out w0 (Kept.refl No w0)
  go_wp2_with (first | (refine l_take 40 rfl rfl (er_ld _ _ rfl _ _ rfl HLD.out) ?_) | (go_at_fn k; refine hc1.mono ?_; rintro e w' ⟨rfl, hk⟩; have HK2 : Hid (Kept No w w') := HK.out.trans hk (fun _ h => h.elim); obtain ⟨m0, m1, m2, m3⟩ := HM.out _ hk; clear hk) | (go_at_call 35; refine (told_any fo _ (HG.out.kept HK2.out)).mono ?_; rintro e w3 ⟨rfl, hk⟩; have HK3 : Hid (Kept No w w3) := HK2.out.trans hk (fun _ h => h.elim); clear hk))
  go_ret
  exact ⟨rfl, HK3.out⟩

end Go.Proofs.YtnmhcnppdhdhfaaGreatDoor
