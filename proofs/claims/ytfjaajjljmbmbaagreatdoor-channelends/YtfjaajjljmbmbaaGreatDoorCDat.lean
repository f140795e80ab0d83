/-
  Images as plain data, and in memory (no dump).
-/
import Derived.Test.YtfjaajjljmbmbaaGreatDoorHeap
import Derived.Deep.MidRow
import Derived.Deep.Cut
namespace Go.Proofs.YtfjaajjljmbmbaaGreatDoor
open Go.RowKit
set_option linter.unusedVariables false
set_option maxRecDepth 100000

def I6 (x : Int) : Prop := -9223372036854775808 ≤ x ∧ x ≤ 9223372036854775807
def okL {α : Type} (ok : α → Prop) (l : List α) : Prop := ∀ x ∈ l, ok x
structure Ins where
  op : Int
  a : Int
  b : Int
  c : Int
  imm : Int
def U8 (x : Int) : Prop := 0 ≤ x ∧ x < 256
def I3 (x : Int) : Prop := -2147483648 ≤ x ∧ x ≤ 2147483647
def okIns (x : Ins) : Prop := U8 x.op ∧ U8 x.a ∧ U8 x.b ∧ U8 x.c ∧ I3 x.imm
structure Prc where
  en : Int
  pr : Int
  pe : Int
  li : Int
  ca : Int
  auto : Bool
def okPrc (x : Prc) : Prop := I6 x.en ∧ I6 x.pr ∧ I6 x.pe ∧ I6 x.li ∧ I6 x.ca ∧ (fun _ : Bool => True) x.auto
structure Sm where
  st : Int
  mx : Int
def okSm (x : Sm) : Prop := I6 x.st ∧ I6 x.mx
structure Bf where
  sz : Int
  dp : Int
def okBf (x : Bf) : Prop := I6 x.sz ∧ I6 x.dp
structure Po where
  pt : Int
  kd : Int
  out : Bool
  sz : Int
  dp : Int
  rf : Int
def okPo (x : Po) : Prop := I6 x.pt ∧ I6 x.kd ∧ (fun _ : Bool => True) x.out ∧ I6 x.sz ∧ I6 x.dp ∧ I6 x.rf
structure Ch where
  kd : Int
  fr : Int
  dst : List Int
  ph : Int
  pe : Int
def okCh (x : Ch) : Prop := I6 x.kd ∧ I6 x.fr ∧ okL I6 x.dst ∧ I6 x.ph ∧ I6 x.pe
structure Pn where
  pe : Int
  bu : Int
  off : Int
  pr : Int
  wo : Int
  fi : Int
  init : List Int
  code : List Ins
  procs : List Prc
  ha : Int
  h0 : Int
  h1 : Int
  h2 : Int
  h3 : Int
  h4 : Int
  h5 : Int
  h6 : Int
  h7 : Int
  sems : List Sm
  evs : List Bool
  bufs : List Bf
def okPn (x : Pn) : Prop := I6 x.pe ∧ I6 x.bu ∧ I6 x.off ∧ I6 x.pr ∧ I6 x.wo ∧ I6 x.fi ∧ okL I6 x.init ∧ okL okIns x.code ∧ okL okPrc x.procs ∧ I6 x.ha ∧ I6 x.h0 ∧ I6 x.h1 ∧ I6 x.h2 ∧ I6 x.h3 ∧ I6 x.h4 ∧ I6 x.h5 ∧ I6 x.h6 ∧ I6 x.h7 ∧ okL okSm x.sems ∧ okL (fun _ => True) x.evs ∧ okL okBf x.bufs
structure Im where
  parts : List Pn
  ports : List Po
  chans : List Ch
def okIm (x : Im) : Prop := okL okPn x.parts ∧ okL okPo x.ports ∧ okL okCh x.chans

/-- a slice of elements of so many cells each, told by what an element's cells mean; its blocks lie in F -/
structure Ls {α : Type} (sz : Nat) (El : World → (Nat → Prop) → List Value → α → Prop) (w : World) (F : Nat → Prop) (a : Option Addr) (n c : Nat) (xs : List α) : Prop where
  len : xs.length = n
  cap : n ≤ c
  max : c ≤ 9223372036854775807
  nil : a = none → c = 0
  at' : ∀ i x, xs[i]? = some x → ∃ b o cs, a = some ⟨b, o, none⟩ ∧ F b ∧ cs.length = sz ∧ w.rangeAt b (o + i * sz) cs ∧ El w F cs x

theorem rangeAt_kept {G : Nat → Prop} {w w' : World} {b o : Nat} {cs : List Value} (h : w.rangeAt b o cs) (k : Kept G w w') (hb : ¬ G b) : w'.rangeAt b o cs :=
  fun j v hv => k.cell (h j v hv) hb
theorem Ls.kept {α : Type} {sz : Nat} {El : World → (Nat → Prop) → List Value → α → Prop} {w w' : World} {F G : Nat → Prop} {a : Option Addr} {n c : Nat} {xs : List α}
    (h : Ls sz El w F a n c xs) (k : Kept G w w') (hd : ∀ b, F b → ¬ G b) (he : ∀ cs x, El w F cs x → El w' F cs x) : Ls sz El w' F a n c xs :=
  ⟨h.len, h.cap, h.max, h.nil, fun i x hx => by obtain ⟨b, o, cs, e, hb, hl, hr, hE⟩ := h.at' i x hx; exact ⟨b, o, cs, e, hb, hl, rangeAt_kept hr k (hd b hb), he cs x hE⟩⟩
theorem Ls.mono {α : Type} {sz : Nat} {El : World → (Nat → Prop) → List Value → α → Prop} {w : World} {F G : Nat → Prop} {a : Option Addr} {n c : Nat} {xs : List α}
    (h : Ls sz El w F a n c xs) (hF : ∀ k, F k → G k) (he : ∀ cs x, El w F cs x → El w G cs x) : Ls sz El w G a n c xs :=
  ⟨h.len, h.cap, h.max, h.nil, fun i x hx => by obtain ⟨b, o, cs, e, hb, hl, hr, hE⟩ := h.at' i x hx; exact ⟨b, o, cs, e, hF b hb, hl, hr, he cs x hE⟩⟩
theorem Ls.all {α : Type} {sz : Nat} {El : World → (Nat → Prop) → List Value → α → Prop} {w : World} {F : Nat → Prop} {a : Option Addr} {n c : Nat} {xs : List α}
    (h : Ls sz El w F a n c xs) {ok : α → Prop} (he : ∀ cs x, El w F cs x → ok x) : okL ok xs := by
  intro x hx
  obtain ⟨i, hi⟩ := List.getElem?_of_mem hx
  obtain ⟨b, o, cs, e, hb, hl, hr, hE⟩ := h.at' i x hi
  exact he cs x hE

/-! ### what an element's cells are -/
def elI (w : World) (F : Nat → Prop) (cs : List Value) (x : Int) : Prop := cs = [.int .i64 x] ∧ I6 x
def elB (w : World) (F : Nat → Prop) (cs : List Value) (x : Bool) : Prop := cs = [.bool x]
def elIns (w : World) (F : Nat → Prop) (cs : List Value) (x : Ins) : Prop := cs = [.int .u8 x.op, .int .u8 x.a, .int .u8 x.b, .int .u8 x.c, .int .i32 x.imm] ∧ okIns x
def elPrc (w : World) (F : Nat → Prop) (cs : List Value) (x : Prc) : Prop := cs = [.int .i64 x.en, .int .i64 x.pr, .int .i64 x.pe, .int .i64 x.li, .int .i64 x.ca, .bool x.auto] ∧ okPrc x
def elSm (w : World) (F : Nat → Prop) (cs : List Value) (x : Sm) : Prop := cs = [.int .i64 x.st, .int .i64 x.mx] ∧ okSm x
def elBf (w : World) (F : Nat → Prop) (cs : List Value) (x : Bf) : Prop := cs = [.int .i64 x.sz, .int .i64 x.dp] ∧ okBf x
def elPo (w : World) (F : Nat → Prop) (cs : List Value) (x : Po) : Prop := cs = [.int .i64 x.pt, .int .i64 x.kd, .bool x.out, .int .i64 x.sz, .int .i64 x.dp, .int .i64 x.rf] ∧ okPo x
/-- a channel; its list -/
structure elCh (w : World) (F : Nat → Prop) (cs : List Value) (x : Ch) : Prop where
  sl : ∃ a n c, cs = [.int .i64 x.kd, .int .i64 x.fr, .slice a n c, .int .i64 x.ph, .int .i64 x.pe] ∧ Ls 1 elI w F a n c x.dst
  ok : okCh x
/-- a partition; its lists -/
structure elPn (w : World) (F : Nat → Prop) (cs : List Value) (x : Pn) : Prop where
  sl : ∃ a0 n0 c0 a1 n1 c1 a2 n2 c2 a3 n3 c3 a4 n4 c4 a5 n5 c5, cs = [.int .i64 x.pe, .int .i64 x.bu, .int .i64 x.off, .int .i64 x.pr, .int .i64 x.wo, .int .i64 x.fi, .slice a0 n0 c0, .slice a1 n1 c1, .slice a2 n2 c2, .int .i64 x.ha, .int .i64 x.h0, .int .i64 x.h1, .int .i64 x.h2, .int .i64 x.h3, .int .i64 x.h4, .int .i64 x.h5, .int .i64 x.h6, .int .i64 x.h7, .slice a3 n3 c3, .slice a4 n4 c4, .slice a5 n5 c5] ∧
    Ls 1 elI w F a0 n0 c0 x.init ∧ Ls 5 elIns w F a1 n1 c1 x.code ∧ Ls 6 elPrc w F a2 n2 c2 x.procs ∧ Ls 2 elSm w F a3 n3 c3 x.sems ∧ Ls 1 elB w F a4 n4 c4 x.evs ∧ Ls 2 elBf w F a5 n5 c5 x.bufs
  ok : okPn x

theorem elI_kept {G : Nat → Prop} {w w' : World} {F : Nat → Prop} (k : Kept G w w') (hd : ∀ b, F b → ¬ G b) : ∀ cs x, elI w F cs x → elI w' F cs x := fun _ _ h => h
theorem elB_kept {G : Nat → Prop} {w w' : World} {F : Nat → Prop} (k : Kept G w w') (hd : ∀ b, F b → ¬ G b) : ∀ cs x, elB w F cs x → elB w' F cs x := fun _ _ h => h
theorem elIns_kept {G : Nat → Prop} {w w' : World} {F : Nat → Prop} (k : Kept G w w') (hd : ∀ b, F b → ¬ G b) : ∀ cs x, elIns w F cs x → elIns w' F cs x := fun _ _ h => h
theorem elPrc_kept {G : Nat → Prop} {w w' : World} {F : Nat → Prop} (k : Kept G w w') (hd : ∀ b, F b → ¬ G b) : ∀ cs x, elPrc w F cs x → elPrc w' F cs x := fun _ _ h => h
theorem elSm_kept {G : Nat → Prop} {w w' : World} {F : Nat → Prop} (k : Kept G w w') (hd : ∀ b, F b → ¬ G b) : ∀ cs x, elSm w F cs x → elSm w' F cs x := fun _ _ h => h
theorem elBf_kept {G : Nat → Prop} {w w' : World} {F : Nat → Prop} (k : Kept G w w') (hd : ∀ b, F b → ¬ G b) : ∀ cs x, elBf w F cs x → elBf w' F cs x := fun _ _ h => h
theorem elPo_kept {G : Nat → Prop} {w w' : World} {F : Nat → Prop} (k : Kept G w w') (hd : ∀ b, F b → ¬ G b) : ∀ cs x, elPo w F cs x → elPo w' F cs x := fun _ _ h => h
theorem elCh_kept {G : Nat → Prop} {w w' : World} {F : Nat → Prop} (k : Kept G w w') (hd : ∀ b, F b → ¬ G b) : ∀ cs x, elCh w F cs x → elCh w' F cs x := fun cs x h => by
  obtain ⟨⟨a, n, c, e, h1⟩, ho⟩ := h
  exact ⟨⟨a, n, c, e, h1.kept k hd (elI_kept k hd)⟩, ho⟩
theorem elPn_kept {G : Nat → Prop} {w w' : World} {F : Nat → Prop} (k : Kept G w w') (hd : ∀ b, F b → ¬ G b) : ∀ cs x, elPn w F cs x → elPn w' F cs x := fun cs x h => by
  obtain ⟨⟨a0, n0, c0, a1, n1, c1, a2, n2, c2, a3, n3, c3, a4, n4, c4, a5, n5, c5, e, h0, h1, h2, h3, h4, h5⟩, ho⟩ := h
  exact ⟨⟨a0, n0, c0, a1, n1, c1, a2, n2, c2, a3, n3, c3, a4, n4, c4, a5, n5, c5, e, h0.kept k hd (elI_kept k hd), h1.kept k hd (elIns_kept k hd), h2.kept k hd (elPrc_kept k hd), h3.kept k hd (elSm_kept k hd), h4.kept k hd (elB_kept k hd), h5.kept k hd (elBf_kept k hd)⟩, ho⟩
theorem elCh_mono {w : World} {F G : Nat → Prop} (hF : ∀ k, F k → G k) : ∀ cs x, elCh w F cs x → elCh w G cs x := fun cs x h => by
  obtain ⟨⟨a, n, c, e, h1⟩, ho⟩ := h
  exact ⟨⟨a, n, c, e, h1.mono hF (fun _ _ h => h)⟩, ho⟩
theorem elPn_mono {w : World} {F G : Nat → Prop} (hF : ∀ k, F k → G k) : ∀ cs x, elPn w F cs x → elPn w G cs x := fun cs x h => by
  obtain ⟨⟨a0, n0, c0, a1, n1, c1, a2, n2, c2, a3, n3, c3, a4, n4, c4, a5, n5, c5, e, h0, h1, h2, h3, h4, h5⟩, ho⟩ := h
  exact ⟨⟨a0, n0, c0, a1, n1, c1, a2, n2, c2, a3, n3, c3, a4, n4, c4, a5, n5, c5, e, h0.mono hF (fun _ _ h => h), h1.mono hF (fun _ _ h => h), h2.mono hF (fun _ _ h => h), h3.mono hF (fun _ _ h => h), h4.mono hF (fun _ _ h => h), h5.mono hF (fun _ _ h => h)⟩, ho⟩

/-- an image that is read -/
structure Img (w : World) (F : Nat → Prop) (a0 : Option Addr) (n0 c0 : Nat) (a1 : Option Addr) (n1 c1 : Nat) (a2 : Option Addr) (n2 c2 : Nat) (x : Im) : Prop where
  ps : Ls 21 elPn w F a0 n0 c0 x.parts
  qs : Ls 6 elPo w F a1 n1 c1 x.ports
  cs : Ls 5 elCh w F a2 n2 c2 x.chans
theorem Img.kept {w w' : World} {F G : Nat → Prop} {a0 : Option Addr} {n0 c0 : Nat} {a1 : Option Addr} {n1 c1 : Nat} {a2 : Option Addr} {n2 c2 : Nat} {x : Im} (h : Img w F a0 n0 c0 a1 n1 c1 a2 n2 c2 x) (k : Kept G w w') (hd : ∀ b, F b → ¬ G b) : Img w' F a0 n0 c0 a1 n1 c1 a2 n2 c2 x :=
  ⟨h.ps.kept k hd (elPn_kept k hd), h.qs.kept k hd (elPo_kept k hd), h.cs.kept k hd (elCh_kept k hd)⟩
theorem Img.mono {w : World} {F G : Nat → Prop} {a0 : Option Addr} {n0 c0 : Nat} {a1 : Option Addr} {n1 c1 : Nat} {a2 : Option Addr} {n2 c2 : Nat} {x : Im} (h : Img w F a0 n0 c0 a1 n1 c1 a2 n2 c2 x) (hF : ∀ k, F k → G k) : Img w G a0 n0 c0 a1 n1 c1 a2 n2 c2 x :=
  ⟨h.ps.mono hF (elPn_mono hF), h.qs.mono hF (fun _ _ h => h), h.cs.mono hF (elCh_mono hF)⟩
theorem Img.ok {w : World} {F : Nat → Prop} {a0 : Option Addr} {n0 c0 : Nat} {a1 : Option Addr} {n1 c1 : Nat} {a2 : Option Addr} {n2 c2 : Nat} {x : Im} (h : Img w F a0 n0 c0 a1 n1 c1 a2 n2 c2 x) : okIm x :=
  ⟨h.ps.all (fun _ _ h => h.ok), h.qs.all (fun _ _ h => h.2), h.cs.all (fun _ _ h => h.ok)⟩

/-- a slice of numbers out of such a list -/
theorem Ls.zs {w : World} {F : Nat → Prop} {a : Option Addr} {n c : Nat} {xs : List Int} (h : Ls 1 elI w F a n c xs) : ∀ i, i < n → ∃ b o, a = some ⟨b, o, none⟩ ∧ F b ∧ w.cell? ⟨b, o + i, none⟩ = some (.int .i64 (xs.getD i 0)) := by
  intro i hi
  have hl := h.len
  have hx : xs[i]? = some (xs.getD i 0) := by simp [List.getD, show i < xs.length by omega]
  obtain ⟨b, o, cs, e, hb, hcl, hr, rfl, _⟩ := h.at' i _ hx
  refine ⟨b, o, e, hb, ?_⟩
  have := hr 0 _ rfl
  rw [Nat.mul_one, Nat.add_zero] at this
  exact this

end Go.Proofs.YtfjaajjljmbmbaaGreatDoor
