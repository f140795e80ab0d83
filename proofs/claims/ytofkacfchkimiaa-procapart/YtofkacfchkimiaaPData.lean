/-
  The processes of a partition: plain, and in memory (no dump).
-/
import Derived.Test.YtofkacfchkimiaaHeap
namespace Go.Proofs.Ytofkacfchkimiaa
open Go.RowKit
set_option linter.unusedVariables false
set_option maxRecDepth 100000

def iv (x : Int) : Value := .int .i64 x

/-- a list of numbers that is read -/
structure Zs (w : World) (F : Nat → Prop) (a : Option Addr) (n c : Nat) (xs : List Int) : Prop where
  len : xs.length = n
  cap : n ≤ c
  max : c ≤ 9223372036854775807
  nil : a = none → c = 0
  at' : ∀ i, i < n → ∃ b o, a = some ⟨b, o, none⟩ ∧ F b ∧ w.cell? ⟨b, o + i, none⟩ = some (iv (xs.getD i 0))
theorem Zs.kept {w w' : World} {F G : Nat → Prop} {a : Option Addr} {n c : Nat} {xs : List Int} (h : Zs w F a n c xs) (k : Kept G w w') (hd : ∀ b, F b → ¬ G b) : Zs w' F a n c xs :=
  ⟨h.len, h.cap, h.max, h.nil, fun i hi => by obtain ⟨b, o, e, hb, hc⟩ := h.at' i hi; exact ⟨b, o, e, hb, k.cell hc (hd b hb)⟩⟩
theorem Zs.mono {w : World} {F G : Nat → Prop} {a : Option Addr} {n c : Nat} {xs : List Int} (h : Zs w F a n c xs) (hF : ∀ k, F k → G k) : Zs w G a n c xs :=
  ⟨h.len, h.cap, h.max, h.nil, fun i hi => by obtain ⟨b, o, e, hb, hc⟩ := h.at' i hi; exact ⟨b, o, e, hF b hb, hc⟩⟩
theorem Zs.none (w : World) (F : Nat → Prop) : Zs w F none 0 0 [] := ⟨rfl, Nat.le_refl _, by omega, fun _ => rfl, fun i hi => by omega⟩
theorem Zs.of_owns {w : World} {base : Nat} {e : TypeId} {v : Value} {xs : List Int} (h : w.ownsRow base e 1 v xs.length (xs.map iv)) :
    ∃ a c, v = .slice a xs.length c ∧ Zs w (fun g => v.ownBlock = some g) a xs.length c xs := by
  rcases owns_cells h with ⟨rfl, h0⟩ | ⟨g, cap, rfl, hb, hg, hn, hm, hc, hf⟩
  · refine ⟨Option.none, 0, by rw [h0], ⟨rfl, by omega, by omega, fun _ => rfl, fun i hi => by omega⟩⟩
  · refine ⟨_, cap, rfl, ⟨rfl, hn, hm, fun h => (by cases h), fun i hi => ⟨g, 0, rfl, rfl, ?_⟩⟩⟩
    rw [Nat.zero_add]
    exact hc i _ (by simp [List.getD, hi])

/-- a process: as it stands (its words: the list's place and what is in it), and its plan -/
structure Pr where
  st : Int
  pri : Int
  pl : Int
  rg : Nat → Int
  pc : Int
  rel : Int
  dl : Int
  un : Int
  late : Bool
  ob : Int
  ad : Int
  da : Value
  ws : List Int
  mis : Int
  en : Int
  pp : Int
  per : Int
  lim : Int
def Pr.cell (p : Pr) : Nat → Value
  | 0 => .int .i64 p.st
  | 1 => .int .i64 p.pri
  | 2 => .int .i64 p.pl
  | 19 => .int .i64 p.pc
  | 20 => .int .i64 p.rel
  | 21 => .int .i64 p.dl
  | 22 => .int .i64 p.un
  | 23 => .bool p.late
  | 24 => .int .i64 p.ob
  | 25 => .int .i64 p.ad
  | 26 => p.da
  | 27 => .int .i64 p.mis
  | 28 => .int .i64 p.en
  | 29 => .int .i64 p.pp
  | 30 => .int .i64 p.per
  | 31 => .int .i64 p.lim
  | j => .int .i64 (p.rg (j - 3))

/-- a table -/
structure Tt where
  ps : Nat → Pr
  n : Nat
  cd : Int
  hd : Int
  lk : Int
  pl : Int
def Tt.at (T : Tt) (i : Nat) (f : Pr → Pr) : Tt := { T with ps := fun x => if x = i then f (T.ps x) else T.ps x }
theorem Tt.at_same (T : Tt) (i : Nat) (f : Pr → Pr) : (T.at i f).ps i = f (T.ps i) := if_pos rfl
theorem Tt.at_other (T : Tt) {i j : Nat} (f : Pr → Pr) (h : j ≠ i) : (T.at i f).ps j = T.ps j := if_neg h

/-- what a process keeps of its words, apart from the table's two blocks -/
def Da (w : World) (b g : Nat) (p : Pr) : Prop := ∃ a m c, p.da = .slice a m c ∧ Zs w (fun k => k ≠ b ∧ k ≠ g ∧ k < w.heap.size) a m c p.ws
theorem Da.kept {w w' : World} {b g : Nat} {p : Pr} (h : Da w b g p) (k : Kept (fun j => j = b ∨ j = g) w w') : Da w' b g p := by
  obtain ⟨a, m, c, e, z⟩ := h
  exact ⟨a, m, c, e, (z.kept k (fun x hx hy => by rcases hy with h1 | h1 <;> simp_all)).mono (fun x hx => ⟨hx.1, hx.2.1, Nat.lt_of_lt_of_le hx.2.2 k.size⟩)⟩

/-- block b is the table T, block g holds its processes -/
structure Tw (w : World) (b g cap : Nat) (T : Tt) : Prop where
  box : w.cell? ⟨b, 0, none⟩ = some (.slice (some ⟨g, 0, none⟩) T.n cap)
  cd : w.cell? ⟨b, 1, none⟩ = some (.int .i64 T.cd)
  hd : w.cell? ⟨b, 2, none⟩ = some (.int .i64 T.hd)
  lk : w.cell? ⟨b, 3, none⟩ = some (.int .i64 T.lk)
  pl : w.cell? ⟨b, 4, none⟩ = some (.int .i64 T.pl)
  ne : b ≠ g
  one : 1 ≤ T.n
  hcap : T.n ≤ cap
  hmax : cap ≤ 9223372036854775807
  fb : ∀ i, w.frozen? ⟨b, i, none⟩ = false
  fg : ∀ i, w.frozen? ⟨g, i, none⟩ = false
  at' : ∀ i, i < T.n → ∀ j, j < 32 → w.cell? ⟨g, i * 32 + j, none⟩ = some ((T.ps i).cell j)
  da : ∀ i, i < T.n → Da w b g (T.ps i)

theorem cell_set {w : World} {g i j : Nat} {v u : Value} (h : w.cell? ⟨g, i, none⟩ = some u) : (w.setCell ⟨g, j, none⟩ v).cell? ⟨g, i, none⟩ = some (if i = j then v else u) := by
  by_cases e : i = j
  · subst e
    rw [if_pos rfl]
    exact World.cell?_setCell_same' _ _ _ (by rw [h]; rfl)
  · rw [if_neg e]
    have hne : (⟨g, j, none⟩ : Addr) ≠ ⟨g, i, none⟩ := fun h' => e (by injection h' with _ h1 _; exact h1.symm)
    rw [World.cell?_setCell_other _ _ _ _ hne]
    exact h
theorem cell_oth {w : World} {g g' i j : Nat} {v u : Value} (h : w.cell? ⟨g, i, none⟩ = some u) (hn : g' ≠ g) : (w.setCell ⟨g', j, none⟩ v).cell? ⟨g, i, none⟩ = some u := by
  rw [World.cell?_setCell_other _ _ _ _ (fun h' => hn (by injection h'))]
  exact h

namespace Tw
variable {w w' : World} {b g cap : Nat} {T : Tt}
theorem low (h : Tw w b g cap T) : b < w.heap.size ∧ g < w.heap.size := ⟨cell_lt h.box, cell_lt (h.at' 0 h.one 0 (by omega))⟩
/-- what turns neither block -/
theorem kept {F : Nat → Prop} (h : Tw w b g cap T) (k : Kept F w w') (hF : ∀ j, F j → j ≠ b ∧ j ≠ g ∧ w.heap.size ≤ j) : Tw w' b g cap T := by
  have hl := h.low
  have nb : ¬ F b := fun e => (hF b e).1 rfl
  have ng : ¬ F g := fun e => (hF g e).2.1 rfl
  have k0 : Kept No w w' := ⟨k.os, k.tape, k.output, k.size, fun j hj _ => k.block j hj (fun e => by have := (hF j e).2.2; omega)⟩
  refine ⟨k.cell h.box nb, k.cell h.cd nb, k.cell h.hd nb, k.cell h.lk nb, k.cell h.pl nb, h.ne, h.one, h.hcap, h.hmax, fun i => ?_, fun i => ?_, fun i hi j hj => k.cell (h.at' i hi j hj) ng, fun i hi => (h.da i hi).kept (k0.mono (fun _ e => e.elim))⟩
  · have := h.fb i
    simp only [World.frozen?, k.block b hl.1 nb] at this ⊢
    exact this
  · have := h.fg i
    simp only [World.frozen?, k.block g hl.2 ng] at this ⊢
    exact this
theorem keep (h : Tw w b g cap T) (k : Kept No w w') : Tw w' b g cap T := h.kept k (fun _ e => e.elim)
/-- a cell of process i is written -/
theorem put (h : Tw w b g cap T) {i j : Nat} (hi : i < T.n) (hj : j < 32) (v : Value) (f : Pr → Pr) (hv : (f (T.ps i)).cell j = v) (ho : ∀ x, x < 32 → x ≠ j → (f (T.ps i)).cell x = (T.ps i).cell x)
    (hd : Da w b g (f (T.ps i))) : Tw (w.setCell ⟨g, i * 32 + j, none⟩ v) b g cap (T.at i f) := by
  have k : Kept (fun x => x = b ∨ x = g) w (w.setCell ⟨g, i * 32 + j, none⟩ v) := (Kept.refl _ w).setCell (.inl (.inr rfl)) _
  have hn : g ≠ b := fun e => h.ne e.symm
  refine ⟨cell_oth h.box hn, cell_oth h.cd hn, cell_oth h.hd hn, cell_oth h.lk hn, cell_oth h.pl hn, h.ne, h.one, h.hcap, h.hmax, fun i => ?_, fun i => ?_, fun x hx y hy => ?_, fun x hx => ?_⟩
  · rw [World.frozen?_setCell]; exact h.fb i
  · rw [World.frozen?_setCell]; exact h.fg i
  · rw [cell_set (h.at' x hx y hy)]
    by_cases hxi : x = i
    · subst hxi
      rw [Tt.at_same]
      by_cases hyj : y = j
      · subst hyj
        rw [if_pos rfl, hv]
      · rw [if_neg (by omega), ho y hy hyj]
    · rw [Tt.at_other _ _ hxi, if_neg (by omega)]
  · by_cases hxi : x = i
    · subst hxi
      rw [Tt.at_same]
      exact hd.kept k
    · rw [Tt.at_other _ _ hxi]
      exact (h.da x hx).kept k
/-- a number of process i is written -/
theorem put' (h : Tw w b g cap T) {i j : Nat} (hi : i < T.n) (hj : j < 32) (v : Value) (f : Pr → Pr) (hv : (f (T.ps i)).cell j = v) (ho : ∀ x, x < 32 → x ≠ j → (f (T.ps i)).cell x = (T.ps i).cell x)
    (hd : (f (T.ps i)).da = (T.ps i).da) (hs : (f (T.ps i)).ws = (T.ps i).ws) : Tw (w.setCell ⟨g, i * 32 + j, none⟩ v) b g cap (T.at i f) :=
  h.put hi hj v f hv ho (by unfold Da; rw [hd, hs]; exact h.da i hi)
theorem setPl (h : Tw w b g cap T) (x : Int) : Tw (w.setCell ⟨b, 4, none⟩ (.int .i64 x)) b g cap { T with pl := x } := by
  have k : Kept (fun x => x = b ∨ x = g) w (w.setCell ⟨b, 4, none⟩ (.int .i64 x)) := (Kept.refl _ w).setCell (.inl (.inl rfl)) _
  refine ⟨(cell_set h.box).trans (by rw [if_neg (by omega)]), (cell_set h.cd).trans (by rw [if_neg (by omega)]), (cell_set h.hd).trans (by rw [if_neg (by omega)]), (cell_set h.lk).trans (by rw [if_neg (by omega)]), (cell_set h.pl).trans (by rw [if_pos rfl]), h.ne, h.one, h.hcap, h.hmax, fun i => ?_, fun i => ?_, fun x hx y hy => cell_oth (h.at' x hx y hy) h.ne, fun x hx => (h.da x hx).kept k⟩
  · rw [World.frozen?_setCell]; exact h.fb i
  · rw [World.frozen?_setCell]; exact h.fg i
theorem setLk (h : Tw w b g cap T) (x : Int) : Tw (w.setCell ⟨b, 3, none⟩ (.int .i64 x)) b g cap { T with lk := x } := by
  have k : Kept (fun x => x = b ∨ x = g) w (w.setCell ⟨b, 3, none⟩ (.int .i64 x)) := (Kept.refl _ w).setCell (.inl (.inl rfl)) _
  refine ⟨(cell_set h.box).trans (by rw [if_neg (by omega)]), (cell_set h.cd).trans (by rw [if_neg (by omega)]), (cell_set h.hd).trans (by rw [if_neg (by omega)]), (cell_set h.lk).trans (by rw [if_pos rfl]), (cell_set h.pl).trans (by rw [if_neg (by omega)]), h.ne, h.one, h.hcap, h.hmax, fun i => ?_, fun i => ?_, fun x hx y hy => cell_oth (h.at' x hx y hy) h.ne, fun x hx => (h.da x hx).kept k⟩
  · rw [World.frozen?_setCell]; exact h.fb i
  · rw [World.frozen?_setCell]; exact h.fg i
end Tw

/-- the fields, written -/
def Pr.sSt (s : Int) (p : Pr) : Pr := { p with st := s }
def Pr.sPri (s : Int) (p : Pr) : Pr := { p with pri := s }
def Pr.sPl (s : Int) (p : Pr) : Pr := { p with pl := s }
def Pr.sRg (r : Nat) (s : Int) (p : Pr) : Pr := { p with rg := fun x => if x = r then s else p.rg x }
def Pr.sPc (s : Int) (p : Pr) : Pr := { p with pc := s }
def Pr.sRel (s : Int) (p : Pr) : Pr := { p with rel := s }
def Pr.sDl (s : Int) (p : Pr) : Pr := { p with dl := s }
def Pr.sUn (s : Int) (p : Pr) : Pr := { p with un := s }
def Pr.sLate (s : Bool) (p : Pr) : Pr := { p with late := s }
def Pr.sOb (s : Int) (p : Pr) : Pr := { p with ob := s }
def Pr.sAd (s : Int) (p : Pr) : Pr := { p with ad := s }
def Pr.sDa (v : Value) (l : List Int) (p : Pr) : Pr := { p with da := v, ws := l }
def Pr.sMis (s : Int) (p : Pr) : Pr := { p with mis := s }

theorem cell_cases {P : Nat → Prop} (h : ∀ x, x ∈ [0, 1, 2, 3, 4, 5, 6, 7, 8, 9, 10, 11, 12, 13, 14, 15, 16, 17, 18, 19, 20, 21, 22, 23, 24, 25, 26, 27, 28, 29, 30, 31] → P x) : ∀ x, x < 32 → P x := by
  intro x hx
  apply h
  have : x ∈ List.range 32 := List.mem_range.2 hx
  exact this
namespace Tw
variable {w w' : World} {b g cap : Nat} {T : Tt}
theorem sSt (h : Tw w b g cap T) {i : Nat} (hi : i < T.n) (s : Int) : Tw (w.setCell ⟨g, i * 32, none⟩ (.int .i64 s)) b g cap (T.at i (Pr.sSt s)) :=
  h.put' (j := 0) hi (by omega) _ _ rfl (cell_cases (by simp [Pr.cell, Pr.sSt])) rfl rfl
theorem sPri (h : Tw w b g cap T) {i : Nat} (hi : i < T.n) (s : Int) : Tw (w.setCell ⟨g, i * 32 + 1, none⟩ (.int .i64 s)) b g cap (T.at i (Pr.sPri s)) :=
  h.put' (j := 1) hi (by omega) _ _ rfl (cell_cases (by simp [Pr.cell, Pr.sPri])) rfl rfl
theorem sPl (h : Tw w b g cap T) {i : Nat} (hi : i < T.n) (s : Int) : Tw (w.setCell ⟨g, i * 32 + 2, none⟩ (.int .i64 s)) b g cap (T.at i (Pr.sPl s)) :=
  h.put' (j := 2) hi (by omega) _ _ rfl (cell_cases (by simp [Pr.cell, Pr.sPl])) rfl rfl
theorem sPc (h : Tw w b g cap T) {i : Nat} (hi : i < T.n) (s : Int) : Tw (w.setCell ⟨g, i * 32 + 19, none⟩ (.int .i64 s)) b g cap (T.at i (Pr.sPc s)) :=
  h.put' (j := 19) hi (by omega) _ _ rfl (cell_cases (by simp [Pr.cell, Pr.sPc])) rfl rfl
theorem sRel (h : Tw w b g cap T) {i : Nat} (hi : i < T.n) (s : Int) : Tw (w.setCell ⟨g, i * 32 + 20, none⟩ (.int .i64 s)) b g cap (T.at i (Pr.sRel s)) :=
  h.put' (j := 20) hi (by omega) _ _ rfl (cell_cases (by simp [Pr.cell, Pr.sRel])) rfl rfl
theorem sDl (h : Tw w b g cap T) {i : Nat} (hi : i < T.n) (s : Int) : Tw (w.setCell ⟨g, i * 32 + 21, none⟩ (.int .i64 s)) b g cap (T.at i (Pr.sDl s)) :=
  h.put' (j := 21) hi (by omega) _ _ rfl (cell_cases (by simp [Pr.cell, Pr.sDl])) rfl rfl
theorem sUn (h : Tw w b g cap T) {i : Nat} (hi : i < T.n) (s : Int) : Tw (w.setCell ⟨g, i * 32 + 22, none⟩ (.int .i64 s)) b g cap (T.at i (Pr.sUn s)) :=
  h.put' (j := 22) hi (by omega) _ _ rfl (cell_cases (by simp [Pr.cell, Pr.sUn])) rfl rfl
theorem sLate (h : Tw w b g cap T) {i : Nat} (hi : i < T.n) (s : Bool) : Tw (w.setCell ⟨g, i * 32 + 23, none⟩ (.bool s)) b g cap (T.at i (Pr.sLate s)) :=
  h.put' (j := 23) hi (by omega) _ _ rfl (cell_cases (by simp [Pr.cell, Pr.sLate])) rfl rfl
theorem sOb (h : Tw w b g cap T) {i : Nat} (hi : i < T.n) (s : Int) : Tw (w.setCell ⟨g, i * 32 + 24, none⟩ (.int .i64 s)) b g cap (T.at i (Pr.sOb s)) :=
  h.put' (j := 24) hi (by omega) _ _ rfl (cell_cases (by simp [Pr.cell, Pr.sOb])) rfl rfl
theorem sAd (h : Tw w b g cap T) {i : Nat} (hi : i < T.n) (s : Int) : Tw (w.setCell ⟨g, i * 32 + 25, none⟩ (.int .i64 s)) b g cap (T.at i (Pr.sAd s)) :=
  h.put' (j := 25) hi (by omega) _ _ rfl (cell_cases (by simp [Pr.cell, Pr.sAd])) rfl rfl
theorem sMis (h : Tw w b g cap T) {i : Nat} (hi : i < T.n) (s : Int) : Tw (w.setCell ⟨g, i * 32 + 27, none⟩ (.int .i64 s)) b g cap (T.at i (Pr.sMis s)) :=
  h.put' (j := 27) hi (by omega) _ _ rfl (cell_cases (by simp [Pr.cell, Pr.sMis])) rfl rfl
theorem sRg0 (h : Tw w b g cap T) {i : Nat} (hi : i < T.n) (s : Int) : Tw (w.setCell ⟨g, i * 32 + 3, none⟩ (.int .i64 s)) b g cap (T.at i (Pr.sRg 0 s)) :=
  h.put' (j := 3) hi (by omega) _ _ rfl (cell_cases (by simp [Pr.cell, Pr.sRg])) rfl rfl
theorem sDa (h : Tw w b g cap T) {i : Nat} (hi : i < T.n) {a : Option Addr} {m c : Nat} {l : List Int} (hz : Zs w (fun k => k ≠ b ∧ k ≠ g ∧ k < w.heap.size) a m c l) : Tw (w.setCell ⟨g, i * 32 + 26, none⟩ (.slice a m c)) b g cap (T.at i (Pr.sDa (.slice a m c) l)) :=
  h.put (j := 26) hi (by omega) _ _ rfl (cell_cases (by simp [Pr.cell, Pr.sDa])) ⟨a, m, c, rfl, hz⟩
end Tw
/-- brought behind all others -/
def Tt.behind (T : Tt) (i : Nat) : Tt := { (T.at i (Pr.sPl T.pl)) with pl := T.pl + 1 }
/-- brought into a state, nothing of what it waited with -/
def Tt.enter (T : Tt) (i : Nat) (s : Int) : Tt := (((((T.at i (Pr.sSt s)).at i (Pr.sUn (-1))).at i (Pr.sOb 0)).at i (Pr.sAd 0)).at i (Pr.sDa (.slice none 0 0) [])).behind i
end Go.Proofs.Ytofkacfchkimiaa
