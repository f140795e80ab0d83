/-
  Images as plain data: their bytes, told and read. No walk here.
-/
import Derived.Test.YtolmhoenjcinjaaGreatCSeal
import Derived.Test.YtolmhoenjcinjaaGreatCRd
namespace Go.Proofs.YtolmhoenjcinjaaGreat
open Go.RowKit
set_option linter.unusedVariables false

theorem be_succ (x k : Nat) : be x (k + 1) = be (x / 256) k ++ [x % 256] := by
  unfold be
  rw [List.range_succ, List.map_append]
  congr 1
  · apply List.map_congr_left
    intro j hj
    rw [List.mem_range] at hj
    have e : 8 * (k + 1 - 1 - j) = 8 + 8 * (k - 1 - j) := by omega
    rw [e, Nat.pow_add, ← Nat.div_div_eq_div_mul]
  · simp
theorem be_val : ∀ (k : Nat) (l : List Nat), l.length = k → (∀ x ∈ l, x < 256) → be (val l) k = l := by
  intro k
  induction k with
  | zero => intro l hl _; rw [List.eq_nil_of_length_eq_zero hl]; rfl
  | succ k ih =>
    intro l hl hb
    have hne : l ≠ [] := by rintro rfl; simp at hl
    have e := List.dropLast_concat_getLast hne
    have h1 : val l = val l.dropLast * 256 + l.getLast hne := by
      have := val_snoc l.dropLast (l.getLast hne); rw [e] at this; exact this
    have hlast := hb (l.getLast hne) (List.getLast_mem hne)
    rw [be_succ, h1, show (val l.dropLast * 256 + l.getLast hne) / 256 = val l.dropLast from by omega, show (val l.dropLast * 256 + l.getLast hne) % 256 = l.getLast hne from by omega,
      ih l.dropLast (by rw [List.length_dropLast]; omega) (fun x hx => hb x ((List.dropLast_sublist l).subset hx)), e]
theorem val_lt' (l : List Nat) (h : ∀ x ∈ l, x < 256) : val l < 256 ^ l.length := by
  have := val_lt l h l.length (Nat.le_refl _)
  rwa [List.take_length] at this
theorem val_be (x : Nat) : ∀ k, x < 256 ^ k → val (be x k) = x := by
  intro k
  induction k generalizing x with
  | zero => intro h; have : x = 0 := by simpa using h
            subst this; rfl
  | succ k ih =>
    intro h
    rw [be_succ, val_snoc, ih (x / 256) (by rw [Nat.pow_succ] at h; omega)]
    omega
theorem layBs_len (bs : List Nat) (e : Int) (xs : List Nat) : (layBs bs e xs).length ≤ bs.length + xs.length := by
  unfold layBs; split
  · omega
  · rw [List.length_append]; omega
theorem num_fit (bs : List Nat) (N : Int) (k : Nat) (h : 0 ≤ N) (h2 : N < 2 ^ (8 * k)) : numBs bs 0 N k = bs ++ be N.toNat k ∧ numE 0 N k = 0 := by
  have hng : ¬ (N < 0 ∨ 2 ^ (8 * k) ≤ N) := by omega
  unfold numBs numE
  rw [if_neg (by simp), if_neg hng, if_neg (by simp), if_neg hng]
  exact ⟨rfl, rfl⟩

def I6 (x : Int) : Prop := -9223372036854775808 ≤ x ∧ x ≤ 9223372036854775807
theorem be64_len (x : Int) : (be64 x).length = 8 := by unfold be64; exact be_length _ _
theorem flagB_len (x : Bool) : (flagB x).length = 1 := rfl

/-! ### reading: what is read, and what is left -/
def Dec (α : Type) : Type := List Nat → Option (α × List Nat)
def dBind {α β : Type} (d : Dec α) (f : α → Dec β) : Dec β := fun xs => match d xs with
  | none => none
  | some (x, t) => f x t
def dPure {α : Type} (x : α) : Dec α := fun xs => some (x, xs)
theorem dBind_eq {α β : Type} {d : Dec α} {f : α → Dec β} {xs : List Nat} {x : α} {t : List Nat} (h : d xs = some (x, t)) : dBind d f xs = f x t := by unfold dBind; rw [h]
theorem dBind_none {α β : Type} {d : Dec α} {f : α → Dec β} {xs : List Nat} (h : d xs = none) : dBind d f xs = none := by unfold dBind; rw [h]
theorem dBind_some {α β : Type} {d : Dec α} {f : α → Dec β} {xs : List Nat} {y : β} {t : List Nat} (h : dBind d f xs = some (y, t)) : ∃ x t', d xs = some (x, t') ∧ f x t' = some (y, t) := by
  unfold dBind at h
  cases hd : d xs with
  | none => rw [hd] at h; cases h
  | some p => obtain ⟨x, t'⟩ := p; rw [hd] at h; exact ⟨x, t', rfl, h⟩

/-- told and read again, both ways -/
structure Dc {α : Type} (d : Dec α) (enc : α → List Nat) (ok : α → Prop) : Prop where
  there : ∀ x t, ok x → (enc x).length ≤ 1048576 → d (enc x ++ t) = some (x, t)
  back : ∀ xs x t, (∀ b ∈ xs, b < 256) → d xs = some (x, t) → xs = enc x ++ t ∧ ok x
  pos : ∀ x, 1 ≤ (enc x).length
  lt : ∀ x, ok x → ∀ b ∈ enc x, b < 256

theorem wback64 (V : Nat) (h : V < 18446744073709551616) : (wrap64 (V : Int) % 18446744073709551616).toNat = V := by unfold wrap64; omega
theorem wfit64 (V : Nat) : I6 (wrap64 (V : Int)) := by unfold I6 wrap64; omega
theorem wthere64 (x : Int) (h : I6 x) : wrap64 (((x % 18446744073709551616).toNat : Nat) : Int) = x := by unfold I6 at h; unfold wrap64; omega
theorem wback32 (V : Nat) (h : V < 4294967296) : (wrap32 (V : Int) % 4294967296).toNat = V := by unfold wrap32; omega
theorem wfit32 (V : Nat) : -2147483648 ≤ wrap32 (V : Int) ∧ wrap32 (V : Int) ≤ 2147483647 := by unfold wrap32; omega
theorem wthere32 (x : Int) (h : -2147483648 ≤ x ∧ x ≤ 2147483647) : wrap32 (((x % 4294967296).toNat : Nat) : Int) = x := by unfold wrap32; omega
theorem p48 : (256 : Nat) ^ 4 = 4294967296 := by decide
theorem p88 : (256 : Nat) ^ 8 = 18446744073709551616 := by decide
theorem toNat_lt64 (x : Int) : (x % 18446744073709551616).toNat < 256 ^ 8 := by rw [p88]; omega
theorem toNat_lt32 (x : Int) : (x % 4294967296).toNat < 256 ^ 4 := by rw [p48]; omega
theorem le_l {a b c : Nat} (h : a + b ≤ c) : a ≤ c := by omega
theorem le_r {a b c : Nat} (h : a + b ≤ c) : b ≤ c := by omega

def decI : Dec Int := fun xs => if 8 ≤ xs.length then some (wrap64 (val (xs.take 8)), xs.drop 8) else none
def decB : Dec Bool := fun xs => match xs with
  | [] => none
  | b :: t => if 1 < b then none else some (b == 1, t)
theorem dcI : Dc decI be64 I6 where
  there x t hx _ := by
    have hl := be64_len x
    unfold decI
    rw [if_pos (by rw [List.length_append, hl]; omega), ← hl, List.take_left, List.drop_left]
    unfold be64
    rw [val_be _ 8 (toNat_lt64 x), wthere64 x hx]
  back xs x t hb h := by
    unfold decI at h
    by_cases hl : 8 ≤ xs.length
    · rw [if_pos hl] at h
      simp only [Option.some.injEq, Prod.mk.injEq] at h
      obtain ⟨rfl, rfl⟩ := h
      have h8 : (xs.take 8).length = 8 := by rw [List.length_take]; omega
      have hv := val_lt' (xs.take 8) (fun b h => hb b (List.mem_of_mem_take h))
      rw [h8, p88] at hv
      refine ⟨?_, wfit64 _⟩
      have e : be64 (wrap64 (val (xs.take 8))) = xs.take 8 := by
        unfold be64
        rw [wback64 _ hv]
        exact be_val 8 _ h8 (fun b h => hb b (List.mem_of_mem_take h))
      rw [e, List.take_append_drop]
    · rw [if_neg hl] at h; cases h
  pos x := by rw [be64_len]; omega
  lt x _ := be_lt _ _
theorem dcB : Dc decB flagB (fun _ => True) where
  there x t _ _ := by cases x <;> rfl
  back xs x t hb h := by
    cases xs with
    | nil => cases h
    | cons b xs =>
      change (if 1 < b then none else some (b == 1, xs)) = some (x, t) at h
      by_cases h1 : 1 < b
      · rw [if_pos h1] at h; cases h
      · rw [if_neg h1] at h
        simp only [Option.some.injEq, Prod.mk.injEq] at h
        obtain ⟨rfl, rfl⟩ := h
        refine ⟨?_, trivial⟩
        have : b = 0 ∨ b = 1 := by omega
        rcases this with rfl | rfl <;> rfl
  pos x := by rw [flagB_len]; omega
  lt x _ := by intro b hb; unfold flagB at hb; simp at hb; subst hb; split <;> omega

/-! ### lists -/
def encL {α : Type} (enc : α → List Nat) (l : List α) : List Nat := be l.length 4 ++ (l.map enc).flatten
def okL {α : Type} (ok : α → Prop) (l : List α) : Prop := ∀ x ∈ l, ok x
def decNn {α : Type} (d : Dec α) : Nat → Dec (List α)
  | 0 => dPure []
  | n + 1 => dBind (decNn d n) (fun l => dBind d (fun x => dPure (l ++ [x])))
def decL {α : Type} (d : Dec α) : Dec (List α) := fun xs => if 4 ≤ xs.length ∧ val (xs.take 4) ≤ 1048576 ∧ val (xs.take 4) ≤ xs.length - 4 then decNn d (val (xs.take 4)) (xs.drop 4) else none
theorem flat_len {α : Type} {enc : α → List Nat} (hp : ∀ x, 1 ≤ (enc x).length) (l : List α) : l.length ≤ (l.map enc).flatten.length := by
  induction l with
  | nil => simp
  | cons x l ih => have := hp x; simp only [List.map_cons, List.flatten_cons, List.length_append, List.length_cons]; omega
theorem flat_mem {α : Type} {enc : α → List Nat} (l : List α) (x : α) (hx : x ∈ l) : (enc x).length ≤ (l.map enc).flatten.length := by
  induction l with
  | nil => cases hx
  | cons y l ih =>
    simp only [List.map_cons, List.flatten_cons, List.length_append]
    rcases List.mem_cons.1 hx with rfl | h
    · omega
    · have := ih h; omega
theorem encL_len {α : Type} (enc : α → List Nat) (l : List α) : (encL enc l).length = 4 + (l.map enc).flatten.length := by unfold encL; rw [List.length_append, be_length]
theorem dec_take {α : Type} {d : Dec α} {enc : α → List Nat} {ok : α → Prop} (h : Dc d enc ok) (l : List α) (hl : okL ok l) (hs : ∀ x ∈ l, (enc x).length ≤ 1048576) (t : List Nat) : ∀ k, k ≤ l.length → decNn d k ((l.map enc).flatten ++ t) = some (l.take k, ((l.drop k).map enc).flatten ++ t)
  | 0, _ => by simp [decNn, dPure]
  | k + 1, hk => by
    have hk' : k < l.length := hk
    have e : l.drop k = l[k] :: l.drop (k + 1) := List.drop_eq_getElem_cons hk'
    show dBind (decNn d k) _ _ = _
    rw [dBind_eq (dec_take h l hl hs t k (by omega)), e, List.map_cons, List.flatten_cons, List.append_assoc, dBind_eq (h.there _ _ (hl _ (List.getElem_mem _)) (hs _ (List.getElem_mem _)))]
    show some _ = some _
    rw [← List.take_append_getElem hk']
theorem dec_back {α : Type} {d : Dec α} {enc : α → List Nat} {ok : α → Prop} (h : Dc d enc ok) : ∀ (n : Nat) (xs : List Nat) (l : List α) (t : List Nat), (∀ b ∈ xs, b < 256) → decNn d n xs = some (l, t) → xs = (l.map enc).flatten ++ t ∧ l.length = n ∧ okL ok l
  | 0, xs, l, t, _, e => by
    simp only [decNn, dPure, Option.some.injEq, Prod.mk.injEq] at e
    obtain ⟨rfl, rfl⟩ := e
    exact ⟨rfl, rfl, fun x hx => by cases hx⟩
  | n + 1, xs, l, t, hb, e => by
    obtain ⟨l1, t1, e1, e2⟩ := dBind_some e
    obtain ⟨x, t2, e3, e4⟩ := dBind_some e2
    simp only [dPure, Option.some.injEq, Prod.mk.injEq] at e4
    obtain ⟨rfl, rfl⟩ := e4
    obtain ⟨h1, h2, h3⟩ := dec_back h n xs l1 t1 hb e1
    obtain ⟨h4, h5⟩ := h.back t1 x t2 (fun b hm => hb b (by rw [h1]; exact List.mem_append_right _ hm)) e3
    refine ⟨by rw [h1, h4]; simp, by simp [h2], ?_⟩
    intro y hy
    rcases List.mem_append.1 hy with hy | hy
    · exact h3 y hy
    · simp at hy; subst hy; exact h5
theorem dec_none {α : Type} {d : Dec α} {xs : List Nat} {k n : Nat} (hk : k ≤ n) (h : decNn d k xs = none) : decNn d n xs = none := by
  induction n with
  | zero => have : k = 0 := by omega
            subst this; exact h
  | succ n ih =>
    by_cases hkn : k = n + 1
    · subst hkn; exact h
    · exact dBind_none (ih (by omega))
theorem Dc.list {α : Type} {d : Dec α} {enc : α → List Nat} {ok : α → Prop} (h : Dc d enc ok) : Dc (decL d) (encL enc) (okL ok) where
  there l t hl hs := by
    rw [encL_len] at hs
    have hfl := flat_len h.pos l
    have h4 : (be l.length 4).length = 4 := be_length _ _
    have e1 : (encL enc l ++ t).take 4 = be l.length 4 := by unfold encL; rw [List.append_assoc, ← h4]; exact List.take_left
    have e2 : (encL enc l ++ t).drop 4 = (l.map enc).flatten ++ t := by unfold encL; rw [List.append_assoc, ← h4]; exact List.drop_left
    have e3 : val (be l.length 4) = l.length := val_be _ 4 (by rw [p48]; omega)
    unfold decL
    rw [e1, e2, e3, if_pos ⟨by rw [List.length_append, encL_len]; omega, by omega, by rw [List.length_append, encL_len]; omega⟩,
      dec_take h l hl (fun x hx => by have := flat_mem (enc := enc) l x hx; omega) t l.length (Nat.le_refl _)]
    simp
  back xs l t hb e := by
    unfold decL at e
    by_cases hc : 4 ≤ xs.length ∧ val (xs.take 4) ≤ 1048576 ∧ val (xs.take 4) ≤ xs.length - 4
    · rw [if_pos hc] at e
      obtain ⟨h1, h2, h3⟩ := dec_back h _ _ _ _ (fun b hm => hb b (List.mem_of_mem_drop hm)) e
      refine ⟨?_, h3⟩
      have h4 : (xs.take 4).length = 4 := by rw [List.length_take]; omega
      have e4 : be l.length 4 = xs.take 4 := by rw [h2]; exact be_val 4 _ h4 (fun b hm => hb b (List.mem_of_mem_take hm))
      unfold encL
      rw [e4, List.append_assoc, ← h1, List.take_append_drop]
    · rw [if_neg hc] at e; cases e
  pos l := by rw [encL_len]; omega
  lt l hl := by
    intro b hb
    unfold encL at hb
    rcases List.mem_append.1 hb with hb | hb
    · exact be_lt _ _ b hb
    · rw [List.mem_flatten] at hb
      obtain ⟨y, hy, hb⟩ := hb
      rw [List.mem_map] at hy
      obtain ⟨x, hx, rfl⟩ := hy
      exact h.lt x (hl x hx) b hb

/-! ### instructions -/
structure Ins where
  op : Int
  a : Int
  b : Int
  c : Int
  imm : Int
def U8 (x : Int) : Prop := 0 ≤ x ∧ x < 256
def I3 (x : Int) : Prop := -2147483648 ≤ x ∧ x ≤ 2147483647
def okIns (x : Ins) : Prop := U8 x.op ∧ U8 x.a ∧ U8 x.b ∧ U8 x.c ∧ I3 x.imm
def encIns (x : Ins) : List Nat := [x.op.toNat, x.a.toNat, x.b.toNat, x.c.toNat] ++ be (x.imm % 4294967296).toNat 4
def insOf (l : List Nat) : Ins := ⟨(l.getD 0 0 : Nat), (l.getD 1 0 : Nat), (l.getD 2 0 : Nat), (l.getD 3 0 : Nat), wrap32 (val (l.drop 4) : Nat)⟩
def decIns : Dec Ins := fun xs => if 8 ≤ xs.length then some (insOf (xs.take 8), xs.drop 8) else none
theorem encIns_len (x : Ins) : (encIns x).length = 8 := by unfold encIns; rw [List.length_append, be_length]; rfl
theorem list8 {l : List Nat} (h : l.length = 8) : ∃ a b c d r, l = [a, b, c, d] ++ r ∧ r.length = 4 := by
  match l, h with
  | a :: b :: c :: d :: r, h => exact ⟨a, b, c, d, r, rfl, by simpa using h⟩
theorem dcIns : Dc decIns encIns okIns where
  there x t hx _ := by
    have hl := encIns_len x
    unfold decIns
    rw [if_pos (by rw [List.length_append, hl]; omega), ← hl, List.take_left, List.drop_left]
    obtain ⟨h1, h2, h3, h4, h5⟩ := hx
    obtain ⟨o, a, b, c, n⟩ := x
    unfold U8 at h1 h2 h3 h4
    unfold I3 at h5
    dsimp only at h1 h2 h3 h4 h5
    simp only [encIns, insOf]
    congr 2
    have e : val (be (n % 4294967296).toNat 4) = (n % 4294967296).toNat := val_be _ 4 (toNat_lt32 n)
    simp only [List.cons_append, List.nil_append, List.getD_cons_zero, List.getD_cons_succ, List.drop_succ_cons, List.drop_zero, e, Ins.mk.injEq]
    exact ⟨by omega, by omega, by omega, by omega, wthere32 n h5⟩
  back xs x t hb h := by
    unfold decIns at h
    by_cases hl : 8 ≤ xs.length
    · rw [if_pos hl] at h
      simp only [Option.some.injEq, Prod.mk.injEq] at h
      obtain ⟨rfl, rfl⟩ := h
      have h8 : (xs.take 8).length = 8 := by rw [List.length_take]; omega
      have hb8 : ∀ b ∈ xs.take 8, b < 256 := fun b h => hb b (List.mem_of_mem_take h)
      obtain ⟨a, b, c, d, r, e, hr⟩ := list8 h8
      rw [e] at hb8
      have ha := hb8 a (by simp)
      have hb' := hb8 b (by simp)
      have hc := hb8 c (by simp)
      have hd := hb8 d (by simp)
      have hrr : ∀ b ∈ r, b < 256 := fun b h => hb8 b (List.mem_append_right _ h)
      have hv := val_lt' r hrr
      rw [hr, p48] at hv
      have e2 : encIns (insOf (xs.take 8)) = xs.take 8 := by
        rw [e]
        simp only [encIns, insOf, List.cons_append, List.nil_append, List.getD_cons_zero, List.getD_cons_succ, List.drop_succ_cons, List.drop_zero, Int.toNat_natCast]
        rw [wback32 _ hv, be_val 4 r hr hrr]
      refine ⟨by rw [e2, List.take_append_drop], ?_⟩
      rw [e]
      simp only [okIns, insOf, U8, I3, List.cons_append, List.nil_append, List.getD_cons_zero, List.getD_cons_succ, List.drop_succ_cons, List.drop_zero]
      exact ⟨by omega, by omega, by omega, by omega, wfit32 _⟩
    · rw [if_neg hl] at h; cases h
  pos x := by rw [encIns_len]; omega
  lt x hx := by
    intro b hb
    obtain ⟨h1, h2, h3, h4, h5⟩ := hx
    unfold encIns U8 at *
    rcases List.mem_append.1 hb with hb | hb
    · simp at hb; omega
    · exact be_lt _ _ b hb


/-! ### Prc -/
structure Prc where
  en : Int
  pr : Int
  pe : Int
  li : Int
  ca : Int
  auto : Bool
def okPrc (x : Prc) : Prop := I6 x.en ∧ I6 x.pr ∧ I6 x.pe ∧ I6 x.li ∧ I6 x.ca ∧ (fun _ : Bool => True) x.auto
def encPrc (x : Prc) : List Nat := be64 x.en ++ (be64 x.pr ++ (be64 x.pe ++ (be64 x.li ++ (be64 x.ca ++ (flagB x.auto)))))
def decPrc : Dec Prc := dBind decI (fun en => dBind decI (fun pr => dBind decI (fun pe => dBind decI (fun li => dBind decI (fun ca => dBind decB (fun auto => dPure ⟨en, pr, pe, li, ca, auto⟩))))))
theorem dcPrc : Dc decPrc encPrc okPrc where
  there x t hx hs := by
    obtain ⟨o0, o1, o2, o3, o4, o5⟩ := hx
    simp only [encPrc, List.length_append] at hs
    simp only [encPrc, List.append_assoc]
    unfold decPrc
    rw [dBind_eq (dcI.there _ _ o0 (le_l hs))]
    have hs0 := le_r hs
    rw [dBind_eq (dcI.there _ _ o1 (le_l hs0))]
    have hs1 := le_r hs0
    rw [dBind_eq (dcI.there _ _ o2 (le_l hs1))]
    have hs2 := le_r hs1
    rw [dBind_eq (dcI.there _ _ o3 (le_l hs2))]
    have hs3 := le_r hs2
    rw [dBind_eq (dcI.there _ _ o4 (le_l hs3))]
    have hs4 := le_r hs3
    rw [dBind_eq (dcB.there _ _ o5 hs4)]
    rfl
  back xs x t hb h := by
    unfold decPrc at h
    obtain ⟨y0, t0, e0, g0⟩ := dBind_some h
    obtain ⟨q0, r0⟩ := dcI.back _ _ _ hb e0
    have hb0 : ∀ b ∈ t0, b < 256 := fun b hm => hb b (by rw [q0]; exact List.mem_append_right _ hm)
    obtain ⟨y1, t1, e1, g1⟩ := dBind_some g0
    obtain ⟨q1, r1⟩ := dcI.back _ _ _ hb0 e1
    have hb1 : ∀ b ∈ t1, b < 256 := fun b hm => hb0 b (by rw [q1]; exact List.mem_append_right _ hm)
    obtain ⟨y2, t2, e2, g2⟩ := dBind_some g1
    obtain ⟨q2, r2⟩ := dcI.back _ _ _ hb1 e2
    have hb2 : ∀ b ∈ t2, b < 256 := fun b hm => hb1 b (by rw [q2]; exact List.mem_append_right _ hm)
    obtain ⟨y3, t3, e3, g3⟩ := dBind_some g2
    obtain ⟨q3, r3⟩ := dcI.back _ _ _ hb2 e3
    have hb3 : ∀ b ∈ t3, b < 256 := fun b hm => hb2 b (by rw [q3]; exact List.mem_append_right _ hm)
    obtain ⟨y4, t4, e4, g4⟩ := dBind_some g3
    obtain ⟨q4, r4⟩ := dcI.back _ _ _ hb3 e4
    have hb4 : ∀ b ∈ t4, b < 256 := fun b hm => hb3 b (by rw [q4]; exact List.mem_append_right _ hm)
    obtain ⟨y5, t5, e5, g5⟩ := dBind_some g4
    obtain ⟨q5, r5⟩ := dcB.back _ _ _ hb4 e5
    simp only [dPure, Option.some.injEq, Prod.mk.injEq] at g5
    obtain ⟨rfl, rfl⟩ := g5
    refine ⟨?_, r0, r1, r2, r3, r4, r5⟩
    simp only [encPrc, List.append_assoc]
    rw [← q5, ← q4, ← q3, ← q2, ← q1, ← q0]
  pos x := by unfold encPrc; rw [List.length_append]; have := dcI.pos x.en; omega
  lt x hx := by
    obtain ⟨o0, o1, o2, o3, o4, o5⟩ := hx
    intro b hb
    simp only [encPrc, List.mem_append] at hb
    rcases hb with hb | hb | hb | hb | hb | hb
    · exact dcI.lt _ o0 b hb
    · exact dcI.lt _ o1 b hb
    · exact dcI.lt _ o2 b hb
    · exact dcI.lt _ o3 b hb
    · exact dcI.lt _ o4 b hb
    · exact dcB.lt _ o5 b hb

/-! ### Sm -/
structure Sm where
  st : Int
  mx : Int
def okSm (x : Sm) : Prop := I6 x.st ∧ I6 x.mx
def encSm (x : Sm) : List Nat := be64 x.st ++ (be64 x.mx)
def decSm : Dec Sm := dBind decI (fun st => dBind decI (fun mx => dPure ⟨st, mx⟩))
theorem dcSm : Dc decSm encSm okSm where
  there x t hx hs := by
    obtain ⟨o0, o1⟩ := hx
    simp only [encSm, List.length_append] at hs
    simp only [encSm, List.append_assoc]
    unfold decSm
    rw [dBind_eq (dcI.there _ _ o0 (le_l hs))]
    have hs0 := le_r hs
    rw [dBind_eq (dcI.there _ _ o1 hs0)]
    rfl
  back xs x t hb h := by
    unfold decSm at h
    obtain ⟨y0, t0, e0, g0⟩ := dBind_some h
    obtain ⟨q0, r0⟩ := dcI.back _ _ _ hb e0
    have hb0 : ∀ b ∈ t0, b < 256 := fun b hm => hb b (by rw [q0]; exact List.mem_append_right _ hm)
    obtain ⟨y1, t1, e1, g1⟩ := dBind_some g0
    obtain ⟨q1, r1⟩ := dcI.back _ _ _ hb0 e1
    simp only [dPure, Option.some.injEq, Prod.mk.injEq] at g1
    obtain ⟨rfl, rfl⟩ := g1
    refine ⟨?_, r0, r1⟩
    simp only [encSm, List.append_assoc]
    rw [← q1, ← q0]
  pos x := by unfold encSm; rw [List.length_append]; have := dcI.pos x.st; omega
  lt x hx := by
    obtain ⟨o0, o1⟩ := hx
    intro b hb
    simp only [encSm, List.mem_append] at hb
    rcases hb with hb | hb
    · exact dcI.lt _ o0 b hb
    · exact dcI.lt _ o1 b hb

/-! ### Bf -/
structure Bf where
  sz : Int
  dp : Int
def okBf (x : Bf) : Prop := I6 x.sz ∧ I6 x.dp
def encBf (x : Bf) : List Nat := be64 x.sz ++ (be64 x.dp)
def decBf : Dec Bf := dBind decI (fun sz => dBind decI (fun dp => dPure ⟨sz, dp⟩))
theorem dcBf : Dc decBf encBf okBf where
  there x t hx hs := by
    obtain ⟨o0, o1⟩ := hx
    simp only [encBf, List.length_append] at hs
    simp only [encBf, List.append_assoc]
    unfold decBf
    rw [dBind_eq (dcI.there _ _ o0 (le_l hs))]
    have hs0 := le_r hs
    rw [dBind_eq (dcI.there _ _ o1 hs0)]
    rfl
  back xs x t hb h := by
    unfold decBf at h
    obtain ⟨y0, t0, e0, g0⟩ := dBind_some h
    obtain ⟨q0, r0⟩ := dcI.back _ _ _ hb e0
    have hb0 : ∀ b ∈ t0, b < 256 := fun b hm => hb b (by rw [q0]; exact List.mem_append_right _ hm)
    obtain ⟨y1, t1, e1, g1⟩ := dBind_some g0
    obtain ⟨q1, r1⟩ := dcI.back _ _ _ hb0 e1
    simp only [dPure, Option.some.injEq, Prod.mk.injEq] at g1
    obtain ⟨rfl, rfl⟩ := g1
    refine ⟨?_, r0, r1⟩
    simp only [encBf, List.append_assoc]
    rw [← q1, ← q0]
  pos x := by unfold encBf; rw [List.length_append]; have := dcI.pos x.sz; omega
  lt x hx := by
    obtain ⟨o0, o1⟩ := hx
    intro b hb
    simp only [encBf, List.mem_append] at hb
    rcases hb with hb | hb
    · exact dcI.lt _ o0 b hb
    · exact dcI.lt _ o1 b hb

/-! ### Po -/
structure Po where
  pt : Int
  kd : Int
  out : Bool
  sz : Int
  dp : Int
  rf : Int
def okPo (x : Po) : Prop := I6 x.pt ∧ I6 x.kd ∧ (fun _ : Bool => True) x.out ∧ I6 x.sz ∧ I6 x.dp ∧ I6 x.rf
def encPo (x : Po) : List Nat := be64 x.pt ++ (be64 x.kd ++ (flagB x.out ++ (be64 x.sz ++ (be64 x.dp ++ (be64 x.rf)))))
def decPo : Dec Po := dBind decI (fun pt => dBind decI (fun kd => dBind decB (fun out => dBind decI (fun sz => dBind decI (fun dp => dBind decI (fun rf => dPure ⟨pt, kd, out, sz, dp, rf⟩))))))
theorem dcPo : Dc decPo encPo okPo where
  there x t hx hs := by
    obtain ⟨o0, o1, o2, o3, o4, o5⟩ := hx
    simp only [encPo, List.length_append] at hs
    simp only [encPo, List.append_assoc]
    unfold decPo
    rw [dBind_eq (dcI.there _ _ o0 (le_l hs))]
    have hs0 := le_r hs
    rw [dBind_eq (dcI.there _ _ o1 (le_l hs0))]
    have hs1 := le_r hs0
    rw [dBind_eq (dcB.there _ _ o2 (le_l hs1))]
    have hs2 := le_r hs1
    rw [dBind_eq (dcI.there _ _ o3 (le_l hs2))]
    have hs3 := le_r hs2
    rw [dBind_eq (dcI.there _ _ o4 (le_l hs3))]
    have hs4 := le_r hs3
    rw [dBind_eq (dcI.there _ _ o5 hs4)]
    rfl
  back xs x t hb h := by
    unfold decPo at h
    obtain ⟨y0, t0, e0, g0⟩ := dBind_some h
    obtain ⟨q0, r0⟩ := dcI.back _ _ _ hb e0
    have hb0 : ∀ b ∈ t0, b < 256 := fun b hm => hb b (by rw [q0]; exact List.mem_append_right _ hm)
    obtain ⟨y1, t1, e1, g1⟩ := dBind_some g0
    obtain ⟨q1, r1⟩ := dcI.back _ _ _ hb0 e1
    have hb1 : ∀ b ∈ t1, b < 256 := fun b hm => hb0 b (by rw [q1]; exact List.mem_append_right _ hm)
    obtain ⟨y2, t2, e2, g2⟩ := dBind_some g1
    obtain ⟨q2, r2⟩ := dcB.back _ _ _ hb1 e2
    have hb2 : ∀ b ∈ t2, b < 256 := fun b hm => hb1 b (by rw [q2]; exact List.mem_append_right _ hm)
    obtain ⟨y3, t3, e3, g3⟩ := dBind_some g2
    obtain ⟨q3, r3⟩ := dcI.back _ _ _ hb2 e3
    have hb3 : ∀ b ∈ t3, b < 256 := fun b hm => hb2 b (by rw [q3]; exact List.mem_append_right _ hm)
    obtain ⟨y4, t4, e4, g4⟩ := dBind_some g3
    obtain ⟨q4, r4⟩ := dcI.back _ _ _ hb3 e4
    have hb4 : ∀ b ∈ t4, b < 256 := fun b hm => hb3 b (by rw [q4]; exact List.mem_append_right _ hm)
    obtain ⟨y5, t5, e5, g5⟩ := dBind_some g4
    obtain ⟨q5, r5⟩ := dcI.back _ _ _ hb4 e5
    simp only [dPure, Option.some.injEq, Prod.mk.injEq] at g5
    obtain ⟨rfl, rfl⟩ := g5
    refine ⟨?_, r0, r1, r2, r3, r4, r5⟩
    simp only [encPo, List.append_assoc]
    rw [← q5, ← q4, ← q3, ← q2, ← q1, ← q0]
  pos x := by unfold encPo; rw [List.length_append]; have := dcI.pos x.pt; omega
  lt x hx := by
    obtain ⟨o0, o1, o2, o3, o4, o5⟩ := hx
    intro b hb
    simp only [encPo, List.mem_append] at hb
    rcases hb with hb | hb | hb | hb | hb | hb
    · exact dcI.lt _ o0 b hb
    · exact dcI.lt _ o1 b hb
    · exact dcB.lt _ o2 b hb
    · exact dcI.lt _ o3 b hb
    · exact dcI.lt _ o4 b hb
    · exact dcI.lt _ o5 b hb

/-! ### Ch -/
structure Ch where
  kd : Int
  fr : Int
  dst : List Int
  ph : Int
  pe : Int
def okCh (x : Ch) : Prop := I6 x.kd ∧ I6 x.fr ∧ okL I6 x.dst ∧ I6 x.ph ∧ I6 x.pe
def encCh (x : Ch) : List Nat := be64 x.kd ++ (be64 x.fr ++ (encL be64 x.dst ++ (be64 x.ph ++ (be64 x.pe))))
def decCh : Dec Ch := dBind decI (fun kd => dBind decI (fun fr => dBind (decL decI) (fun dst => dBind decI (fun ph => dBind decI (fun pe => dPure ⟨kd, fr, dst, ph, pe⟩)))))
theorem dcCh : Dc decCh encCh okCh where
  there x t hx hs := by
    obtain ⟨o0, o1, o2, o3, o4⟩ := hx
    simp only [encCh, List.length_append] at hs
    simp only [encCh, List.append_assoc]
    unfold decCh
    rw [dBind_eq (dcI.there _ _ o0 (le_l hs))]
    have hs0 := le_r hs
    rw [dBind_eq (dcI.there _ _ o1 (le_l hs0))]
    have hs1 := le_r hs0
    rw [dBind_eq ((Dc.list dcI).there _ _ o2 (le_l hs1))]
    have hs2 := le_r hs1
    rw [dBind_eq (dcI.there _ _ o3 (le_l hs2))]
    have hs3 := le_r hs2
    rw [dBind_eq (dcI.there _ _ o4 hs3)]
    rfl
  back xs x t hb h := by
    unfold decCh at h
    obtain ⟨y0, t0, e0, g0⟩ := dBind_some h
    obtain ⟨q0, r0⟩ := dcI.back _ _ _ hb e0
    have hb0 : ∀ b ∈ t0, b < 256 := fun b hm => hb b (by rw [q0]; exact List.mem_append_right _ hm)
    obtain ⟨y1, t1, e1, g1⟩ := dBind_some g0
    obtain ⟨q1, r1⟩ := dcI.back _ _ _ hb0 e1
    have hb1 : ∀ b ∈ t1, b < 256 := fun b hm => hb0 b (by rw [q1]; exact List.mem_append_right _ hm)
    obtain ⟨y2, t2, e2, g2⟩ := dBind_some g1
    obtain ⟨q2, r2⟩ := (Dc.list dcI).back _ _ _ hb1 e2
    have hb2 : ∀ b ∈ t2, b < 256 := fun b hm => hb1 b (by rw [q2]; exact List.mem_append_right _ hm)
    obtain ⟨y3, t3, e3, g3⟩ := dBind_some g2
    obtain ⟨q3, r3⟩ := dcI.back _ _ _ hb2 e3
    have hb3 : ∀ b ∈ t3, b < 256 := fun b hm => hb2 b (by rw [q3]; exact List.mem_append_right _ hm)
    obtain ⟨y4, t4, e4, g4⟩ := dBind_some g3
    obtain ⟨q4, r4⟩ := dcI.back _ _ _ hb3 e4
    simp only [dPure, Option.some.injEq, Prod.mk.injEq] at g4
    obtain ⟨rfl, rfl⟩ := g4
    refine ⟨?_, r0, r1, r2, r3, r4⟩
    simp only [encCh, List.append_assoc]
    rw [← q4, ← q3, ← q2, ← q1, ← q0]
  pos x := by unfold encCh; rw [List.length_append]; have := dcI.pos x.kd; omega
  lt x hx := by
    obtain ⟨o0, o1, o2, o3, o4⟩ := hx
    intro b hb
    simp only [encCh, List.mem_append] at hb
    rcases hb with hb | hb | hb | hb | hb
    · exact dcI.lt _ o0 b hb
    · exact dcI.lt _ o1 b hb
    · exact (Dc.list dcI).lt _ o2 b hb
    · exact dcI.lt _ o3 b hb
    · exact dcI.lt _ o4 b hb

/-! ### Pn -/
structure Pn where
  pe : Int
  bu : Int
  off : Int
  pr : Int
  wo : Int
  fi : Int
  init : List Int
  code : List Ins
  procs : List Prc
  ha : Int
  h0 : Int
  h1 : Int
  h2 : Int
  h3 : Int
  h4 : Int
  h5 : Int
  h6 : Int
  h7 : Int
  sems : List Sm
  evs : List Bool
  bufs : List Bf
def okPn (x : Pn) : Prop := I6 x.pe ∧ I6 x.bu ∧ I6 x.off ∧ I6 x.pr ∧ I6 x.wo ∧ I6 x.fi ∧ okL I6 x.init ∧ okL okIns x.code ∧ okL okPrc x.procs ∧ I6 x.ha ∧ I6 x.h0 ∧ I6 x.h1 ∧ I6 x.h2 ∧ I6 x.h3 ∧ I6 x.h4 ∧ I6 x.h5 ∧ I6 x.h6 ∧ I6 x.h7 ∧ okL okSm x.sems ∧ okL (fun _ => True) x.evs ∧ okL okBf x.bufs
def encPn (x : Pn) : List Nat := be64 x.pe ++ (be64 x.bu ++ (be64 x.off ++ (be64 x.pr ++ (be64 x.wo ++ (be64 x.fi ++ (encL be64 x.init ++ (encL encIns x.code ++ (encL encPrc x.procs ++ (be64 x.ha ++ (be64 x.h0 ++ (be64 x.h1 ++ (be64 x.h2 ++ (be64 x.h3 ++ (be64 x.h4 ++ (be64 x.h5 ++ (be64 x.h6 ++ (be64 x.h7 ++ (encL encSm x.sems ++ (encL flagB x.evs ++ (encL encBf x.bufs))))))))))))))))))))
def decPn : Dec Pn := dBind decI (fun pe => dBind decI (fun bu => dBind decI (fun off => dBind decI (fun pr => dBind decI (fun wo => dBind decI (fun fi => dBind (decL decI) (fun init => dBind (decL decIns) (fun code => dBind (decL decPrc) (fun procs => dBind decI (fun ha => dBind decI (fun h0 => dBind decI (fun h1 => dBind decI (fun h2 => dBind decI (fun h3 => dBind decI (fun h4 => dBind decI (fun h5 => dBind decI (fun h6 => dBind decI (fun h7 => dBind (decL decSm) (fun sems => dBind (decL decB) (fun evs => dBind (decL decBf) (fun bufs => dPure ⟨pe, bu, off, pr, wo, fi, init, code, procs, ha, h0, h1, h2, h3, h4, h5, h6, h7, sems, evs, bufs⟩)))))))))))))))))))))
theorem dcPn : Dc decPn encPn okPn where
  there x t hx hs := by
    obtain ⟨o0, o1, o2, o3, o4, o5, o6, o7, o8, o9, o10, o11, o12, o13, o14, o15, o16, o17, o18, o19, o20⟩ := hx
    simp only [encPn, List.length_append] at hs
    simp only [encPn, List.append_assoc]
    unfold decPn
    rw [dBind_eq (dcI.there _ _ o0 (le_l hs))]
    have hs0 := le_r hs
    rw [dBind_eq (dcI.there _ _ o1 (le_l hs0))]
    have hs1 := le_r hs0
    rw [dBind_eq (dcI.there _ _ o2 (le_l hs1))]
    have hs2 := le_r hs1
    rw [dBind_eq (dcI.there _ _ o3 (le_l hs2))]
    have hs3 := le_r hs2
    rw [dBind_eq (dcI.there _ _ o4 (le_l hs3))]
    have hs4 := le_r hs3
    rw [dBind_eq (dcI.there _ _ o5 (le_l hs4))]
    have hs5 := le_r hs4
    rw [dBind_eq ((Dc.list dcI).there _ _ o6 (le_l hs5))]
    have hs6 := le_r hs5
    rw [dBind_eq ((Dc.list dcIns).there _ _ o7 (le_l hs6))]
    have hs7 := le_r hs6
    rw [dBind_eq ((Dc.list dcPrc).there _ _ o8 (le_l hs7))]
    have hs8 := le_r hs7
    rw [dBind_eq (dcI.there _ _ o9 (le_l hs8))]
    have hs9 := le_r hs8
    rw [dBind_eq (dcI.there _ _ o10 (le_l hs9))]
    have hs10 := le_r hs9
    rw [dBind_eq (dcI.there _ _ o11 (le_l hs10))]
    have hs11 := le_r hs10
    rw [dBind_eq (dcI.there _ _ o12 (le_l hs11))]
    have hs12 := le_r hs11
    rw [dBind_eq (dcI.there _ _ o13 (le_l hs12))]
    have hs13 := le_r hs12
    rw [dBind_eq (dcI.there _ _ o14 (le_l hs13))]
    have hs14 := le_r hs13
    rw [dBind_eq (dcI.there _ _ o15 (le_l hs14))]
    have hs15 := le_r hs14
    rw [dBind_eq (dcI.there _ _ o16 (le_l hs15))]
    have hs16 := le_r hs15
    rw [dBind_eq (dcI.there _ _ o17 (le_l hs16))]
    have hs17 := le_r hs16
    rw [dBind_eq ((Dc.list dcSm).there _ _ o18 (le_l hs17))]
    have hs18 := le_r hs17
    rw [dBind_eq ((Dc.list dcB).there _ _ o19 (le_l hs18))]
    have hs19 := le_r hs18
    rw [dBind_eq ((Dc.list dcBf).there _ _ o20 hs19)]
    rfl
  back xs x t hb h := by
    unfold decPn at h
    obtain ⟨y0, t0, e0, g0⟩ := dBind_some h
    obtain ⟨q0, r0⟩ := dcI.back _ _ _ hb e0
    have hb0 : ∀ b ∈ t0, b < 256 := fun b hm => hb b (by rw [q0]; exact List.mem_append_right _ hm)
    obtain ⟨y1, t1, e1, g1⟩ := dBind_some g0
    obtain ⟨q1, r1⟩ := dcI.back _ _ _ hb0 e1
    have hb1 : ∀ b ∈ t1, b < 256 := fun b hm => hb0 b (by rw [q1]; exact List.mem_append_right _ hm)
    obtain ⟨y2, t2, e2, g2⟩ := dBind_some g1
    obtain ⟨q2, r2⟩ := dcI.back _ _ _ hb1 e2
    have hb2 : ∀ b ∈ t2, b < 256 := fun b hm => hb1 b (by rw [q2]; exact List.mem_append_right _ hm)
    obtain ⟨y3, t3, e3, g3⟩ := dBind_some g2
    obtain ⟨q3, r3⟩ := dcI.back _ _ _ hb2 e3
    have hb3 : ∀ b ∈ t3, b < 256 := fun b hm => hb2 b (by rw [q3]; exact List.mem_append_right _ hm)
    obtain ⟨y4, t4, e4, g4⟩ := dBind_some g3
    obtain ⟨q4, r4⟩ := dcI.back _ _ _ hb3 e4
    have hb4 : ∀ b ∈ t4, b < 256 := fun b hm => hb3 b (by rw [q4]; exact List.mem_append_right _ hm)
    obtain ⟨y5, t5, e5, g5⟩ := dBind_some g4
    obtain ⟨q5, r5⟩ := dcI.back _ _ _ hb4 e5
    have hb5 : ∀ b ∈ t5, b < 256 := fun b hm => hb4 b (by rw [q5]; exact List.mem_append_right _ hm)
    obtain ⟨y6, t6, e6, g6⟩ := dBind_some g5
    obtain ⟨q6, r6⟩ := (Dc.list dcI).back _ _ _ hb5 e6
    have hb6 : ∀ b ∈ t6, b < 256 := fun b hm => hb5 b (by rw [q6]; exact List.mem_append_right _ hm)
    obtain ⟨y7, t7, e7, g7⟩ := dBind_some g6
    obtain ⟨q7, r7⟩ := (Dc.list dcIns).back _ _ _ hb6 e7
    have hb7 : ∀ b ∈ t7, b < 256 := fun b hm => hb6 b (by rw [q7]; exact List.mem_append_right _ hm)
    obtain ⟨y8, t8, e8, g8⟩ := dBind_some g7
    obtain ⟨q8, r8⟩ := (Dc.list dcPrc).back _ _ _ hb7 e8
    have hb8 : ∀ b ∈ t8, b < 256 := fun b hm => hb7 b (by rw [q8]; exact List.mem_append_right _ hm)
    obtain ⟨y9, t9, e9, g9⟩ := dBind_some g8
    obtain ⟨q9, r9⟩ := dcI.back _ _ _ hb8 e9
    have hb9 : ∀ b ∈ t9, b < 256 := fun b hm => hb8 b (by rw [q9]; exact List.mem_append_right _ hm)
    obtain ⟨y10, t10, e10, g10⟩ := dBind_some g9
    obtain ⟨q10, r10⟩ := dcI.back _ _ _ hb9 e10
    have hb10 : ∀ b ∈ t10, b < 256 := fun b hm => hb9 b (by rw [q10]; exact List.mem_append_right _ hm)
    obtain ⟨y11, t11, e11, g11⟩ := dBind_some g10
    obtain ⟨q11, r11⟩ := dcI.back _ _ _ hb10 e11
    have hb11 : ∀ b ∈ t11, b < 256 := fun b hm => hb10 b (by rw [q11]; exact List.mem_append_right _ hm)
    obtain ⟨y12, t12, e12, g12⟩ := dBind_some g11
    obtain ⟨q12, r12⟩ := dcI.back _ _ _ hb11 e12
    have hb12 : ∀ b ∈ t12, b < 256 := fun b hm => hb11 b (by rw [q12]; exact List.mem_append_right _ hm)
    obtain ⟨y13, t13, e13, g13⟩ := dBind_some g12
    obtain ⟨q13, r13⟩ := dcI.back _ _ _ hb12 e13
    have hb13 : ∀ b ∈ t13, b < 256 := fun b hm => hb12 b (by rw [q13]; exact List.mem_append_right _ hm)
    obtain ⟨y14, t14, e14, g14⟩ := dBind_some g13
    obtain ⟨q14, r14⟩ := dcI.back _ _ _ hb13 e14
    have hb14 : ∀ b ∈ t14, b < 256 := fun b hm => hb13 b (by rw [q14]; exact List.mem_append_right _ hm)
    obtain ⟨y15, t15, e15, g15⟩ := dBind_some g14
    obtain ⟨q15, r15⟩ := dcI.back _ _ _ hb14 e15
    have hb15 : ∀ b ∈ t15, b < 256 := fun b hm => hb14 b (by rw [q15]; exact List.mem_append_right _ hm)
    obtain ⟨y16, t16, e16, g16⟩ := dBind_some g15
    obtain ⟨q16, r16⟩ := dcI.back _ _ _ hb15 e16
    have hb16 : ∀ b ∈ t16, b < 256 := fun b hm => hb15 b (by rw [q16]; exact List.mem_append_right _ hm)
    obtain ⟨y17, t17, e17, g17⟩ := dBind_some g16
    obtain ⟨q17, r17⟩ := dcI.back _ _ _ hb16 e17
    have hb17 : ∀ b ∈ t17, b < 256 := fun b hm => hb16 b (by rw [q17]; exact List.mem_append_right _ hm)
    obtain ⟨y18, t18, e18, g18⟩ := dBind_some g17
    obtain ⟨q18, r18⟩ := (Dc.list dcSm).back _ _ _ hb17 e18
    have hb18 : ∀ b ∈ t18, b < 256 := fun b hm => hb17 b (by rw [q18]; exact List.mem_append_right _ hm)
    obtain ⟨y19, t19, e19, g19⟩ := dBind_some g18
    obtain ⟨q19, r19⟩ := (Dc.list dcB).back _ _ _ hb18 e19
    have hb19 : ∀ b ∈ t19, b < 256 := fun b hm => hb18 b (by rw [q19]; exact List.mem_append_right _ hm)
    obtain ⟨y20, t20, e20, g20⟩ := dBind_some g19
    obtain ⟨q20, r20⟩ := (Dc.list dcBf).back _ _ _ hb19 e20
    simp only [dPure, Option.some.injEq, Prod.mk.injEq] at g20
    obtain ⟨rfl, rfl⟩ := g20
    refine ⟨?_, r0, r1, r2, r3, r4, r5, r6, r7, r8, r9, r10, r11, r12, r13, r14, r15, r16, r17, r18, r19, r20⟩
    simp only [encPn, List.append_assoc]
    rw [← q20, ← q19, ← q18, ← q17, ← q16, ← q15, ← q14, ← q13, ← q12, ← q11, ← q10, ← q9, ← q8, ← q7, ← q6, ← q5, ← q4, ← q3, ← q2, ← q1, ← q0]
  pos x := by unfold encPn; rw [List.length_append]; have := dcI.pos x.pe; omega
  lt x hx := by
    obtain ⟨o0, o1, o2, o3, o4, o5, o6, o7, o8, o9, o10, o11, o12, o13, o14, o15, o16, o17, o18, o19, o20⟩ := hx
    intro b hb
    simp only [encPn, List.mem_append] at hb
    rcases hb with hb | hb | hb | hb | hb | hb | hb | hb | hb | hb | hb | hb | hb | hb | hb | hb | hb | hb | hb | hb | hb
    · exact dcI.lt _ o0 b hb
    · exact dcI.lt _ o1 b hb
    · exact dcI.lt _ o2 b hb
    · exact dcI.lt _ o3 b hb
    · exact dcI.lt _ o4 b hb
    · exact dcI.lt _ o5 b hb
    · exact (Dc.list dcI).lt _ o6 b hb
    · exact (Dc.list dcIns).lt _ o7 b hb
    · exact (Dc.list dcPrc).lt _ o8 b hb
    · exact dcI.lt _ o9 b hb
    · exact dcI.lt _ o10 b hb
    · exact dcI.lt _ o11 b hb
    · exact dcI.lt _ o12 b hb
    · exact dcI.lt _ o13 b hb
    · exact dcI.lt _ o14 b hb
    · exact dcI.lt _ o15 b hb
    · exact dcI.lt _ o16 b hb
    · exact dcI.lt _ o17 b hb
    · exact (Dc.list dcSm).lt _ o18 b hb
    · exact (Dc.list dcB).lt _ o19 b hb
    · exact (Dc.list dcBf).lt _ o20 b hb

/-! ### Im -/
structure Im where
  parts : List Pn
  ports : List Po
  chans : List Ch
def okIm (x : Im) : Prop := okL okPn x.parts ∧ okL okPo x.ports ∧ okL okCh x.chans
def encIm (x : Im) : List Nat := encL encPn x.parts ++ (encL encPo x.ports ++ (encL encCh x.chans))
def decIm : Dec Im := dBind (decL decPn) (fun parts => dBind (decL decPo) (fun ports => dBind (decL decCh) (fun chans => dPure ⟨parts, ports, chans⟩)))
theorem dcIm : Dc decIm encIm okIm where
  there x t hx hs := by
    obtain ⟨o0, o1, o2⟩ := hx
    simp only [encIm, List.length_append] at hs
    simp only [encIm, List.append_assoc]
    unfold decIm
    rw [dBind_eq ((Dc.list dcPn).there _ _ o0 (le_l hs))]
    have hs0 := le_r hs
    rw [dBind_eq ((Dc.list dcPo).there _ _ o1 (le_l hs0))]
    have hs1 := le_r hs0
    rw [dBind_eq ((Dc.list dcCh).there _ _ o2 hs1)]
    rfl
  back xs x t hb h := by
    unfold decIm at h
    obtain ⟨y0, t0, e0, g0⟩ := dBind_some h
    obtain ⟨q0, r0⟩ := (Dc.list dcPn).back _ _ _ hb e0
    have hb0 : ∀ b ∈ t0, b < 256 := fun b hm => hb b (by rw [q0]; exact List.mem_append_right _ hm)
    obtain ⟨y1, t1, e1, g1⟩ := dBind_some g0
    obtain ⟨q1, r1⟩ := (Dc.list dcPo).back _ _ _ hb0 e1
    have hb1 : ∀ b ∈ t1, b < 256 := fun b hm => hb0 b (by rw [q1]; exact List.mem_append_right _ hm)
    obtain ⟨y2, t2, e2, g2⟩ := dBind_some g1
    obtain ⟨q2, r2⟩ := (Dc.list dcCh).back _ _ _ hb1 e2
    simp only [dPure, Option.some.injEq, Prod.mk.injEq] at g2
    obtain ⟨rfl, rfl⟩ := g2
    refine ⟨?_, r0, r1, r2⟩
    simp only [encIm, List.append_assoc]
    rw [← q2, ← q1, ← q0]
  pos x := by unfold encIm; rw [List.length_append]; have := (Dc.list dcPn).pos x.parts; omega
  lt x hx := by
    obtain ⟨o0, o1, o2⟩ := hx
    intro b hb
    simp only [encIm, List.mem_append] at hb
    rcases hb with hb | hb | hb
    · exact (Dc.list dcPn).lt _ o0 b hb
    · exact (Dc.list dcPo).lt _ o1 b hb
    · exact (Dc.list dcCh).lt _ o2 b hb

end Go.Proofs.YtolmhoenjcinjaaGreat
