/-
  Tokens: what is told is read again.
-/
import Derived.Test.YtjhhldgbllbbhaaGreatDoorVRd
namespace Go.Proofs.YtjhhldgbllbbhaaGreatDoor
open Go.RowKit
set_option linter.unusedVariables false
set_option linter.unusedSimpArgs false

theorem dg_nat {d : Nat} (h : d < 10) : (UInt8.ofNat (48 + d)).toNat = 48 + d := by
  simp [UInt8.toNat_ofNat]; omega
theorem pm_dec {M : Nat} (hM : M ≤ 18446744073709551615) : ∀ (u : Nat) (r : List UInt8), u ≤ M → Lib.parseUintM M 0 (Lib.decDigits u ++ r) = Lib.parseUintM M u r := fun u => by
  induction u using Nat.strongRecOn with
  | _ u ih =>
    intro r hu
    by_cases h : u < 10
    · rw [Lib.decDigits_one h, List.singleton_append, Lib.parseUintM, dg_nat h, if_pos ⟨by omega, by omega⟩, if_neg (by omega), if_neg (by omega)]
      congr 1
      omega
    · have e : Lib.decDigits u = Lib.decDigits (u / 10) ++ [UInt8.ofNat (48 + u % 10)] := by
        conv => lhs; rw [Lib.decDigits]
        rw [dif_neg h]
      rw [e, List.append_assoc, ih (u / 10) (by omega) _ (by omega), List.singleton_append, Lib.parseUintM, dg_nat (by omega), if_pos ⟨by omega, by omega⟩, if_neg (by omega), if_neg (by omega)]
      congr 1
      omega
theorem dec_ne (u : Nat) : Lib.decDigits u ≠ [] := by
  rw [Lib.decDigits]
  split <;> simp
theorem pu_dec {u : Nat} (h : u ≤ 18446744073709551615) : Lib.parseUintB 64 (Lib.decDigits u) = .ok u := by
  unfold Lib.parseUintB
  rw [if_neg (dec_ne u)]
  have := pm_dec (M := 2 ^ 64 - 1) (by decide) u [] (by simpa using h)
  rw [List.append_nil] at this
  rw [this, Lib.parseUintM]
theorem dec_dig : ∀ (u : Nat) (c : UInt8), c ∈ Lib.decDigits u → 48 ≤ c.toNat ∧ c.toNat ≤ 57 := fun u => by
  induction u using Nat.strongRecOn with
  | _ u ih =>
    intro c hc
    by_cases h : u < 10
    · rw [Lib.decDigits_one h] at hc
      have hc := List.mem_singleton.1 hc
      subst hc
      rw [dg_nat h]
      omega
    · have e : Lib.decDigits u = Lib.decDigits (u / 10) ++ [UInt8.ofNat (48 + u % 10)] := by
        conv => lhs; rw [Lib.decDigits]
        rw [dif_neg h]
      rw [e, List.mem_append] at hc
      rcases hc with hc | hc
      · exact ih (u / 10) (by omega) c hc
      · have hc := List.mem_singleton.1 hc
        subst hc
        rw [dg_nat (by omega)]
        omega
theorem parse_itoa {n : Int} (h : T6 n) : Lib.parseIntB 64 (Lib.itoa n) = .ok n := by
  obtain ⟨h0, h1⟩ := h
  by_cases hn : n < 0
  · obtain ⟨u, rfl⟩ : ∃ u : Nat, n = -(u : Int) := ⟨n.natAbs, by omega⟩
    rw [Lib.itoa_neg u (by omega), Lib.parseIntB_minus, pu_dec (by omega)]
    unfold Lib.signedC
    simp
    omega
  · obtain ⟨u, rfl⟩ : ∃ u : Nat, n = (u : Int) := ⟨n.toNat, by omega⟩
    rw [Lib.itoa_nonneg]
    cases hd : Lib.decDigits u with
    | nil => exact absurd hd (dec_ne u)
    | cons c r =>
      have hc := dec_dig u c (by rw [hd]; exact List.mem_cons_self ..)
      rw [Lib.parseIntB_plain 64 c r (by omega) (by omega), ← hd, pu_dec (by omega)]
      unfold Lib.signlessC
      simp
      omega
/-- no blank in it -/
def NoB (t : List UInt8) : Prop := ∀ c ∈ t, c ≠ 32
theorem itoa_nob (n : Int) : NoB (Lib.itoa n) := by
  intro c hc e
  subst e
  unfold Lib.itoa at hc
  split at hc
  · rcases List.mem_cons.1 hc with h | h
    · exact absurd h (by decide)
    · have := dec_dig _ _ h; revert this; decide
  · have := dec_dig _ _ hc; revert this; decide
theorem nms_nob : ∀ t ∈ NMS, NoB t.data.toList := by
  have h : ∀ t ∈ NMS, ∀ c ∈ t.data.toList, c ≠ 32 := by decide
  exact h
theorem Fl.nob (f : Fl) (h : f.ok) : NoB f.tok.data.toList := by
  obtain ⟨g, n⟩ := f
  match g, h with
  | 0, h => exact itoa_nob n
  | 1, h => exact itoa_nob n
  | _ + 2, h =>
    have h1 : 0 ≤ n ∧ n < 13 := h
    have hm : NMS.getD n.toNat ⟨#[]⟩ ∈ NMS := by
      rw [List.getD, List.getElem?_eq_getElem (show n.toNat < NMS.length from (by show n.toNat < 13; omega))]
      exact List.getElem_mem _
    exact nms_nob _ hm
theorem ib_none : ∀ (t : List UInt8), NoB t → Lib.indexByte t 32 = -1
  | [], _ => rfl
  | c :: t, h => by
    rw [Lib.indexByte, ib_none t (fun d hd => h d (List.mem_cons_of_mem _ hd))]
    have := h c (List.mem_cons_self ..)
    simp [this]
theorem ib_some : ∀ (t l : List UInt8), NoB t → Lib.indexByte (t ++ 32 :: l) 32 = (t.length : Int)
  | [], l, _ => by simp [Lib.indexByte]
  | c :: t, l, h => by
    rw [List.cons_append, Lib.indexByte, ib_some t l (fun d hd => h d (List.mem_cons_of_mem _ hd))]
    have := h c (List.mem_cons_self ..)
    simp [this]
theorem toks_one {t : List UInt8} (h : NoB t) : toks ⟨t.toArray⟩ = [⟨t.toArray⟩] := by
  have hi : Lib.indexB ⟨t.toArray⟩ sp1 = -1 := by
    show Lib.index t.toArray.toList [32] = -1
    rw [Lib.index_one]
    simpa using ib_none t h
  unfold toks
  exact Lib.splitB_miss _ _ _ _ hi
theorem toks_more {t l : List UInt8} (h : NoB t) : toks ⟨(t ++ 32 :: l).toArray⟩ = ⟨t.toArray⟩ :: toks ⟨l.toArray⟩ := by
  have hi : Lib.indexB ⟨(t ++ 32 :: l).toArray⟩ sp1 = (t.length : Int) := by
    show Lib.index (t ++ 32 :: l).toArray.toList [32] = _
    rw [Lib.index_one]
    simpa using ib_some t l h
  have e1 : (⟨(t ++ 32 :: l).toArray⟩ : ByteArray).extract 0 (t.length + 0) = ⟨t.toArray⟩ := by
    rw [← Lib.mk_data ((⟨(t ++ 32 :: l).toArray⟩ : ByteArray).extract 0 (t.length + 0)), Lib.extract_from_zero]
    simp
  have e2 : (⟨(t ++ 32 :: l).toArray⟩ : ByteArray).extract (t.length + sp1.size) (⟨(t ++ 32 :: l).toArray⟩ : ByteArray).size = ⟨l.toArray⟩ := by
    rw [← Lib.mk_data ((⟨(t ++ 32 :: l).toArray⟩ : ByteArray).extract (t.length + sp1.size) _), Lib.extract_to_end]
    have : sp1.size = 1 := rfl
    rw [this]
    simp
  unfold toks
  rw [Lib.countB_hit _ _ _ (by decide) hi, Nat.add_comm 1, Lib.splitB_hit _ _ _ _ _ hi, e1, e2]
theorem toks_join : ∀ (ts : List (List UInt8)), ts ≠ [] → (∀ t ∈ ts, NoB t) → toks ⟨(Lib.join ts [32]).toArray⟩ = ts.map (fun t => ⟨t.toArray⟩)
  | [], h, _ => absurd rfl h
  | [t], _, h => by rw [Lib.join_one, toks_one (h t (List.mem_cons_self ..))]; rfl
  | t :: u :: r, _, h => by
    have e : Lib.join (t :: u :: r) [32] = t ++ 32 :: Lib.join (u :: r) [32] := by
      rw [Lib.join_cons, Lib.join_cons]
      simp [Lib.joinTail]
    rw [e, toks_more (h t (List.mem_cons_self ..)), toks_join (u :: r) (by simp) (fun v hv => h v (List.mem_cons_of_mem _ hv))]
    rfl
theorem toks_line {x : Ev} (hg : x.Go) (hf : x.Fit) : toks (lineB x) = x.fls.map Fl.tok := by
  unfold lineB
  have e : sp1.data.toList = [32] := rfl
  rw [e, toks_join _ (by simp [Ev.fls, Ev.six]) (fun t ht => by
    rw [List.map_map, List.mem_map] at ht
    obtain ⟨f, hm, rfl⟩ := ht
    exact Fl.nob f (Ev.fls_ok hg hf f hm)), List.map_map]
  have : ((fun t : List UInt8 => (⟨t.toArray⟩ : ByteArray)) ∘ fun t : ByteArray => t.data.toList) = id := by
    funext t
    simp
  rw [this, List.map_id]
theorem tokI_inj {n m : Int} (hn : T6 n) (hm : T6 m) (e : tokI n = tokI m) : n = m := by
  have h : Lib.itoa n = Lib.itoa m := by
    have := congrArg (fun t : ByteArray => t.data.toList) e
    simpa [tokI] using this
  have h1 := parse_itoa hn
  rw [h, parse_itoa hm] at h1
  injection h1 with h1
  exact h1.symm
theorem words_inj : ∀ (l m : List Int), (∀ z ∈ l, T6 z) → (∀ z ∈ m, T6 z) → l.map tokI = m.map tokI → l = m
  | [], [], _, _, _ => rfl
  | [], z :: m, _, _, e => by simp at e
  | z :: l, [], _, _, e => by simp at e
  | z :: l, y :: m, hl, hm, e => by
    simp only [List.map_cons, List.cons.injEq] at e
    rw [tokI_inj (hl z (List.mem_cons_self ..)) (hm y (List.mem_cons_self ..)) e.1, words_inj l m (fun u hu => hl u (List.mem_cons_of_mem _ hu)) (fun u hu => hm u (List.mem_cons_of_mem _ hu)) e.2]
theorem fls_tok (x : Ev) : x.fls.map Fl.tok = tokI x.tk :: tokI x.pt :: NMS.getD x.kd.toNat ⟨#[]⟩ :: tokI x.pr :: tokI x.ea :: tokI x.eb :: x.d.map tokI := by
  simp only [Ev.fls, Ev.six, List.map_append, List.map_cons, List.map_nil, List.map_map, List.cons_append, List.nil_append]
  rfl
/-- two events have one line just if they are one -/
theorem line_inj {x y : Ev} (hx : x.Go) (fx : x.Fit) (hy : y.Go) (fy : y.Fit) (e : lineB x = lineB y) : x = y := by
  have h := toks_line hx fx
  rw [e, toks_line hy fy, fls_tok, fls_tok] at h
  simp only [List.cons.injEq] at h
  obtain ⟨h1, h2, h3, h4, h5, h6, h7⟩ := h
  obtain ⟨a0, a1, a2, a3, a4, a5, a6, a7, a8⟩ := hx
  obtain ⟨b0, b1, b2, b3, b4, b5, b6, b7, b8⟩ := hy
  have g1 := tokI_inj ⟨by omega, by omega⟩ ⟨by omega, by omega⟩ h1
  have g2 := tokI_inj ⟨by omega, by omega⟩ ⟨by omega, by omega⟩ h2
  have g3 : y.kd.toNat = x.kd.toNat := by
    apply Decidable.byContradiction
    intro hne
    have := nms_apart y.kd.toNat (by omega) x.kd.toNat (by omega) hne
    rw [h3] at this
    simp at this
  have g4 := tokI_inj ⟨by omega, by omega⟩ ⟨by omega, by omega⟩ h4
  have g5 := tokI_inj fy.1 fx.1 h5
  have g6 := tokI_inj fy.2.1 fx.2.1 h6
  have g7 := words_inj _ _ fy.2.2 fx.2.2 h7
  have g3' : y.kd = x.kd := by omega
  cases x; cases y
  simp at g1 g2 g3' g4 g5 g6 g7
  simp [g1, g2, g3', g4, g5, g6, g7]
end Go.Proofs.YtjhhldgbllbbhaaGreatDoor
