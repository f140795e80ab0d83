/-
  One text: Same, Crc, Sum, Eq, Seal, Unseal, SealPlain.
-/
import Derived.Test.YtjhhldgbllbbhaaGreatDoorCRd
import Derived.Test.YtjhhldgbllbbhaaGreatDoorHeap
import Derived.Laws.BytesArg
import Derived.Deep.Cut
namespace Go.Proofs.YtjhhldgbllbbhaaGreatDoor
open Go.RowKit
set_option linter.unusedVariables false
set_option maxRecDepth 100000

theorem Bs.drewN {w : World} {F : Nat → Prop} {a : Option Addr} {n c : Nat} {xs : List Nat} (h : Bs w F a n c xs) (k : Nat) : Bs (w.drewN k) F a n c xs := h.kept ((Kept.refl No w).drewN k) (fun _ _ h => h)
theorem drewN_add (w : World) (a b : Nat) : (w.drewN a).drewN b = w.drewN (a + b) := by simp [World.drewN, Nat.add_assoc]

end Go.Proofs.YtjhhldgbllbbhaaGreatDoor

namespace Go.Proofs.YtjhhldgbllbbhaaGreatDoor
set_option linter.unusedVariables false
set_option maxRecDepth 100000

def crcBit (r : Nat) : Nat := (r / 2) ^^^ (3988292384 * (r % 2))
def crcBits : Nat → Nat → Nat
  | 0, r => r
  | k + 1, r => crcBit (crcBits k r)
def crcByte (r x : Nat) : Nat := crcBits 8 (r ^^^ x)
def crcReg (bs : List Nat) : Nat := bs.foldl crcByte 4294967295
def crc (bs : List Nat) : Nat := 4294967295 - crcReg bs

theorem xor_lt {a b : Nat} (ha : a < 4294967296) (hb : b < 4294967296) : a ^^^ b < 4294967296 := Nat.xor_lt_two_pow (n := 32) ha hb
theorem crcBit_lt {r : Nat} (h : r < 4294967296) : crcBit r < 4294967296 := by
  unfold crcBit
  refine xor_lt (by omega) ?_
  have : r % 2 < 2 := Nat.mod_lt _ (by decide)
  have h2 : r % 2 = 0 ∨ r % 2 = 1 := by omega
  rcases h2 with h2 | h2 <;> rw [h2] <;> omega
theorem crcBits_lt {r : Nat} (h : r < 4294967296) : ∀ k, crcBits k r < 4294967296
  | 0 => h
  | k + 1 => crcBit_lt (crcBits_lt h k)
theorem crcByte_lt {r x : Nat} (h : r < 4294967296) (hx : x < 256) : crcByte r x < 4294967296 := crcBits_lt (xor_lt h (by omega)) 8
theorem crcReg_lt (bs : List Nat) (hb : ∀ x ∈ bs, x < 256) : ∀ k, (bs.take k).foldl crcByte 4294967295 < 4294967296 := by
  have : ∀ (l : List Nat) (r : Nat), (∀ x ∈ l, x < 256) → r < 4294967296 → l.foldl crcByte r < 4294967296 := by
    intro l
    induction l with
    | nil => intro r _ hr; exact hr
    | cons x l ih => intro r hl hr; exact ih _ (fun y hy => hl y (List.mem_cons_of_mem _ hy)) (crcByte_lt hr (hl x (List.mem_cons_self ..)))
  intro k
  exact this _ _ (fun x hx => hb x (List.mem_of_mem_take hx)) (by decide)
theorem crcReg_step (bs : List Nat) (k : Nat) (h : k < bs.length) : (bs.take (k + 1)).foldl crcByte 4294967295 = crcByte ((bs.take k).foldl crcByte 4294967295) (bs.getD k 0) := by
  rw [List.take_add_one, List.getElem?_eq_getElem h, List.foldl_append]
  simp [List.getD, h]

end Go.Proofs.YtjhhldgbllbbhaaGreatDoor

namespace Go.Proofs.YtjhhldgbllbbhaaGreatDoor
open Go.RowKit
set_option linter.unusedVariables false
set_option maxRecDepth 100000

theorem not32 (R : Nat) (h : R < 4294967296) : 4294967295 ^^^ R = 4294967295 - R := by
  apply Nat.eq_of_testBit_eq
  intro i
  rw [Nat.testBit_xor, show (4294967295 : Nat) = 2 ^ 32 - 1 from rfl, Nat.testBit_two_pow_sub_one, show 2 ^ 32 - 1 - R = 2 ^ 32 - (R + 1) from by omega, Nat.testBit_two_pow_sub_succ (show R < 2 ^ 32 from h)]
  by_cases hi : i < 32
  · simp [hi]
  · have : R.testBit i = false := Nat.testBit_lt_two_pow (Nat.lt_of_lt_of_le h (Nat.pow_le_pow_right (n := 2) (by decide) (show 32 ≤ i by omega)))
    simp [hi, this]
theorem not_val (R : Nat) (h : R < 4294967296) : bits .xor .u32 IntKind.u32.max (R : Int) = 4294967295 - (R : Int) := by
  have h1 := u32_xor_nat 4294967295 R (by decide) h
  rw [not32 R h] at h1
  have h2 : IntKind.u32.max = ((4294967295 : Nat) : Int) := by decide
  rw [h2, h1]
  omega
theorem crc_val (Z : Nat) (hZ : Z < 4294967296) : bits .xor .u32 ((Z : Int) / 2) (3988292384 * bits .and .u32 (Z : Int) 1 % 4294967296) = (((Z / 2) ^^^ (3988292384 * (Z % 2)) : Nat) : Int) := by
  have h1 : bits .and .u32 (Z : Int) 1 = ((Z % 2 : Nat) : Int) := by
    have := u32_and_nat Z 1 hZ (by decide)
    rw [Nat.and_one_is_mod] at this
    exact this
  have h2 : Z % 2 = 0 ∨ Z % 2 = 1 := by omega
  have h3 : (3988292384 * ((Z % 2 : Nat) : Int)) % 4294967296 = ((3988292384 * (Z % 2) : Nat) : Int) := by rcases h2 with h2 | h2 <;> rw [h2] <;> rfl
  rw [h1, h3]
  have := u32_xor_nat (Z / 2) (3988292384 * (Z % 2)) (by omega) (by rcases h2 with h2 | h2 <;> rw [h2] <;> omega)
  rw [← this]
  rfl

set_option maxHeartbeats 1000000 in
theorem sum_any (F : Nat → Prop) (a : Option Addr) (n c : Nat) (xs : List Nat) (w : World) (h : Bs w F a n c xs) :
    Calls Tryz.prog 47 #[.slice a n c] w fun ex w' => ex = .returned (.int .u32 (crc xs : Nat)) ∧ w' = w := by
  have hl := h.len
  have hcap := h.cap
  have hmx := h.max
  have HB : Hid (Bs w F a n c xs) := h
  clear h
  go_enter Tryz.func47, Tryz.ntmps47
  go_wp2
  go_loop [3, 9] (fun r i => ∃ k : Nat, k ≤ n ∧ i = .int .i64 k ∧ r = .int .u32 ((xs.take k).foldl crcByte 4294967295 : Nat)) (fun _ i => n - (intOf i).toNat)
  case atStart => exact ⟨0, by omega, rfl, rfl⟩
  case round =>
    obtain ⟨k, hk, rfl, rfl⟩ := hrel
    by_cases hlt : k < n
    · obtain ⟨b, o, rfl, _, hc1⟩ := HB.out.at' k hlt
      obtain ⟨x, hxx⟩ : ∃ x, x = xs.getD k 0 := ⟨_, rfl⟩
      have d1 : w.cell? ⟨b, o + k, none⟩ = some (.int .u8 (x : Nat)) := by rw [hxx]; exact hc1
      have hR := crcReg_lt xs HB.out.lt k
      have hst := crcReg_step xs k (by omega)
      rw [← hxx] at hst
      obtain ⟨R, hRR⟩ : ∃ R, R = (xs.take k).foldl crcByte 4294967295 := ⟨_, rfl⟩
      rw [← hRR] at hR hst ⊢
      have hx2 : x < 256 := by
        have : xs.getD k 0 = xs[k] := by simp [List.getD, show k < xs.length by omega]
        rw [hxx, this]; exact HB.out.lt _ (List.getElem_mem _)
      have e1 : bits .xor .u32 (R : Int) (x : Int) = ((R ^^^ x : Nat) : Int) := u32_xor_nat R x hR (by omega)
      have e0 : IntKind.u32.wrap (x : Int) = (x : Int) := by rw [IntKind.wrap_u32]; omega
      have HST : Hid ((xs.take (k + 1)).foldl crcByte 4294967295 = crcByte R x) := hst
      have hY := xor_lt hR (show x < 4294967296 by omega)
      obtain ⟨Y, hYY⟩ : ∃ Y, Y = R ^^^ x := ⟨_, rfl⟩
      have HYY : Hid (Y = R ^^^ x) := hYY
      rw [← hYY] at e1 hY
      clear hst hc1 hxx hRR hR hYY
      go_wp2
      go_loop [3, 17] (fun r j => ∃ q : Nat, q ≤ 8 ∧ j = .int .i64 q ∧ r = .int .u32 (crcBits q Y : Nat)) (fun _ j => 8 - (intOf j).toNat)
      case atStart => exact ⟨0, by omega, rfl, rfl⟩
      case round =>
        obtain ⟨q, hq, rfl, rfl⟩ := hrel
        by_cases hq8 : q < 8
        · have hZ := crcBits_lt hY q
          obtain ⟨Z, hZZ⟩ : ∃ Z, Z = crcBits q Y := ⟨_, rfl⟩
          have HZ : Hid (crcBits (q + 1) Y = (Z / 2) ^^^ (3988292384 * (Z % 2))) := by show crcBit (crcBits q Y) = _; rw [← hZZ]; rfl
          rw [← hZZ] at hZ ⊢
          clear hZZ
          have e3 := crc_val Z hZ
          go_wp2
          go_round
          case rel =>
            refine ⟨q + 1, by omega, by go_num, ?_⟩
            rw [HZ.out]
          case measure => simp [intOf]; omega
        · have hq8 : q = 8 := by omega
          subst hq8
          have HC : Hid (crcBits 8 Y = crcByte R x) := by rw [HYY.out]; rfl
          go_wp2
          go_round
          case rel =>
            refine ⟨k + 1, by omega, by go_num, ?_⟩
            rw [HST.out, HC.out]
          case measure => simp [intOf]; omega
    · have hkn : k = n := by omega
      subst hkn
      have hR := crcReg_lt xs HB.out.lt k
      have e1 : xs.take k = xs := List.take_of_length_le (by omega)
      rw [e1] at hR ⊢
      have hc : ((crc xs : Nat) : Int) = 4294967295 - ((xs.foldl crcByte 4294967295 : Nat) : Int) := by unfold crc crcReg; omega
      obtain ⟨R, hRR⟩ : ∃ R, R = xs.foldl crcByte 4294967295 := ⟨_, rfl⟩
      rw [← hRR] at hR hc ⊢
      have HC : Hid (((crc xs : Nat) : Int) = 4294967295 - (R : Int)) := hc
      clear hc hRR e1
      go_wp2
      go_ret
      refine ⟨?_, rfl⟩
      rw [HC.out, ← not_val R hR]
      rfl

end Go.Proofs.YtjhhldgbllbbhaaGreatDoor

namespace Go.Proofs.YtjhhldgbllbbhaaGreatDoor
open Go.RowKit
set_option linter.unusedVariables false
set_option maxRecDepth 100000

def ints (xs : List Nat) : List Int := xs.map Int.ofNat
theorem ints_getD (xs : List Nat) (i : Nat) : (ints xs).getD i 0 = ((xs.getD i 0 : Nat) : Int) := by
  unfold ints
  simp only [List.getD, List.getElem?_map]
  cases xs[i]? <;> rfl

theorem strOf_inj {xs ys : List Nat} (hx : ∀ x ∈ xs, x < 256) (hy : ∀ x ∈ ys, x < 256) (h : (ints xs).map (fun n => UInt8.ofNat n.toNat) = (ints ys).map (fun n => UInt8.ofNat n.toNat)) : xs = ys := by
  have e : ∀ l : List Nat, (∀ x ∈ l, x < 256) → ((ints l).map (fun n => UInt8.ofNat n.toNat)).map UInt8.toNat = l := by
    intro l hl
    unfold ints
    rw [List.map_map, List.map_map]
    have : l.map ((UInt8.toNat ∘ (fun n : Int => UInt8.ofNat n.toNat)) ∘ Int.ofNat) = l.map id := by
      apply List.map_congr_left
      intro x hxl
      simp
      exact hl x hxl
    rw [this, List.map_id]
  rw [← e xs hx, ← e ys hy, h]

theorem conv_any {w : World} {F : Nat → Prop} {a : Option Addr} {n c : Nat} {xs : List Nat} (h : Bs w F a n c xs) : (convert 35 9 (.slice a n c)).run Tryz.prog w = .ok (.string (strOfNums (ints xs))) w := by
  rcases Nat.eq_zero_or_pos n with hn | hn
  · subst hn
    obtain rfl : xs = [] := List.eq_nil_of_length_eq_zero h.len
    rw [run_convert_bytes_string w 35 9 5 _ 0 c Tryz.underlying35 Tryz.underlying5 Tryz.underlying9]
    have e : strOfNums (ints []) = ByteArray.empty := by unfold strOfNums ints; simp; rfl
    rw [e]
    cases a <;> simp [Conv.bytesToString, loadCells, loadCellsFrom]
  · obtain ⟨b, o, rfl, _⟩ := h.at' 0 hn
    refine run_convert_bytes_arg (P := Tryz.prog) w 35 5 Tryz.underlying35 Tryz.underlying5 b o n c (ints xs) (by unfold ints; rw [List.length_map, h.len]) (fun i hi => ?_) 9 Tryz.underlying9
    obtain ⟨b', o', e, _, hc⟩ := h.at' i hi
    simp only [Option.some.injEq, Addr.mk.injEq] at e
    obtain ⟨rfl, rfl, _⟩ := e
    rw [hc, ints_getD]; rfl

theorem eq_of_toList {a b : ByteArray} (h : (a.toList == b.toList) = true) : a.data.toList = b.data.toList := by
  rw [ByteArray.toList_eq, ByteArray.toList_eq] at h
  simpa using h

theorem equal_any (F G : Nat → Prop) (a a' : Option Addr) (n n' c c' : Nat) (xs ys : List Nat) (w : World) (hx : Bs w F a n c xs) (hy : Bs w G a' n' c' ys) :
    Calls Tryz.prog 48 #[.slice a n c, .slice a' n' c'] w fun ex w' => ex = .returned (.bool (decide (xs = ys))) ∧ w' = w := by
  have h1 := conv_any hx
  have h2 := conv_any hy
  have hi := fun h => strOf_inj hx.lt hy.lt h
  clear hx hy
  go_enter Tryz.func48, Tryz.ntmps48
  go_wp2
  go_ret
  refine ⟨?_, rfl⟩
  have e : ((strOfNums (ints xs)).toList == (strOfNums (ints ys)).toList) = decide (xs = ys) := by
    by_cases h : xs = ys
    · subst h; simp
    · rw [decide_eq_false h]
      cases hb : ((strOfNums (ints xs)).toList == (strOfNums (ints ys)).toList) with
      | false => rfl
      | true => exact absurd (hi (by have := eq_of_toList hb; rwa [strOfNums_data, strOfNums_data] at this)) h
  rw [← e]
  rfl

end Go.Proofs.YtjhhldgbllbbhaaGreatDoor

namespace Go.Proofs.YtjhhldgbllbbhaaGreatDoor
open Go.RowKit
set_option linter.unusedVariables false
set_option maxRecDepth 100000

/-- a Writer that was made since w0 -/
def WS (w0 : World) (p : Nat) (bs : List Nat) (e : Int) (w : World) : Prop := ∃ F, Wr w F p bs e ∧ (∀ k, F k → w0.heap.size ≤ k) ∧ Below w0.heap.size w0 w

theorem WS.of {w0 w w' : World} {p : Nat} {bs' : List Nat} {e' : Int} {F : Nat → Prop} (hF : ∀ k, F k → w0.heap.size ≤ k) (hB : Below w0.heap.size w0 w) (h : WrDid F p bs' e' w w') : WS w0 p bs' e' w' := by
  obtain ⟨F', hw, hk, hs⟩ := h
  exact ⟨F', hw, fun k hk' => by rcases hs k hk' with h1 | h1; exact hF k h1; exact Nat.le_trans hB.size h1, hB.trans (hk.below (fun k h => hF k h) hB.size)⟩
theorem WS.did {w0 w : World} {p : Nat} {bs bs' : List Nat} {e e' : Int} {f : Nat} {args : Array Value} {r : Ending} (h : WS w0 p bs e w)
    (c : ∀ F, Wr w F p bs e → Calls Tryz.prog f args w fun ex w' => ex = r ∧ WrDid F p bs' e' w w') : Calls Tryz.prog f args w fun ex w' => ex = r ∧ WS w0 p bs' e' w' := by
  obtain ⟨F, hw, hF, hB⟩ := h
  exact (c F hw).mono fun ex w' ⟨h1, h2⟩ => ⟨h1, WS.of hF hB h2⟩
theorem WS.below {w0 w : World} {p : Nat} {bs : List Nat} {e : Int} (h : WS w0 p bs e w) : Below w0.heap.size w0 w := by obtain ⟨F, _, _, hB⟩ := h; exact hB
theorem WS.alloc {w0 w : World} {p : Nat} {bs : List Nat} {e : Int} (h : WS w0 p bs e w) (o : Obj) : WS w0 p bs e (w.alloc o) := by
  obtain ⟨F, hw, hF, hB⟩ := h
  exact ⟨F, hw.kept ((Kept.refl No w).alloc o) (fun _ _ h => h), hF, hB.alloc hB.size o⟩
theorem WS.lt {w0 w : World} {p : Nat} {bs : List Nat} {e : Int} (h : WS w0 p bs e w) : ∀ x ∈ bs, x < 256 := by obtain ⟨F, ⟨v, hv⟩, _, _⟩ := h; exact hv.lt
theorem Bs.below {w w' : World} {F : Nat → Prop} {a : Option Addr} {n c : Nat} {xs : List Nat} (h : Bs w F a n c xs) (hb : Below w.heap.size w w') : Bs w' F a n c xs :=
  h.kept (G := No) (Kept.of_below hb) (fun _ _ h => h)

theorem ws_new (w : World) : WS w w.heap.size [] 0 (w.alloc (.cells #[.slice none 0 0, .int .i64 0] 78)) := by
  refine ⟨fun k => k = w.heap.size, ⟨.slice none 0 0, heap_alloc_new _ _, World.ownsRow_nil _ _ _ _, rfl, fun g h => by simp [Value.ownBlock] at h, fun k hk => by rw [hk]; simp, fun x hx => by cases hx⟩, fun k hk => by omega, (Below.refl _ _).alloc (Nat.le_refl _) _⟩

/-- a literal's bytes, just laid -/
theorem Bs.lit (w : World) (xs : List Nat) (hx : ∀ x ∈ xs, x < 256) (hl : xs.length ≤ 1000) : Bs (w.alloc (.cells (xs.map bv).toArray 5)) (fun k => k = w.heap.size) (some ⟨w.heap.size, 0, none⟩) xs.length xs.length xs := by
  refine ⟨rfl, Nat.le_refl _, by omega, fun h => (by cases h), fun i hi => ⟨w.heap.size, 0, rfl, rfl, ?_⟩, hx⟩
  have h := heap_alloc_new w (.cells (xs.map bv).toArray 5)
  unfold World.cell?
  simp only [h]
  simp [List.getD, hi]

/-- the lowest bytes first -/
def le (S j : Nat) : List Nat := (List.range j).map (fun i => S / 256 ^ i % 256)
theorem le_succ (S j : Nat) : le S (j + 1) = le S j ++ [S / 256 ^ j % 256] := by unfold le; rw [List.range_succ, List.map_append]; rfl
theorem le_length (S j : Nat) : (le S j).length = j := by simp [le]
def sealHead (kind : Nat) (xs : List Nat) : List Nat := [66, 75, kind, 1] ++ be xs.length 4 ++ xs
def sealed (kind : Nat) (xs : List Nat) : List Nat := sealHead kind xs ++ le (crc (sealHead kind xs)) 4
def sealX (kind : Nat) (xs : List Nat) : List Nat := if 4194304 < xs.length then [] else sealed kind xs
def sealE (xs : List Nat) : Int := if 4194304 < xs.length then 1 else 0

theorem crc_lt (xs : List Nat) : crc xs < 4294967296 := by unfold crc; omega

theorem head_bytes (w : World) (p kind : Nat) (hk : kind < 256) (h : WS w p [] 0 (w.alloc (.cells #[.slice none 0 0, .int .i64 0] 78))) :
    Calls Tryz.prog 46 #[.pointer (some ⟨p, 0, none⟩), .slice (some ⟨w.heap.size + 1, 0, none⟩) 4 4] ((w.alloc (.cells #[.slice none 0 0, .int .i64 0] 78)).alloc (.cells #[.int .u8 66, .int .u8 75, .int .u8 kind, .int .u8 1] 5)) fun ex w' => ex = .returned (.tuple #[]) ∧ WS w p [66, 75, kind, 1] 0 w' := by
  have hlit := Bs.lit (w.alloc (.cells #[.slice none 0 0, .int .i64 0] 78)) [66, 75, kind, 1] (by intro x hx; simp at hx; omega) (by simp)
  rw [size_alloc] at hlit
  exact (h.alloc _).did (fun F hw => bytes_any F _ p [] 0 _ 4 4 [66, 75, kind, 1] _ hw hlit (by show 0 + 4 ≤ _; omega))

set_option maxHeartbeats 2000000 in
theorem seal_any (G : Nat → Prop) (kind : Nat) (a : Option Addr) (n c : Nat) (xs : List Nat) (w : World) (hk : kind < 256) (h : Bs w G a n c xs) :
    Calls Tryz.prog 24 #[.int .u8 kind, .slice a n c] w fun ex w' => ∃ a' n' c', ex = .returned (.tuple #[.slice a' n' c', .int .i64 (sealE xs)]) ∧ w'.ownsRow w.heap.size 5 1 (.slice a' n' c') (sealX kind xs).length ((sealX kind xs).map bv) ∧ Below w.heap.size w w' := by
  have hl := h.len
  have HB : Hid (Bs w G a n c xs) := h
  clear h
  by_cases hn : 4194304 < n
  · rw [show sealX kind xs = [] from if_pos (by omega), show sealE xs = 1 from if_pos (by omega)]
    go_enter Tryz.func24, Tryz.ntmps24
    go_wp2
    go_ret2
    exact ⟨none, 0, 0, rfl, World.ownsRow_nil _ _ _ _, Below.refl _ _⟩
  · have e1 : sealX kind xs = sealed kind xs := if_neg (by omega)
    have e2 : sealE xs = 0 := if_neg (by omega)
    rw [e1, e2]
    clear e1 e2
    obtain ⟨p, hp⟩ : ∃ p, p = w.heap.size := ⟨_, rfl⟩
    have hws := ws_new w
    rw [← hp] at hws
    have HW0 : Hid (WS w p [] 0 (w.alloc (.cells #[.slice none 0 0, .int .i64 0] 78))) := hws
    have c23 := newWriter_any w
    rw [← hp] at c23
    have HP : Hid (p = w.heap.size) := hp
    clear hws hp
    go_enter Tryz.func24, Tryz.ntmps24
    go_upto_region 4 with (go_at_call 20; refine c23.mono ?_; rintro ex w1 ⟨rfl, rfl⟩)
    have c46 := head_bytes w p kind hk HW0.out
    go_upto_region 5 with (go_at_call 46; refine c46.mono ?_; rintro ex w1 ⟨rfl, hw1⟩)
    have c47 : Calls Tryz.prog 41 #[.pointer (some ⟨p, 0, none⟩), .int .i64 n] w1 fun ex w' => ex = .returned (.tuple #[]) ∧ WS w p ([66, 75, kind, 1] ++ be n 4) 0 w' := by
      have e1 : numBs [66, 75, kind, 1] 0 (n : Int) 4 = [66, 75, kind, 1] ++ be n 4 := by
        unfold numBs; rw [if_neg (by simp), if_neg (by omega), Int.toNat_natCast]
      have e2 : numE 0 (n : Int) 4 = 0 := by unfold numE; rw [if_neg (by simp), if_neg (by omega)]
      refine hw1.did (fun F hw => ?_)
      have := u32_any F p [66, 75, kind, 1] 0 n w1 hw (by simp) (by omega)
      rwa [e1, e2] at this
    clear c46 c23
    go_upto_region 6 with (go_at_call 41; refine c47.mono ?_; rintro ex w2 ⟨rfl, hw2⟩)
    have hB2 := HB.out.below hw2.below
    have c46 : Calls Tryz.prog 46 #[.pointer (some ⟨p, 0, none⟩), .slice a n c] w2 fun ex w' => ex = .returned (.tuple #[]) ∧ WS w p (sealHead kind xs) 0 w' := by
      refine hw2.did (fun F hw => ?_)
      have := bytes_any F G p _ 0 a n c xs w2 hw hB2 (by rw [List.length_append, be_length]; simp; omega)
      unfold sealHead; rw [hl]
      exact this
    clear c47 hB2
    go_upto_region 7 with (go_at_call 46; refine c46.mono ?_; rintro ex w3 ⟨rfl, hw3⟩)
    obtain ⟨a3, n3, k3, d3, c14⟩ : ∃ a n c, w3.cell? ⟨p, 0, none⟩ = some (.slice a n c) ∧ Calls Tryz.prog 47 #[.slice a n c] w3 fun ex w' => ex = .returned (.int .u32 (crc (sealHead kind xs) : Nat)) ∧ w' = w3 := by
      obtain ⟨F, ⟨v, hv⟩, _⟩ := hw3
      obtain ⟨a, c, rfl, hB⟩ := Bs.of_owns hv.own hv.lt
      exact ⟨a, _, c, hv.c0, sum_any _ a _ c _ w3 hB⟩
    have HW3 : Hid (WS w p (sealHead kind xs) 0 w3) := hw3
    clear c46 hw1 hw2 hw3
    go_upto_region 8 with (go_at_call 47; refine c14.mono ?_; rintro ex w4 ⟨rfl, hw⟩; obtain rfl := hw.symm)
    have hS := crc_lt (sealHead kind xs)
    have hlen : (sealHead kind xs).length ≤ 4194312 := by unfold sealHead; simp [be_length]; omega
    have HSE : Hid (sealed kind xs = sealHead kind xs ++ le (crc (sealHead kind xs)) 4) := rfl
    obtain ⟨hd, hhd⟩ : ∃ hd, hd = sealHead kind xs := ⟨_, rfl⟩
    have HHD : Hid (hd = sealHead kind xs) := hhd
    rw [← hhd] at hS hlen HW3 ⊢
    obtain ⟨S, hSS⟩ : ∃ S, S = crc hd := ⟨_, rfl⟩
    have HSS : Hid (S = crc hd) := hSS
    rw [← hSS] at hS ⊢
    clear c14 hSS hhd d3
    go_wp2
    go_loopw [7, 28] (fun s i wr => ∃ j : Nat, j ≤ 4 ∧ i = .int .i64 j ∧ s = .int .u32 (S / 256 ^ j : Nat) ∧ WS w p (hd ++ le S j) 0 wr) (fun _ i _ => 4 - (intOf i).toNat)
    case atStart => exact ⟨0, by omega, rfl, by simp, by simpa [le] using HW3.out⟩
    case round =>
      obtain ⟨j, hj, rfl, rfl, hwr⟩ := hrel
      clear HW3
      by_cases hj4 : j < 4
      · obtain ⟨T, hT⟩ : ∃ T, T = S / 256 ^ j := ⟨_, rfl⟩
        have hTl : T < 4294967296 := by rw [hT]; exact Nat.lt_of_le_of_lt (Nat.div_le_self _ _) hS
        have e1 : bits .and .u32 (T : Int) 255 = ((T % 256 : Nat) : Int) := by
          have h1 := u32_and_nat T 255 hTl (by decide)
          rw [show T &&& 255 = T % 256 from Nat.and_two_pow_sub_one_eq_mod T 8] at h1
          exact h1
        have e3 : IntKind.i64.wrap ((T % 256 : Nat) : Int) = ((T % 256 : Nat) : Int) := by rw [IntKind.wrap_i64]; omega
        have HT : Hid (S / 256 ^ (j + 1) = T / 256) := by rw [hT]; show S / 256 ^ (j + 1) = _; rw [Nat.pow_succ, Nat.div_div_eq_div_mul]
        obtain ⟨y, hy⟩ : ∃ y, y = T % 256 := ⟨_, rfl⟩
        rw [← hy] at e1 e3
        have c48 : Calls Tryz.prog 43 #[.pointer (some ⟨p, 0, none⟩), .int .i64 (y : Int)] wr fun ex w' => ex = .returned (.tuple #[]) ∧ WS w p (hd ++ le S (j + 1)) 0 w' := by
          have hy2 : y < 256 := by omega
          have e1 : numBs (hd ++ le S j) 0 (y : Int) 1 = hd ++ le S (j + 1) := by
            unfold numBs; rw [if_neg (by simp), if_neg (by omega), Int.toNat_natCast, le_succ, ← List.append_assoc, ← hT, ← hy]
            congr 1
            unfold be; simp; omega
          have e2 : numE 0 (y : Int) 1 = 0 := by unfold numE; rw [if_neg (by simp), if_neg (by omega)]
          refine hwr.did (fun F hw => ?_)
          have := u8_any F p (hd ++ le S j) 0 y wr hw (by rw [List.length_append, le_length]; omega) (by omega)
          rwa [e1, e2] at this
        rw [← hT]
        clear hT hy hwr hTl
        go_wp2_with (go_at_call 43; refine c48.mono ?_; rintro ex w5 ⟨rfl, hw5⟩)
        go_roundw
        case rel =>
          refine ⟨j + 1, by omega, by go_num, ?_, hw5⟩
          rw [HT.out]; simp
        case measure => simp [intOf]; omega
      · have hj4 : j = 4 := by omega
        subst hj4
        obtain ⟨F, hw, hF, hB⟩ := hwr
        have e : hd ++ le S 4 = sealed kind xs := by rw [HSE.out, ← HHD.out, ← HSS.out]
        have hl4 : (hd ++ le S 4).length ≤ 140737488355328 := by rw [List.length_append, le_length]; omega
        have c34 := done_any F p (hd ++ le S 4) 0 wr hw hl4
        rw [if_pos rfl, e] at c34
        clear hw hl4 e
        go_wp2_with (go_at_call 23; refine c34.mono ?_; rintro ex w5 ⟨a5, n5, k5, rfl, _, hk5, own5⟩)
        go_ret2
        exact ⟨a5, n5, k5, rfl, owns_baseB own5 hB.size, hB.trans (hk5.below hF hB.size)⟩

end Go.Proofs.YtjhhldgbllbbhaaGreatDoor

namespace Go.Proofs.YtjhhldgbllbbhaaGreatDoor
open Go.RowKit
set_option linter.unusedVariables false
set_option maxRecDepth 100000

def inner (xs : List Nat) : List Nat := (xs.drop 8).take (xs.length - 12)
def unsOk (kind : Nat) (xs : List Nat) : Bool := decide (12 ≤ xs.length) && decide (xs.length ≤ 4194316) && decide (sealed kind (inner xs) = xs)
def unsX (kind : Nat) (xs : List Nat) : List Nat := if unsOk kind xs then inner xs else []
def unsE (kind : Nat) (xs : List Nat) : Int := if 4194316 < xs.length then 1 else if unsOk kind xs then 0 else 20

set_option maxHeartbeats 2000000 in
theorem unseal_any (G : Nat → Prop) (kind : Nat) (a : Option Addr) (n c : Nat) (xs : List Nat) (w : World) (hk : kind < 256) (h : Bs w G a n c xs) :
    Calls Tryz.prog 25 #[.int .u8 kind, .slice a n c] w fun ex w' => ∃ a' n' c', ex = .returned (.tuple #[.slice a' n' c', .int .i64 (unsE kind xs)]) ∧ w'.ownsRow w.heap.size 5 1 (.slice a' n' c') (unsX kind xs).length ((unsX kind xs).map bv) ∧ Below w.heap.size w w' := by
  have hl := h.len
  have hcap := h.cap
  have HB : Hid (Bs w G a n c xs) := h
  clear h
  by_cases hn : 4194316 < n
  · have k1 : unsOk kind xs = false := by unfold unsOk; rw [decide_eq_false (show ¬ xs.length ≤ 4194316 by omega)]; simp
    rw [show unsX kind xs = [] from by simp [unsX, k1], show unsE kind xs = 1 from if_pos (by omega)]
    clear k1
    go_enter Tryz.func25, Tryz.ntmps25
    go_wp2
    go_ret2
    exact ⟨none, 0, 0, rfl, World.ownsRow_nil _ _ _ _, Below.refl _ _⟩
  · by_cases hn2 : n < 12
    · have k1 : unsOk kind xs = false := by unfold unsOk; rw [decide_eq_false (show ¬ 12 ≤ xs.length by omega)]; simp
      rw [show unsX kind xs = [] from by simp [unsX, k1], show unsE kind xs = 20 from by unfold unsE; rw [if_neg (by omega), k1]; rfl]
      clear k1
      go_enter Tryz.func25, Tryz.ntmps25
      go_wp2
      go_ret2
      exact ⟨none, 0, 0, rfl, World.ownsRow_nil _ _ _ _, Below.refl _ _⟩
    · obtain ⟨bk, o, rfl, hGb, _⟩ := HB.out.at' 0 (by omega)
      have hBi : Bs w G (some ⟨bk, o + 8, none⟩) (n - 4 - 8) (c - 8) (inner xs) := by
        have h1 := (HB.out.drop 8 (by omega) ⟨bk, o + 8, none⟩ (fun _ => by rw [add_none])).take (n - 4 - 8) (by omega)
        unfold inner; rw [hl, show n - 12 = n - 4 - 8 from by omega]; exact h1
      have e1 : unsE kind xs = if sealed kind (inner xs) = xs then 0 else 20 := by
        unfold unsE unsOk; rw [if_neg (by omega), decide_eq_true (show 12 ≤ xs.length by omega), decide_eq_true (show xs.length ≤ 4194316 by omega)]; simp
      have e2 : unsX kind xs = if sealed kind (inner xs) = xs then inner xs else [] := by
        unfold unsX unsOk; rw [decide_eq_true (show 12 ≤ xs.length by omega), decide_eq_true (show xs.length ≤ 4194316 by omega)]; simp
      have c9 := seal_any G kind _ _ _ _ w hk hBi
      have hil : (inner xs).length = n - 4 - 8 := hBi.len
      have e3 : sealX kind (inner xs) = sealed kind (inner xs) := if_neg (by omega)
      have e4 : sealE (inner xs) = 0 := if_neg (by omega)
      rw [e3, e4] at c9
      have hne : ¬ (c = 8) := by omega
      have HBI : Hid (Bs w G (some ⟨bk, o + 8, none⟩) (n - 4 - 8) (c - 8) (inner xs)) := hBi
      clear e3 e4 hBi
      by_cases hq : sealed kind (inner xs) = xs
      · rw [if_pos hq] at e1 e2
        rw [e1, e2]
        have HQ : Hid (sealed kind (inner xs) = xs) := hq
        clear hq e1 e2
        go_enter Tryz.func25, Tryz.ntmps25
        go_upto_region 6 with fail
        go_upto_region 7 with (go_at_call 24; refine c9.mono ?_; rintro ex w1 ⟨a1, n1, k1, rfl, own1, bel1⟩)
        have hlt : ∀ x ∈ sealed kind (inner xs), x < 256 := by
          intro x hx
          unfold sealed sealHead at hx
          simp only [List.mem_append] at hx
          rcases hx with ((hx | hx) | hx) | hx
          · simp at hx; omega
          · exact be_lt _ _ x hx
          · exact HBI.out.lt x hx
          · unfold le at hx; rw [List.mem_map] at hx; obtain ⟨i, _, rfl⟩ := hx; exact Nat.mod_lt _ (by decide)
        obtain ⟨g1, m1, hv1, hB1⟩ := Bs.of_owns own1 hlt
        obtain ⟨rfl, rfl, rfl⟩ : a1 = g1 ∧ n1 = (sealed kind (inner xs)).length ∧ k1 = m1 := by injection hv1 with h1 h2 h3; exact ⟨h1, h2, h3⟩
        have c51 := equal_any _ _ _ _ _ _ _ _ _ _ w1 hB1 (HB.out.below bel1)
        have c52 := clone_any _ _ _ _ _ w1 (HBI.out.below bel1) (by omega)
        clear hv1 hB1 own1 c9 hlt
        rw [decide_eq_true HQ.out] at c51
        go_wp2_with (first | (go_at_call 48; refine c51.mono ?_; rintro ex w2 ⟨rfl, hw⟩; obtain rfl := hw.symm) | (go_at_call 45; refine c52.mono ?_; rintro ex w2 ⟨v2, rfl, own2, bel2⟩))
        go_ret2
        obtain ⟨g2, m2, hv2, _⟩ := Bs.of_owns own2 HBI.out.lt
        subst hv2
        exact ⟨g2, _, m2, rfl, owns_baseB own2 bel1.size, bel1.trans (bel2.mono bel1.size)⟩
      · rw [if_neg hq] at e1 e2
        rw [e1, e2]
        have HQ : Hid (¬ sealed kind (inner xs) = xs) := hq
        clear hq e1 e2
        go_enter Tryz.func25, Tryz.ntmps25
        go_upto_region 6 with fail
        go_upto_region 7 with (go_at_call 24; refine c9.mono ?_; rintro ex w1 ⟨a1, n1, k1, rfl, own1, bel1⟩)
        have hlt : ∀ x ∈ sealed kind (inner xs), x < 256 := by
          intro x hx
          unfold sealed sealHead at hx
          simp only [List.mem_append] at hx
          rcases hx with ((hx | hx) | hx) | hx
          · simp at hx; omega
          · exact be_lt _ _ x hx
          · exact HBI.out.lt x hx
          · unfold le at hx; rw [List.mem_map] at hx; obtain ⟨i, _, rfl⟩ := hx; exact Nat.mod_lt _ (by decide)
        obtain ⟨g1, m1, hv1, hB1⟩ := Bs.of_owns own1 hlt
        obtain ⟨rfl, rfl, rfl⟩ : a1 = g1 ∧ n1 = (sealed kind (inner xs)).length ∧ k1 = m1 := by injection hv1 with h1 h2 h3; exact ⟨h1, h2, h3⟩
        have c51 := equal_any _ _ _ _ _ _ _ _ _ _ w1 hB1 (HB.out.below bel1)
        have c52 := clone_any _ _ _ _ _ w1 (HBI.out.below bel1) (by omega)
        clear hv1 hB1 own1 c9 hlt
        rw [decide_eq_false HQ.out] at c51
        go_wp2_with (first | (go_at_call 48; refine c51.mono ?_; rintro ex w2 ⟨rfl, hw⟩; obtain rfl := hw.symm))
        go_ret2
        exact ⟨none, 0, 0, rfl, World.ownsRow_nil _ _ _ _, bel1⟩

end Go.Proofs.YtjhhldgbllbbhaaGreatDoor

namespace Go.Proofs.YtjhhldgbllbbhaaGreatDoor
set_option linter.unusedVariables false
set_option maxRecDepth 100000

theorem be4 (x : Nat) : be x 4 = [x / 16777216 % 256, x / 65536 % 256, x / 256 % 256, x % 256] := by
  simp [be, List.range_succ]
theorem be4_inj {x y : Nat} (hx : x < 4294967296) (hy : y < 4294967296) (h : be x 4 = be y 4) : x = y := by
  rw [be4, be4] at h
  simp only [List.cons.injEq, and_true] at h
  omega
theorem le4 (x : Nat) : le x 4 = [x % 256, x / 256 % 256, x / 65536 % 256, x / 16777216 % 256] := by
  simp [le, List.range_succ]
theorem le4_inj {x y : Nat} (hx : x < 4294967296) (hy : y < 4294967296) (h : le x 4 = le y 4) : x = y := by
  rw [le4, le4] at h
  simp only [List.cons.injEq, and_true] at h
  omega
theorem sealHead_length (kind : Nat) (xs : List Nat) : (sealHead kind xs).length = xs.length + 8 := by
  unfold sealHead; simp [be_length]; omega
theorem sealed_length (kind : Nat) (xs : List Nat) : (sealed kind xs).length = xs.length + 12 := by
  unfold sealed; rw [List.length_append, sealHead_length, le_length]
theorem sealed_cons (kind : Nat) (xs : List Nat) : sealed kind xs = ([66, 75, kind, 1] ++ be xs.length 4) ++ (xs ++ le (crc (sealHead kind xs)) 4) := by
  unfold sealed sealHead; simp [List.append_assoc]
theorem head8 (kind n : Nat) : ([66, 75, kind, 1] ++ be n 4).length = 8 := by simp [be_length]
theorem inner_sealed (kind : Nat) (xs : List Nat) : inner (sealed kind xs) = xs := by
  unfold inner
  rw [sealed_length, sealed_cons, List.drop_left' (head8 _ _), List.take_left' (by omega)]
theorem unsOk_iff (kind : Nat) (xs : List Nat) : unsOk kind xs = true ↔ xs.length ≤ 4194316 ∧ ∃ ys, xs = sealed kind ys := by
  unfold unsOk
  simp only [Bool.and_eq_true, decide_eq_true_eq]
  constructor
  · rintro ⟨⟨h1, h2⟩, h3⟩; exact ⟨h2, inner xs, h3.symm⟩
  · rintro ⟨h1, ys, rfl⟩
    refine ⟨⟨by rw [sealed_length]; omega, h1⟩, by rw [inner_sealed]⟩
theorem unsE_no {kind : Nat} {xs : List Nat} (hl : xs.length ≤ 4194316) (h : ∀ ys, xs ≠ sealed kind ys) : unsE kind xs = 20 ∧ unsX kind xs = [] := by
  have h1 : unsOk kind xs = false := by
    cases hk : unsOk kind xs with
    | false => rfl
    | true => obtain ⟨_, ys, h2⟩ := (unsOk_iff kind xs).1 hk; exact absurd h2 (h ys)
  constructor
  · unfold unsE; rw [if_neg (by omega), h1]; rfl
  · unfold unsX; rw [h1]; rfl
theorem unsE_yes (kind : Nat) (ys : List Nat) (hl : ys.length ≤ 4194304) : unsE kind (sealed kind ys) = 0 ∧ unsX kind (sealed kind ys) = ys := by
  have h1 : unsOk kind (sealed kind ys) = true := (unsOk_iff _ _).2 ⟨by rw [sealed_length]; omega, ys, rfl⟩
  constructor
  · unfold unsE; rw [if_neg (by rw [sealed_length]; omega), h1]; rfl
  · unfold unsX; rw [h1, inner_sealed]; rfl

/-- two sealed texts whose first eight bytes agree are as long -/
theorem same_head {kind kind' : Nat} {xs ys : List Nat} (hx : xs.length < 4294967296) (hy : ys.length < 4294967296) (h : (sealed kind xs).take 8 = (sealed kind' ys).take 8) : kind = kind' ∧ xs.length = ys.length := by
  rw [sealed_cons, sealed_cons, List.take_left' (head8 _ _), List.take_left' (head8 _ _)] at h
  have h1 : kind = kind' ∧ be xs.length 4 = be ys.length 4 := by simpa using h
  exact ⟨h1.1, be4_inj hx hy h1.2⟩

theorem cut_no {kind : Nat} {xs : List Nat} (cut : Nat) (hl : xs.length ≤ 4194304) (hc : cut < xs.length + 12) : unsE kind ((sealed kind xs).take cut) = 20 := by
  refine (unsE_no (by rw [List.length_take, sealed_length]; omega) ?_).1
  intro ys h
  have h1 : cut = ys.length + 12 := by
    have := congrArg List.length h
    rw [List.length_take, sealed_length, sealed_length] at this; omega
  have h2 : ((sealed kind xs).take cut).take 8 = (sealed kind ys).take 8 := by rw [h]
  rw [List.take_take, Nat.min_eq_left (by omega)] at h2
  have := (same_head (by omega) (by omega) h2).2
  omega
theorem more_no {kind : Nat} {xs more : List Nat} (hl : xs.length ≤ 4194304) (hm : 0 < more.length) (hs : xs.length + 12 + more.length ≤ 4194316) : unsE kind (sealed kind xs ++ more) = 20 := by
  refine (unsE_no (by rw [List.length_append, sealed_length]; omega) ?_).1
  intro ys h
  have h1 : xs.length + 12 + more.length = ys.length + 12 := by
    have := congrArg List.length h
    rw [List.length_append, sealed_length, sealed_length] at this; omega
  have h2 : (sealed kind xs ++ more).take 8 = (sealed kind ys).take 8 := by rw [h]
  rw [List.take_append_of_le_length (by rw [sealed_length]; omega)] at h2
  have := (same_head (by omega) (by omega) h2).2
  omega
theorem other_no {kind other : Nat} {xs : List Nat} (hl : xs.length ≤ 4194304) (ho : other ≠ kind) : unsE other (sealed kind xs) = 20 := by
  refine (unsE_no (by rw [sealed_length]; omega) ?_).1
  intro ys h
  have h1 := congrArg List.length h
  rw [sealed_length, sealed_length] at h1
  have h2 : (sealed kind xs).take 8 = (sealed other ys).take 8 := by rw [h]
  exact ho (same_head (by omega) (by omega) h2).1.symm

theorem xor_rc {a b c : Nat} (h : a ^^^ c = b ^^^ c) : a = b := by
  have := congrArg (· ^^^ c) h
  simpa [Nat.xor_assoc] using this
theorem xor_lc {a b c : Nat} (h : c ^^^ a = c ^^^ b) : a = b := xor_rc (c := c) (by rw [Nat.xor_comm a c, Nat.xor_comm b c]; exact h)

/-! the check sum tells one byte from another -/
theorem crcBit_top {r : Nat} (h : r < 4294967296) : (crcBit r).testBit 31 = decide (r % 2 = 1) := by
  unfold crcBit
  rw [Nat.testBit_xor, Nat.testBit_lt_two_pow (show r / 2 < 2 ^ 31 by omega)]
  have h2 : r % 2 = 0 ∨ r % 2 = 1 := by omega
  rcases h2 with h2 | h2 <;> rw [h2] <;> decide
theorem crcBit_inj {r s : Nat} (hr : r < 4294967296) (hs : s < 4294967296) (h : crcBit r = crcBit s) : r = s := by
  have h1 := crcBit_top hr
  have h2 := crcBit_top hs
  rw [h, h2] at h1
  have h3 : r % 2 = s % 2 := by
    have e : (s % 2 = 1) ↔ (r % 2 = 1) := by simpa using h1
    omega
  unfold crcBit at h
  rw [h3] at h
  have h4 : r / 2 = s / 2 := xor_rc h
  omega
theorem crcBits_inj {r s : Nat} (hr : r < 4294967296) (hs : s < 4294967296) : ∀ k, crcBits k r = crcBits k s → r = s
  | 0, h => h
  | k + 1, h => crcBits_inj hr hs k (crcBit_inj (crcBits_lt hr k) (crcBits_lt hs k) h)
theorem fold_inj : ∀ (l : List Nat) (r s : Nat), (∀ x ∈ l, x < 256) → r < 4294967296 → s < 4294967296 → l.foldl crcByte r = l.foldl crcByte s → r = s := by
  intro l
  induction l with
  | nil => intro r s _ _ _ h; exact h
  | cons x l ih =>
    intro r s hl hr hs h
    have hx := hl x (List.mem_cons_self ..)
    have h1 := ih _ _ (fun y hy => hl y (List.mem_cons_of_mem _ hy)) (crcByte_lt hr hx) (crcByte_lt hs hx) h
    have h2 := crcBits_inj (xor_lt hr (show x < 4294967296 by omega)) (xor_lt hs (show x < 4294967296 by omega)) 8 h1
    exact xor_rc h2
theorem crc_apart (l t : List Nat) (x y : Nat) (hl : ∀ z ∈ l, z < 256) (ht : ∀ z ∈ t, z < 256) (hx : x < 256) (hy : y < 256) (h : crc (l ++ x :: t) = crc (l ++ y :: t)) : x = y := by
  have hb : ∀ z, (∀ u ∈ l ++ z :: t, u < 256) → crcReg (l ++ z :: t) < 4294967296 := by
    intro z hz
    have := crcReg_lt (l ++ z :: t) hz (l ++ z :: t).length
    rw [List.take_length] at this
    exact this
  have mem : ∀ z, z < 256 → ∀ u ∈ l ++ z :: t, u < 256 := by
    intro z hz u hu
    rcases List.mem_append.1 hu with h1 | h1
    · exact hl u h1
    · rcases List.mem_cons.1 h1 with h2 | h2
      · rw [h2]; exact hz
      · exact ht u h2
  have h1 : crcReg (l ++ x :: t) = crcReg (l ++ y :: t) := by
    have a := hb x (mem x hx)
    have b := hb y (mem y hy)
    unfold crc at h; omega
  have hR : l.foldl crcByte 4294967295 < 4294967296 := by
    have := crcReg_lt l hl l.length
    rw [List.take_length] at this
    exact this
  unfold crcReg at h1
  rw [List.foldl_append, List.foldl_append, List.foldl_cons, List.foldl_cons] at h1
  have h2 := fold_inj t _ _ ht (crcByte_lt hR hx) (crcByte_lt hR hy) h1
  have h3 := crcBits_inj (xor_lt hR (show x < 4294967296 by omega)) (xor_lt hR (show y < 4294967296 by omega)) 8 h2
  exact xor_lc h3

theorem sealed_lt {kind : Nat} {xs : List Nat} (hk : kind < 256) (hx : ∀ x ∈ xs, x < 256) : ∀ x ∈ sealed kind xs, x < 256 := by
  intro x hx'
  unfold sealed sealHead at hx'
  simp only [List.mem_append] at hx'
  rcases hx' with ((h | h) | h) | h
  · simp at h; omega
  · exact be_lt _ _ x h
  · exact hx x h
  · unfold le at h; rw [List.mem_map] at h; obtain ⟨i, _, rfl⟩ := h; exact Nat.mod_lt _ (by decide)

theorem head_get (kind : Nat) (xs : List Nat) (i : Nat) (h : i < 8) : (sealed kind xs)[i]? = ([66, 75, kind, 1] ++ be xs.length 4)[i]? := by
  rw [sealed_cons]; exact List.getElem?_append_left (by rw [head8]; exact h)

/-- one byte turned -/
theorem turn_no {kind : Nat} {xs : List Nat} (hl : xs.length ≤ 4194304) (hk : kind < 256) (hx : ∀ x ∈ xs, x < 256) (i y : Nat) (hi : i < xs.length + 12) (hy : y < 256) (hne : y ≠ (sealed kind xs).getD i 0) :
    unsE kind ((sealed kind xs).set i y) = 20 ∧ unsX kind ((sealed kind xs).set i y) = [] := by
  refine unsE_no (by rw [List.length_set, sealed_length]; omega) ?_
  intro ys h
  have hlen : xs.length = ys.length := by
    have := congrArg List.length h
    rw [List.length_set, sealed_length, sealed_length] at this; omega
  have hget : ∀ j : Nat, ((sealed kind xs).set i y)[j]? = (sealed kind ys)[j]? := fun j => by rw [h]
  have hi' : i < (sealed kind xs).length := by rw [sealed_length]; exact hi
  have hat : (sealed kind ys)[i]? = some y := by rw [← hget i, List.getElem?_set_self hi']
  have hne2 : (sealed kind xs)[i]? ≠ some y := by
    intro h2
    apply hne
    rw [List.getD, h2]; rfl
  -- the head
  by_cases h8 : i < 8
  · apply hne2
    rw [← hat, head_get kind xs i h8, head_get kind ys i h8, hlen]
  · have hin : inner ((sealed kind xs).set i y) = ys := by rw [h, inner_sealed]
    by_cases hm : i < xs.length + 8
    · obtain ⟨j, rfl⟩ : ∃ j, i = 8 + j := ⟨i - 8, by omega⟩
      have hset : (sealed kind xs).set (8 + j) y = ([66, 75, kind, 1] ++ be xs.length 4) ++ (xs.set j y ++ le (crc (sealHead kind xs)) 4) := by
        rw [sealed_cons, List.set_append_right _ _ (by rw [head8]; omega), head8, List.set_append_left _ _ (by omega)]
        congr 2
        congr 1
        omega
      have hys : ys = xs.set j y := by
        rw [← hin, hset]
        unfold inner
        rw [List.drop_left' (head8 _ _), List.take_left']
        simp [be_length, le_length]; omega
      rw [hset, sealed_cons, ← hlen] at h
      have h2 := List.append_cancel_left h
      rw [← hys] at h2
      have h3 := le4_inj (crc_lt _) (crc_lt _) (List.append_cancel_left h2)
      have hj : j < xs.length := by omega
      have ex : xs = xs.take j ++ xs[j] :: xs.drop (j + 1) := by rw [List.getElem_cons_drop, List.take_append_drop]
      have ey : xs.set j y = xs.take j ++ y :: xs.drop (j + 1) := by rw [List.set_eq_take_append_cons_drop, if_pos hj]
      have hsx : sealHead kind xs = ([66, 75, kind, 1] ++ be xs.length 4 ++ xs.take j) ++ xs[j] :: xs.drop (j + 1) := by
        unfold sealHead; rw [List.append_assoc _ (xs.take j), ← ex]
      have hsy : sealHead kind ys = ([66, 75, kind, 1] ++ be xs.length 4 ++ xs.take j) ++ y :: xs.drop (j + 1) := by
        unfold sealHead; rw [List.append_assoc _ (xs.take j), ← ey, ← hys, ← hlen]
      rw [hsx, hsy] at h3
      have h4 := crc_apart _ _ _ _ (by
        intro z hz
        rcases List.mem_append.1 hz with h5 | h5
        · rcases List.mem_append.1 h5 with h6 | h6
          · simp at h6; omega
          · exact be_lt _ _ z h6
        · exact hx z (List.mem_of_mem_take h5)) (fun z hz => hx z (List.mem_of_mem_drop hz)) (hx _ (List.getElem_mem _)) hy h3
      apply hne2
      rw [sealed_cons, List.getElem?_append_right (by rw [head8]; omega), head8, Nat.add_sub_cancel_left, List.getElem?_append_left hj, List.getElem?_eq_getElem hj, h4]
    · obtain ⟨j, rfl⟩ : ∃ j, i = 8 + (xs.length + j) := ⟨i - 8 - xs.length, by omega⟩
      have hset : (sealed kind xs).set (8 + (xs.length + j)) y = ([66, 75, kind, 1] ++ be xs.length 4) ++ (xs ++ (le (crc (sealHead kind xs)) 4).set j y) := by
        rw [sealed_cons, List.set_append_right _ _ (by rw [head8]; omega), head8, Nat.add_sub_cancel_left, List.set_append_right _ _ (by omega), Nat.add_sub_cancel_left]
      have hys : ys = xs := by
        rw [← hin, hset]
        unfold inner
        rw [List.drop_left' (head8 _ _), List.take_left']
        simp [be_length, le_length]; omega
      subst hys
      exact hne2 hat

end Go.Proofs.YtjhhldgbllbbhaaGreatDoor
