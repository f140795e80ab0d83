/-
  Seal.
-/
import Derived.Test.YtakdfpenpodplaaSum
import Derived.Test.YtakdfpenpodplaaEq
import Derived.Deep.Cut
namespace Go.Proofs.Ytakdfpenpodplaa
open Go.RowKit
set_option linter.unusedVariables false

/-- a Writer that was made since w0 -/
def WS (w0 : World) (p : Nat) (bs : List Nat) (e : Int) (w : World) : Prop := ∃ F, Wr w F p bs e ∧ (∀ k, F k → w0.heap.size ≤ k) ∧ Below w0.heap.size w0 w

theorem WS.of {w0 w w' : World} {p : Nat} {bs' : List Nat} {e' : Int} {F : Nat → Prop} (hF : ∀ k, F k → w0.heap.size ≤ k) (hB : Below w0.heap.size w0 w) (h : WrDid F p bs' e' w w') : WS w0 p bs' e' w' := by
  obtain ⟨F', hw, hk, hs⟩ := h
  exact ⟨F', hw, fun k hk' => by rcases hs k hk' with h1 | h1; exact hF k h1; exact Nat.le_trans hB.size h1, hB.trans (hk.below (fun k h => hF k h) hB.size)⟩
theorem WS.did {w0 w : World} {p : Nat} {bs bs' : List Nat} {e e' : Int} {f : Nat} {args : Array Value} {r : Ending} (h : WS w0 p bs e w)
    (c : ∀ F, Wr w F p bs e → Calls Try.prog f args w fun ex w' => ex = r ∧ WrDid F p bs' e' w w') : Calls Try.prog f args w fun ex w' => ex = r ∧ WS w0 p bs' e' w' := by
  obtain ⟨F, hw, hF, hB⟩ := h
  exact (c F hw).mono fun ex w' ⟨h1, h2⟩ => ⟨h1, WS.of hF hB h2⟩
theorem WS.below {w0 w : World} {p : Nat} {bs : List Nat} {e : Int} (h : WS w0 p bs e w) : Below w0.heap.size w0 w := by obtain ⟨F, _, _, hB⟩ := h; exact hB
theorem WS.alloc {w0 w : World} {p : Nat} {bs : List Nat} {e : Int} (h : WS w0 p bs e w) (o : Obj) : WS w0 p bs e (w.alloc o) := by
  obtain ⟨F, hw, hF, hB⟩ := h
  exact ⟨F, hw.kept ((Kept.refl No w).alloc o) (fun _ _ h => h), hF, hB.alloc hB.size o⟩
theorem WS.lt {w0 w : World} {p : Nat} {bs : List Nat} {e : Int} (h : WS w0 p bs e w) : ∀ x ∈ bs, x < 256 := by obtain ⟨F, ⟨v, hv⟩, _, _⟩ := h; exact hv.lt
theorem Bs.below {w w' : World} {F : Nat → Prop} {a : Option Addr} {n c : Nat} {xs : List Nat} (h : Bs w F a n c xs) (hb : Below w.heap.size w w') : Bs w' F a n c xs :=
  h.kept (G := No) (Kept.of_below hb) (fun _ _ h => h)

theorem ws_new (w : World) : WS w w.heap.size [] 0 (w.alloc (.cells #[.slice none 0 0, .int .i64 0] 69)) := by
  refine ⟨fun k => k = w.heap.size, ⟨.slice none 0 0, heap_alloc_new _ _, World.ownsRow_nil _ _ _ _, rfl, fun g h => by simp [Value.ownBlock] at h, fun k hk => by rw [hk]; simp, fun x hx => by cases hx⟩, fun k hk => by omega, (Below.refl _ _).alloc (Nat.le_refl _) _⟩

/-- a literal's bytes, just laid -/
theorem Bs.lit (w : World) (xs : List Nat) (hx : ∀ x ∈ xs, x < 256) (hl : xs.length ≤ 1000) : Bs (w.alloc (.cells (xs.map bv).toArray 5)) (fun k => k = w.heap.size) (some ⟨w.heap.size, 0, none⟩) xs.length xs.length xs := by
  refine ⟨rfl, Nat.le_refl _, by omega, fun h => (by cases h), fun i hi => ⟨w.heap.size, 0, rfl, rfl, ?_⟩, hx⟩
  have h := heap_alloc_new w (.cells (xs.map bv).toArray 5)
  unfold World.cell?
  simp only [h]
  simp [List.getD, hi]

/-- the lowest bytes first -/
def le (S j : Nat) : List Nat := (List.range j).map (fun i => S / 256 ^ i % 256)
theorem le_succ (S j : Nat) : le S (j + 1) = le S j ++ [S / 256 ^ j % 256] := by unfold le; rw [List.range_succ, List.map_append]; rfl
theorem le_length (S j : Nat) : (le S j).length = j := by simp [le]
def sealHead (kind : Nat) (xs : List Nat) : List Nat := [66, 75, kind, 1] ++ be xs.length 4 ++ xs
def sealed (kind : Nat) (xs : List Nat) : List Nat := sealHead kind xs ++ le (crc (sealHead kind xs)) 4
def sealX (kind : Nat) (xs : List Nat) : List Nat := if 4194304 < xs.length then [] else sealed kind xs
def sealE (xs : List Nat) : Int := if 4194304 < xs.length then 1 else 0

theorem crc_lt (xs : List Nat) : crc xs < 4294967296 := by unfold crc; omega

theorem head_bytes (w : World) (p kind : Nat) (hk : kind < 256) (h : WS w p [] 0 (w.alloc (.cells #[.slice none 0 0, .int .i64 0] 69))) :
    Calls Try.prog 46 #[.pointer (some ⟨p, 0, none⟩), .slice (some ⟨w.heap.size + 1, 0, none⟩) 4 4] ((w.alloc (.cells #[.slice none 0 0, .int .i64 0] 69)).alloc (.cells #[.int .u8 66, .int .u8 75, .int .u8 kind, .int .u8 1] 5)) fun ex w' => ex = .returned (.tuple #[]) ∧ WS w p [66, 75, kind, 1] 0 w' := by
  have hlit := Bs.lit (w.alloc (.cells #[.slice none 0 0, .int .i64 0] 69)) [66, 75, kind, 1] (by intro x hx; simp at hx; omega) (by simp)
  rw [size_alloc] at hlit
  exact (h.alloc _).did (fun F hw => bytes_any F _ p [] 0 _ 4 4 [66, 75, kind, 1] _ hw hlit (by show 0 + 4 ≤ _; omega))

set_option maxHeartbeats 2000000 in
theorem seal_any (G : Nat → Prop) (kind : Nat) (a : Option Addr) (n c : Nat) (xs : List Nat) (w : World) (hk : kind < 256) (h : Bs w G a n c xs) :
    Calls Try.prog 9 #[.int .u8 kind, .slice a n c] w fun ex w' => ∃ a' n' c', ex = .returned (.tuple #[.slice a' n' c', .int .i64 (sealE xs)]) ∧ w'.ownsRow w.heap.size 5 1 (.slice a' n' c') (sealX kind xs).length ((sealX kind xs).map bv) ∧ Below w.heap.size w w' := by
  have hl := h.len
  have HB : Hid (Bs w G a n c xs) := h
  clear h
  by_cases hn : 4194304 < n
  · rw [show sealX kind xs = [] from if_pos (by omega), show sealE xs = 1 from if_pos (by omega)]
    go_enter Try.func9, Try.ntmps9
    go_wp2
    go_ret2
    exact ⟨none, 0, 0, rfl, World.ownsRow_nil _ _ _ _, Below.refl _ _⟩
  · have e1 : sealX kind xs = sealed kind xs := if_neg (by omega)
    have e2 : sealE xs = 0 := if_neg (by omega)
    rw [e1, e2]
    clear e1 e2
    obtain ⟨p, hp⟩ : ∃ p, p = w.heap.size := ⟨_, rfl⟩
    have hws := ws_new w
    rw [← hp] at hws
    have HW0 : Hid (WS w p [] 0 (w.alloc (.cells #[.slice none 0 0, .int .i64 0] 69))) := hws
    have c23 := newWriter_any w
    rw [← hp] at c23
    have HP : Hid (p = w.heap.size) := hp
    clear hws hp
    go_enter Try.func9, Try.ntmps9
    go_upto_region 4 with (go_at_call 23; refine c23.mono ?_; rintro ex w1 ⟨rfl, rfl⟩)
    have c46 := head_bytes w p kind hk HW0.out
    go_upto_region 5 with (go_at_call 46; refine c46.mono ?_; rintro ex w1 ⟨rfl, hw1⟩)
    have c47 : Calls Try.prog 47 #[.pointer (some ⟨p, 0, none⟩), .int .i64 n] w1 fun ex w' => ex = .returned (.tuple #[]) ∧ WS w p ([66, 75, kind, 1] ++ be n 4) 0 w' := by
      have e1 : numBs [66, 75, kind, 1] 0 (n : Int) 4 = [66, 75, kind, 1] ++ be n 4 := by
        unfold numBs; rw [if_neg (by simp), if_neg (by omega), Int.toNat_natCast]
      have e2 : numE 0 (n : Int) 4 = 0 := by unfold numE; rw [if_neg (by simp), if_neg (by omega)]
      refine hw1.did (fun F hw => ?_)
      have := u32_any F p [66, 75, kind, 1] 0 n w1 hw (by simp) (by omega)
      rwa [e1, e2] at this
    clear c46 c23
    go_upto_region 6 with (go_at_call 47; refine c47.mono ?_; rintro ex w2 ⟨rfl, hw2⟩)
    have hB2 := HB.out.below hw2.below
    have c46 : Calls Try.prog 46 #[.pointer (some ⟨p, 0, none⟩), .slice a n c] w2 fun ex w' => ex = .returned (.tuple #[]) ∧ WS w p (sealHead kind xs) 0 w' := by
      refine hw2.did (fun F hw => ?_)
      have := bytes_any F G p _ 0 a n c xs w2 hw hB2 (by rw [List.length_append, be_length]; simp; omega)
      unfold sealHead; rw [hl]
      exact this
    clear c47 hB2
    go_upto_region 7 with (go_at_call 46; refine c46.mono ?_; rintro ex w3 ⟨rfl, hw3⟩)
    obtain ⟨a3, n3, k3, d3, c14⟩ : ∃ a n c, w3.cell? ⟨p, 0, none⟩ = some (.slice a n c) ∧ Calls Try.prog 14 #[.slice a n c] w3 fun ex w' => ex = .returned (.int .u32 (crc (sealHead kind xs) : Nat)) ∧ w' = w3 := by
      obtain ⟨F, ⟨v, hv⟩, _⟩ := hw3
      obtain ⟨a, c, rfl, hB⟩ := Bs.of_owns hv.own hv.lt
      exact ⟨a, _, c, hv.c0, sum_any _ a _ c _ w3 hB⟩
    have HW3 : Hid (WS w p (sealHead kind xs) 0 w3) := hw3
    clear c46 hw1 hw2 hw3
    go_upto_region 8 with (go_at_call 14; refine c14.mono ?_; rintro ex w4 ⟨rfl, hw⟩; obtain rfl := hw.symm)
    have hS := crc_lt (sealHead kind xs)
    have hlen : (sealHead kind xs).length ≤ 4194312 := by unfold sealHead; simp [be_length]; omega
    have HSE : Hid (sealed kind xs = sealHead kind xs ++ le (crc (sealHead kind xs)) 4) := rfl
    obtain ⟨hd, hhd⟩ : ∃ hd, hd = sealHead kind xs := ⟨_, rfl⟩
    have HHD : Hid (hd = sealHead kind xs) := hhd
    rw [← hhd] at hS hlen HW3 ⊢
    obtain ⟨S, hSS⟩ : ∃ S, S = crc hd := ⟨_, rfl⟩
    have HSS : Hid (S = crc hd) := hSS
    rw [← hSS] at hS ⊢
    clear c14 hSS hhd d3
    go_wp2
    go_loopw [7, 28] (fun s i wr => ∃ j : Nat, j ≤ 4 ∧ i = .int .i64 j ∧ s = .int .u32 (S / 256 ^ j : Nat) ∧ WS w p (hd ++ le S j) 0 wr) (fun _ i _ => 4 - (intOf i).toNat)
    case atStart => exact ⟨0, by omega, rfl, by simp, by simpa [le] using HW3.out⟩
    case round =>
      obtain ⟨j, hj, rfl, rfl, hwr⟩ := hrel
      clear HW3
      by_cases hj4 : j < 4
      · obtain ⟨T, hT⟩ : ∃ T, T = S / 256 ^ j := ⟨_, rfl⟩
        have hTl : T < 4294967296 := by rw [hT]; exact Nat.lt_of_le_of_lt (Nat.div_le_self _ _) hS
        have e1 : bits .and .u32 (T : Int) 255 = ((T % 256 : Nat) : Int) := by
          have h1 := u32_and_nat T 255 hTl (by decide)
          rw [show T &&& 255 = T % 256 from Nat.and_two_pow_sub_one_eq_mod T 8] at h1
          exact h1
        have e3 : IntKind.i64.wrap ((T % 256 : Nat) : Int) = ((T % 256 : Nat) : Int) := by rw [IntKind.wrap_i64]; omega
        have HT : Hid (S / 256 ^ (j + 1) = T / 256) := by rw [hT]; show S / 256 ^ (j + 1) = _; rw [Nat.pow_succ, Nat.div_div_eq_div_mul]
        obtain ⟨y, hy⟩ : ∃ y, y = T % 256 := ⟨_, rfl⟩
        rw [← hy] at e1 e3
        have c48 : Calls Try.prog 48 #[.pointer (some ⟨p, 0, none⟩), .int .i64 (y : Int)] wr fun ex w' => ex = .returned (.tuple #[]) ∧ WS w p (hd ++ le S (j + 1)) 0 w' := by
          have hy2 : y < 256 := by omega
          have e1 : numBs (hd ++ le S j) 0 (y : Int) 1 = hd ++ le S (j + 1) := by
            unfold numBs; rw [if_neg (by simp), if_neg (by omega), Int.toNat_natCast, le_succ, ← List.append_assoc, ← hT, ← hy]
            congr 1
            unfold be; simp; omega
          have e2 : numE 0 (y : Int) 1 = 0 := by unfold numE; rw [if_neg (by simp), if_neg (by omega)]
          refine hwr.did (fun F hw => ?_)
          have := u8_any F p (hd ++ le S j) 0 y wr hw (by rw [List.length_append, le_length]; omega) (by omega)
          rwa [e1, e2] at this
        rw [← hT]
        clear hT hy hwr hTl
        go_wp2_with (go_at_call 48; refine c48.mono ?_; rintro ex w5 ⟨rfl, hw5⟩)
        go_roundw
        case rel =>
          refine ⟨j + 1, by omega, by go_num, ?_, hw5⟩
          rw [HT.out]; simp
        case measure => simp [intOf]; omega
      · have hj4 : j = 4 := by omega
        subst hj4
        obtain ⟨F, hw, hF, hB⟩ := hwr
        have e : hd ++ le S 4 = sealed kind xs := by rw [HSE.out, ← HHD.out, ← HSS.out]
        have hl4 : (hd ++ le S 4).length ≤ 140737488355328 := by rw [List.length_append, le_length]; omega
        have c34 := done_any F p (hd ++ le S 4) 0 wr hw hl4
        rw [if_pos rfl, e] at c34
        clear hw hl4 e
        go_wp2_with (go_at_call 34; refine c34.mono ?_; rintro ex w5 ⟨a5, n5, k5, rfl, _, hk5, own5⟩)
        go_ret2
        exact ⟨a5, n5, k5, rfl, owns_base own5 hB.size, hB.trans (hk5.below hF hB.size)⟩

end Go.Proofs.Ytakdfpenpodplaa
