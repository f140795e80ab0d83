/-
  codec.GetList of words, script.getInput: of any bytes.
-/
import Derived.Test.YtfdcmhbpnadcpabDoorEDec
namespace Go.Proofs.YtfdcmhbpnadcpabDoor
open Go.RowKit
set_option linter.unusedVariables false
set_option linter.unusedSimpArgs false
set_option maxRecDepth 100000

theorem be_val : ∀ (k : Nat) (l : List Nat), l.length = k → (∀ x ∈ l, x < 256) → be (val l) k = l := by
  intro k
  induction k with
  | zero => intro l hl _; rw [List.eq_nil_of_length_eq_zero hl]; rfl
  | succ k ih =>
    intro l hl hb
    have hne : l ≠ [] := by rintro rfl; simp at hl
    have e := List.dropLast_concat_getLast hne
    have h1 : val l = val l.dropLast * 256 + l.getLast hne := by
      have := val_snoc l.dropLast (l.getLast hne); rw [e] at this; exact this
    have hlast := hb (l.getLast hne) (List.getLast_mem hne)
    rw [be_succ, h1, show (val l.dropLast * 256 + l.getLast hne) / 256 = val l.dropLast from by omega, show (val l.dropLast * 256 + l.getLast hne) % 256 = l.getLast hne from by omega,
      ih l.dropLast (by rw [List.length_dropLast]; omega) (fun x hx => hb x ((List.dropLast_sublist l).subset hx)), e]
theorem val_lt' (l : List Nat) (h : ∀ x ∈ l, x < 256) : val l < 256 ^ l.length := by
  have := val_lt l h l.length (Nat.le_refl _)
  rwa [List.take_length] at this
theorem wback64 (V : Nat) (h : V < 18446744073709551616) : (wrap64 (V : Int) % 18446744073709551616).toNat = V := by unfold wrap64; omega
theorem wfit64 (V : Nat) : T6 (wrap64 (V : Int)) := by unfold T6 wrap64; omega
/-- a fault -/
def Fl (e : Int) : Prop := e = 0 ∨ e = 1 ∨ e = 20
theorem Fl.tk {xs : List Nat} {e n : Int} (h : Fl e) : Fl (tkE xs e n) := by
  unfold tkE
  split
  · exact h
  · split
    · exact .inl rfl
    · exact .inr (.inr rfl)
theorem Fl.cn {xs : List Nat} {e m : Int} (h : Fl e) : Fl (cnE xs e m) := by
  unfold cnE
  split
  · exact h
  · split
    · exact .inr (.inr rfl)
    · split
      · exact .inr (.inl rfl)
      · split
        · exact .inr (.inr rfl)
        · exact .inl rfl
theorem t6I (xs : List Nat) (e : Int) : T6 (rdI xs e) := by unfold rdI; exact wfit64 _
theorem tk_ok {xs : List Nat} {e n : Int} (h : tkE xs e n = 0) : e = 0 ∧ tkOk xs e n = true := by
  unfold tkE at h
  split at h
  · rename_i h1; exact absurd h h1
  · rename_i h1
    split at h
    · rename_i h2; exact ⟨by omega, h2⟩
    · omega
theorem tk_le {xs : List Nat} {e : Int} {n : Nat} (h : tkOk xs e n = true) : n ≤ xs.length := by
  unfold tkOk at h
  rw [Bool.and_eq_true, Bool.and_eq_true] at h
  have := of_decide_eq_true h.2
  omega
theorem tkRest_len (xs : List Nat) (e n : Int) : (tkRest xs e n).length ≤ xs.length := by
  unfold tkRest; split
  · rw [List.length_drop]; omega
  · omega
theorem cnRest_len (xs : List Nat) (e n : Int) : (cnRest xs e n).length ≤ xs.length := by
  unfold cnRest; split
  · rw [List.length_drop]; omega
  · omega
theorem back8 {xs : List Nat} {e : Int} (hb : ∀ b ∈ xs, b < 256) (h : tkE xs e 8 = 0) : e = 0 ∧ xs = be64 (rdI xs e) ++ tkRest xs e 8 := by
  obtain ⟨h0, h1⟩ := tk_ok h
  have hl : 8 ≤ xs.length := tk_le (n := 8) h1
  refine ⟨h0, ?_⟩
  have h8 : (xs.take 8).length = 8 := by rw [List.length_take]; omega
  have hv := val_lt' (xs.take 8) (fun b h => hb b (List.mem_of_mem_take h))
  rw [h8, p88] at hv
  have e1 : tkXs xs e ((8 : Nat) : Int) = xs.take 8 := by unfold tkXs; rw [if_pos (show tkOk xs e ((8 : Nat) : Int) = true from h1)]; rfl
  have e2 : tkRest xs e 8 = xs.drop 8 := by unfold tkRest; rw [if_pos h1]; rfl
  have e3 : be64 (rdI xs e) = xs.take 8 := by
    unfold be64 rdI rdN
    rw [e1, wback64 _ hv]
    exact be_val 8 _ h8 (fun b h => hb b (List.mem_of_mem_take h))
  rw [e3, e2, List.take_append_drop]
theorem cn_ok {xs : List Nat} {e m : Int} (h : cnE xs e m = 0) : e = 0 ∧ cnOk xs e m = true := by
  unfold cnE at h
  split at h
  · rename_i h1; exact absurd h h1
  · rename_i h1
    split at h
    · omega
    · rename_i h2
      split at h
      · omega
      · rename_i h3
        split at h
        · omega
        · rename_i h4
          refine ⟨by omega, ?_⟩
          unfold cnOk
          rw [decide_eq_true (by omega), decide_eq_true (by omega)]
          simp only [Bool.not_eq_false] at h2
          rw [h2]; rfl
theorem cn_no {xs : List Nat} {e m : Int} (h : ¬ cnE xs e m = 0) : cnN xs e m = 0 := by
  unfold cnN
  split
  · rename_i h1
    exfalso
    apply h
    unfold cnOk at h1
    rw [Bool.and_eq_true, Bool.and_eq_true] at h1
    have h2 := of_decide_eq_true h1.1.2
    have h3 := of_decide_eq_true h1.2
    have h4 : e = 0 := by have := h1.1.1; unfold tkOk at this; simp at this; exact this.1
    unfold cnE
    rw [if_neg (by omega), if_neg (by rw [h1.1.1]; decide), if_neg (by omega), if_neg (by omega)]
  · rfl
theorem cn_nat (xs : List Nat) (e m : Int) : ∃ n : Nat, cnN xs e m = n := by
  unfold cnN; split
  · exact ⟨_, rfl⟩
  · exact ⟨0, rfl⟩
theorem backC {xs : List Nat} {e m : Int} {n : Nat} (hb : ∀ b ∈ xs, b < 256) (hn : cnN xs e m = n) (h : cnE xs e m = 0) : e = 0 ∧ (n : Int) ≤ m ∧ n + 4 ≤ xs.length ∧ xs = be n 4 ++ cnRest xs e m := by
  obtain ⟨h0, h1⟩ := cn_ok h
  have e1 : cnN xs e m = rdN xs e 4 := by unfold cnN; rw [if_pos h1]
  have e2 : cnRest xs e m = xs.drop 4 := by unfold cnRest; rw [if_pos h1]
  unfold cnOk at h1
  rw [Bool.and_eq_true, Bool.and_eq_true] at h1
  have q2 := of_decide_eq_true h1.1.2
  have q3 := of_decide_eq_true h1.2
  have q1 := h1.1.1
  have hl : 4 ≤ xs.length := tk_le (n := 4) q1
  have h4 : (xs.take 4).length = 4 := by rw [List.length_take]; omega
  have e3 : tkXs xs e ((4 : Nat) : Int) = xs.take 4 := by unfold tkXs; rw [if_pos (show tkOk xs e ((4 : Nat) : Int) = true from q1)]; rfl
  have e4 : rdN xs e 4 = ((val (xs.take 4) : Nat) : Int) := by unfold rdN; rw [e3]
  have e5 : n = val (xs.take 4) := by omega
  refine ⟨h0, by omega, by omega, ?_⟩
  rw [e2, e5, be_val 4 _ h4 (fun b h => hb b (List.mem_of_mem_take h)), List.take_append_drop]
/-- words that were read -/
def Gw (w : World) (F : Nat → Prop) (p : Nat) (xs : List Nat) (e : Int) (a : Option Addr) (m c : Nat) (w' : World) : Prop :=
  ∃ ys rest e', ys.length = m ∧ w'.ownsRow w.heap.size 2 1 (.slice a m c) m (ys.map iv) ∧ Rd w' F p rest e' ∧ Fl e' ∧ (e' = 0 → e = 0 ∧ xs = be m 4 ++ (wdB ys ++ rest)) ∧ (∀ z ∈ ys, T6 z) ∧ m ≤ 524288 ∧ Kept (fun k => k = p) w w'
set_option maxHeartbeats 4000000 in
theorem getWords_any (F : Nat → Prop) (p : Nat) (xs : List Nat) (e : Int) (w : World) (h : Rd w F p xs e) (hF : ∀ k, F k → k < w.heap.size) (hs : xs.length ≤ 4194304) (hfl : Fl e) :
    Calls Tryd.prog 29 #[.pointer (some ⟨p, 0, none⟩), .int .i64 4294967295, .func (.func 28) #[] #[]] w fun ex w' => ∃ a m c, ex = .returned (.slice a m c) ∧ Gw w F p xs e a m c w' := by
  obtain ⟨n, hn⟩ := cn_nat xs e 4294967295
  have hb := h.lt
  have cC := count_any F p _ e 4294967295 w h
  have BK := hid (fun h0 => backC (m := 4294967295) hb hn h0)
  have NO := hid (fun h0 => (cn_no (xs := xs) (e := e) (m := 4294967295) h0).symm.trans hn)
  have F1 := hid (Fl.cn (xs := xs) (m := 4294967295) hfl)
  have hn4 : n ≤ 4194304 := by
    by_cases h0 : cnE xs e 4294967295 = 0
    · have := (BK.out h0).2.2.1; omega
    · have := NO.out h0; omega
  have hx1 := cnRest_len xs e 4294967295
  rw [hn] at cC
  generalize hE : cnE xs e 4294967295 = e1 at *
  generalize hR : cnRest xs e 4294967295 = xs1 at *
  have hfp : F p := by obtain ⟨a, n, c, hv⟩ := h; exact hv.fp
  have HH := hid (And.intro hF hfp)
  clear h hF hfp hE hR hn hb hfl
  go_enter Tryd.func29, Tryd.ntmps29
  go_wp2_with (go_at_call 27; refine cC.mono ?_; rintro ex w1 ⟨rfl, hd1⟩; have H1 := hid hd1; clear hd1 cC)
  go_loopw [7, 12] (fun u7 u12 wr => ∃ (k : Nat) (ka : Option Addr) (kc : Nat) (ys : List Int) (rest : List Nat), k ≤ n ∧ u7 = .slice ka k kc ∧ u12 = .int .i64 k ∧ ys.length = k ∧ (∀ z ∈ ys, T6 z) ∧ wr.ownsRow w.heap.size 2 1 (.slice ka k kc) k (ys.map iv) ∧ xs1 = wdB ys ++ rest ∧ Rd wr F p rest e1 ∧ Kept (fun k => k = p) w wr) (fun _ u12 _ => n - (intOf u12).toNat)
  case atStart => exact ⟨0, none, 0, [], xs1, by omega, rfl, rfl, rfl, fun z hz => (by cases hz), World.ownsRow_nil _ _ _ _, rfl, H1.out.1, H1.out.2⟩
  case round =>
    obtain ⟨k, ka, kc, ys, rest, hk, rfl, rfl, hyl, hyt, ow, ex1, rd, kr⟩ := hrel
    clear H1
    have hk8 : k ≤ 524288 := by have h1 := congrArg List.length ex1; rw [List.length_append, wdB_len] at h1; omega
    by_cases hlt : k < n
    · have hltz : (k : Int) < (n : Int) := by omega
      obtain rfl : e1 = 0 := by
        by_cases h0 : e1 = 0
        · exact h0
        · have h1 := NO.out h0; omega
      have hb := rd.lt
      have cI := ri64_any F p _ 0 wr rd
      by_cases h8 : tkE rest 0 8 = 0
      · have hq := (back8 hb h8).2
        rw [h8] at cI
        have ht := t6I rest 0
        generalize rdI rest 0 = x at *
        generalize tkRest rest 0 8 = rest2 at *
        have e2 : xs1 = wdB (ys ++ [x]) ++ rest2 := by rw [ex1, wdB_snoc, List.append_assoc, ← hq]
        have HG := hid (And.intro ow (And.intro kr (And.intro e2 (And.intro hyt ht))))
        clear ow kr hq rd ex1 e2 hb h8 hyt ht
        go_wp2_with (first
          | (go_at_call 28; refine cI.mono ?_; rintro ex w3 ⟨rfl, hd3⟩; have fc := (by obtain ⟨a', n', c', hv⟩ := hd3.1; exact hv.c1 : w3.cell? ⟨p, 1, none⟩ = some (.int .i64 0)); have H3 := hid hd3; clear hd3 cI)
          | (at_builtin; refine wpList_apK rfl _ _ 32 2 rfl w.heap.size (.int .i64 0) 1 8 Tryd.underlying32 Tryd.infoW rfl (by decide) (.slice ka k kc) k _ rfl ((H3.out.2.alloc _).owns HG.out.1 (fun g hg e => by have h1 := (owns_blk HG.out.1 hg).1; have h2 := HH.out.1 p HH.out.2; have e' : g = p := e; omega)) (by rw [World.size_alloc]; have h1 := HG.out.2.1.size; have h2 := H3.out.2.size; omega) ⟨w3.heap.size, 0, none⟩ 1 1 [.int .i64 x] rfl rfl (news_alloc w3 #[.int .i64 x] 2) (by intro u hu; rw [List.mem_singleton] at hu; rw [hu]; rfl) (by omega) (by omega) (by decide) ?_; intro g7 c7 w5 o5 k5))
        have KA : Kept No w3 (w3.alloc (.cells #[.int .i64 x] 2)) := (Kept.refl No w3).alloc _
        refine ⟨⟨k + 1, some ⟨g7, 0, none⟩, c7, ys ++ [x], rest2, by omega, rfl, by go_num, by rw [List.length_append, hyl]; rfl, ?_, ?_, HG.out.2.2.1, ?_, ?_⟩, ?_⟩
        · intro z hz
          rcases List.mem_append.1 hz with hz | hz
          · exact HG.out.2.2.2.1 z hz
          · rw [List.mem_singleton] at hz; rw [hz]; exact HG.out.2.2.2.2
        · rw [List.map_append]; exact o5.out
        · exact (H3.out.1.kept KA (fun _ _ e => e)).kept k5.out (fun b hb e => by have h1 := (owns_blk HG.out.1 e).1; have h2 := HH.out.1 b hb; omega)
        · exact ((HG.out.2.1.trans H3.out.2 (fun _ e => .inl e)).trans KA (fun _ e => e.elim)).trans k5.out (fun x e => .inr (owns_blk HG.out.1 e).1)
        · simp [intOf]; omega
      · have h20 : tkE rest 0 8 = 20 := by
          unfold tkE at h8 ⊢
          rw [if_neg (by simp)] at h8 ⊢
          split at h8
          · exact absurd rfl h8
          · rename_i h9; rw [if_neg h9]
        rw [h20] at cI
        have HG := hid kr
        clear ow kr rd ex1 hb h8 hyt h20
        go_wp2_with (go_at_call 28; refine cI.mono ?_; rintro ex w3 ⟨rfl, hd3⟩; have fc := (by obtain ⟨a', n', c', hv⟩ := hd3.1; exact hv.c1 : w3.cell? ⟨p, 1, none⟩ = some (.int .i64 20)); have H3 := hid hd3; clear hd3 cI)
        go_ret
        exact ⟨none, 0, 0, rfl, [], _, 20, rfl, World.ownsRow_nil _ _ _ _, H3.out.1, .inr (.inr rfl), fun h => absurd h (by decide), fun z hz => (by cases hz), by omega, HG.out.trans H3.out.2 (fun _ e => .inl e)⟩
    · have hltz : ¬ (k : Int) < (n : Int) := by omega
      obtain rfl : k = n := by omega
      have HG := hid (And.intro ow (And.intro rd (And.intro kr (And.intro ex1 hyt))))
      clear ow rd kr ex1 hyt
      go_wp2
      go_ret
      exact ⟨ka, k, kc, rfl, ys, rest, e1, hyl, HG.out.1, HG.out.2.1, F1.out, fun h0 => ⟨(BK.out h0).1, by rw [← HG.out.2.2.2.1]; exact (BK.out h0).2.2.2⟩, HG.out.2.2.2.2, hk8, HG.out.2.2.1⟩
end Go.Proofs.YtfdcmhbpnadcpabDoor
