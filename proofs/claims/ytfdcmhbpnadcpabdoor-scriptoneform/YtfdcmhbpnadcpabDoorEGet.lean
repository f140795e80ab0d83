/-
  codec.GetList of words, script.getInput, codec.GetList of inputs: what was told is read.
-/
import Derived.Test.YtfdcmhbpnadcpabDoorEEnc
namespace Go.Proofs.YtfdcmhbpnadcpabDoor
open Go.RowKit
set_option linter.unusedVariables false
set_option linter.unusedSimpArgs false
set_option maxRecDepth 100000

theorem be_succ (x k : Nat) : be x (k + 1) = be (x / 256) k ++ [x % 256] := by
  unfold be
  rw [List.range_succ, List.map_append]
  congr 1
  · apply List.map_congr_left
    intro j hj
    rw [List.mem_range] at hj
    have e : 8 * (k + 1 - 1 - j) = 8 + 8 * (k - 1 - j) := by omega
    rw [e, Nat.pow_add, ← Nat.div_div_eq_div_mul]
  · simp
theorem val_be (x : Nat) : ∀ k, x < 256 ^ k → val (be x k) = x := by
  intro k
  induction k generalizing x with
  | zero => intro h; have : x = 0 := by simpa using h
            subst this; rfl
  | succ k ih =>
    intro h
    rw [be_succ, val_snoc, ih (x / 256) (by rw [Nat.pow_succ] at h; omega)]
    omega
theorem p88 : (256 : Nat) ^ 8 = 18446744073709551616 := by decide
theorem toNat_lt64 (x : Int) : (x % 18446744073709551616).toNat < 256 ^ 8 := by rw [p88]; omega
theorem wthere64 (x : Int) (h : T6 x) : wrap64 (((x % 18446744073709551616).toNat : Nat) : Int) = x := by unfold T6 at h; unfold wrap64; omega
theorem tk_in {xs : List Nat} {m : Nat} (h : m ≤ xs.length) : tkXs xs 0 m = xs.take m ∧ tkRest xs 0 m = xs.drop m ∧ tkE xs 0 m = 0 := by
  have ok : tkOk xs 0 m = true := by
    unfold tkOk
    simp
    omega
  refine ⟨?_, ?_, ?_⟩
  · unfold tkXs; rw [if_pos ok]; rfl
  · unfold tkRest; rw [if_pos ok]; rfl
  · unfold tkE; rw [if_neg (fun h => h rfl), if_pos ok]
/-- a number of eight bytes -/
theorem rd64 {x : Int} (hx : T6 x) (r : List Nat) : rdI (be64 x ++ r) 0 = x ∧ tkRest (be64 x ++ r) 0 8 = r ∧ tkE (be64 x ++ r) 0 8 = 0 := by
  have hl := be64_len x
  have h := tk_in (xs := be64 x ++ r) (m := 8) (by rw [List.length_append, hl]; omega)
  refine ⟨?_, h.2.1.trans (List.drop_left' hl), h.2.2⟩
  unfold rdI rdN
  rw [show ((8 : Nat) : Int) = 8 from rfl] at *
  rw [h.1, List.take_left' hl]
  unfold be64
  rw [val_be _ 8 (toNat_lt64 x), wthere64 x hx]
/-- a count -/
theorem rdCn {n : Nat} {r : List Nat} {most : Int} (h1 : n < 4294967296) (h2 : (n : Int) ≤ most) (h3 : n ≤ r.length) : cnN (be n 4 ++ r) 0 most = (n : Int) ∧ cnRest (be n 4 ++ r) 0 most = r ∧ cnE (be n 4 ++ r) 0 most = 0 := by
  have hl := be_length n 4
  have h := tk_in (xs := be n 4 ++ r) (m := 4) (by rw [List.length_append, hl]; omega)
  rw [show ((4 : Nat) : Int) = 4 from rfl] at h
  have hv : rdN (be n 4 ++ r) 0 4 = (n : Int) := by
    unfold rdN
    rw [show ((4 : Nat) : Int) = 4 from rfl, h.1, List.take_left' hl, val_be n 4 (by omega)]
  have hlen : ((be n 4 ++ r).length : Int) = 4 + (r.length : Int) := by rw [List.length_append, hl]; omega
  have hok0 : tkOk (be n 4 ++ r) 0 4 = true := by unfold tkOk; simp; omega
  have hok : cnOk (be n 4 ++ r) 0 most = true := by
    unfold cnOk
    rw [hok0, hv, decide_eq_true h2, decide_eq_true (by rw [hlen]; omega)]
    rfl
  refine ⟨?_, ?_, ?_⟩
  · unfold cnN; rw [if_pos hok, hv]
  · unfold cnRest; rw [if_pos hok, List.drop_left' hl]
  · unfold cnE
    rw [if_neg (fun h => h rfl), hok0, if_neg (by simp), hv, if_neg (by omega), hlen, if_neg (by omega)]
theorem wdB_cons (x : Int) (d : List Int) : wdB (x :: d) = be64 x ++ wdB d := by simp [wdB]
set_option maxHeartbeats 4000000 in
theorem getWords_yes (F : Nat → Prop) (p : Nat) (ys : List Int) (r : List Nat) (w : World) (h : Rd w F p (be ys.length 4 ++ (wdB ys ++ r)) 0) (hF : ∀ k, F k → k < w.heap.size) (hs : ys.length ≤ 1000000) (ht : ∀ z ∈ ys, T6 z) :
    Calls Tryd.prog 29 #[.pointer (some ⟨p, 0, none⟩), .int .i64 4294967295, .func (.func 28) #[] #[]] w fun ex w' => ∃ a c, ex = .returned (.slice a ys.length c) ∧ w'.ownsRow w.heap.size 2 1 (.slice a ys.length c) ys.length (ys.map iv) ∧ Rd w' F p r 0 ∧ Kept (fun k => k = p) w w' := by
  obtain ⟨n, hn⟩ : ∃ n, ys.length = n := ⟨_, rfl⟩
  rw [hn] at h hs ⊢
  have cC := count_any F p _ 0 4294967295 w h
  have hq := rdCn (n := n) (r := wdB ys ++ r) (most := 4294967295) (by omega) (by omega) (by rw [List.length_append, wdB_len]; omega)
  rw [hq.1, hq.2.1, hq.2.2] at cC
  have hfp : F p := by obtain ⟨a, n, c, hv⟩ := h; exact hv.fp
  have HH := hid (And.intro hF (And.intro ht hfp))
  clear h hq hF ht hfp
  go_enter Tryd.func29, Tryd.ntmps29
  go_wp2_with (go_at_call 27; refine cC.mono ?_; rintro ex w1 ⟨rfl, hd1⟩; have H1 := hid hd1; clear hd1 cC)
  go_loopw [7, 12] (fun u7 u12 wr => ∃ (k : Nat) (ka : Option Addr) (kc : Nat), k ≤ n ∧ u7 = .slice ka k kc ∧ u12 = .int .i64 k ∧ wr.ownsRow w.heap.size 2 1 (.slice ka k kc) k ((ys.take k).map iv) ∧ Rd wr F p (wdB (ys.drop k) ++ r) 0 ∧ Kept (fun k => k = p) w wr) (fun _ u12 _ => n - (intOf u12).toNat)
  case atStart => exact ⟨0, none, 0, by omega, rfl, rfl, World.ownsRow_nil _ _ _ _, H1.out.1, H1.out.2⟩
  case round =>
    obtain ⟨k, ka, kc, hk, rfl, rfl, ow, rd, kr⟩ := hrel
    clear H1
    by_cases hlt : k < n
    · have hltz : (k : Int) < (n : Int) := by omega
      obtain ⟨x, hx⟩ : ∃ x, ys[k]? = some x := ⟨_, List.getElem?_eq_getElem (by omega)⟩
      have ed : ys.drop k = x :: ys.drop (k + 1) := drop_cons hx
      have et : ys.take (k + 1) = ys.take k ++ [x] := by rw [List.take_add_one, hx]; rfl
      rw [ed, wdB_cons, List.append_assoc] at rd
      have cI := ri64_any F p _ 0 wr rd
      have hq := rd64 (HH.out.2.1 x (List.mem_of_getElem? hx)) (wdB (ys.drop (k + 1)) ++ r)
      rw [hq.1, hq.2.1, hq.2.2] at cI
      have HG := hid (And.intro ow (And.intro kr et))
      clear ow kr et ed hx hq rd
      go_wp2_with (first
        | (go_at_call 28; refine cI.mono ?_; rintro ex w3 ⟨rfl, hd3⟩; have fc := (by obtain ⟨a', n', c', hv⟩ := hd3.1; exact hv.c1 : w3.cell? ⟨p, 1, none⟩ = some (.int .i64 0)); have H3 := hid hd3; clear hd3 cI)
        | (at_builtin; refine wpList_apK rfl _ _ 32 2 rfl w.heap.size (.int .i64 0) 1 8 Tryd.underlying32 Tryd.infoW rfl (by decide) (.slice ka k kc) k _ rfl ((H3.out.2.alloc _).owns HG.out.1 (fun g hg e => by have h1 := (owns_blk HG.out.1 hg).1; have h2 := HH.out.1 p HH.out.2.2; have e' : g = p := e; omega)) (by rw [World.size_alloc]; have h1 := HG.out.2.1.size; have h2 := H3.out.2.size; omega) ⟨w3.heap.size, 0, none⟩ 1 1 [.int .i64 x] rfl rfl (news_alloc w3 #[.int .i64 x] 2) (by intro u hu; rw [List.mem_singleton] at hu; rw [hu]; rfl) (by omega) (by omega) (by decide) ?_; intro g7 c7 w5 o5 k5))
      have KA : Kept No w3 (w3.alloc (.cells #[.int .i64 x] 2)) := (Kept.refl No w3).alloc _
      refine ⟨⟨k + 1, some ⟨g7, 0, none⟩, c7, by omega, rfl, by go_num, ?_, ?_, ?_⟩, ?_⟩
      · rw [HG.out.2.2, List.map_append]; exact o5.out
      · exact (H3.out.1.kept KA (fun _ _ e => e)).kept k5.out (fun b hb e => by have h1 := (owns_blk HG.out.1 e).1; have h2 := HH.out.1 b hb; omega)
      · exact ((HG.out.2.1.trans H3.out.2 (fun _ e => .inl e)).trans KA (fun _ e => e.elim)).trans k5.out (fun x e => .inr (owns_blk HG.out.1 e).1)
      · simp [intOf]; omega
    · have hltz : ¬ (k : Int) < (n : Int) := by omega
      obtain rfl : k = n := by omega
      rw [List.drop_eq_nil_of_le (by omega), List.take_of_length_le (by omega)] at *
      have HG := hid (And.intro ow (And.intro rd kr))
      clear ow rd kr
      go_wp2
      go_ret
      exact ⟨ka, kc, rfl, HG.out.1, HG.out.2.1, HG.out.2.2⟩
set_option maxHeartbeats 8000000 in
theorem getInput_yes (F : Nat → Prop) (p : Nat) (x : Inp) (r : List Nat) (w : World) (h : Rd w F p (inB x ++ r) 0) (hF : ∀ k, F k → k < w.heap.size) (hs : x.d.length ≤ 1000000) (ht : T6 x.tk ∧ T6 x.kd ∧ T6 x.tg ∧ ∀ z ∈ x.d, T6 z) :
    Calls Tryd.prog 14 #[.pointer (some ⟨p, 0, none⟩)] w fun ex w' => ∃ a c, ex = .returned (.agg #[.int .i64 x.tk, .int .i64 x.kd, .int .i64 x.tg, .slice a x.d.length c]) ∧ w'.ownsRow w.heap.size 2 1 (.slice a x.d.length c) x.d.length (x.d.map iv) ∧ Rd w' F p r 0 ∧ Kept (fun k => k = p) w w' := by
  obtain ⟨w2, e2⟩ : ∃ w2, w2 = (w.alloc (.cells #[.int .i64 0, .int .i64 0, .int .i64 0, .slice none 0 0] 34)).alloc (.cells #[.int .i64 0, .int .i64 0, .int .i64 0, .slice none 0 0] 34) := ⟨_, rfl⟩
  have K2 : Kept No w w2 := by rw [e2]; exact ((Kept.refl No w).alloc _).alloc _
  have BA : w2.heap[w.heap.size]? = some (.cells #[.int .i64 0, .int .i64 0, .int .i64 0, .slice none 0 0] 34) := by rw [e2]; exact ((Kept.refl No _).alloc _).at' (alloc_new w _) (fun e => e)
  have BR : w2.heap[w.heap.size + 1]? = some (.cells #[.int .i64 0, .int .i64 0, .int .i64 0, .slice none 0 0] 34) := by
    have := alloc_new (w.alloc (.cells #[.int .i64 0, .int .i64 0, .int .i64 0, .slice none 0 0] 34)) (.cells #[.int .i64 0, .int .i64 0, .int .i64 0, .slice none 0 0] 34)
    rw [World.size_alloc] at this
    rw [e2]; exact this
  have S2 : Hid (w2.heap.size = w.heap.size + 2) := by show w2.heap.size = w.heap.size + 2; rw [e2]; simp
  have hp : p < w.heap.size := hF p (by obtain ⟨a, n, c, hv⟩ := h; exact hv.fp)
  have r2 : Rd w2 F p (be64 x.tk ++ (be64 x.kd ++ (be64 x.tg ++ (be x.d.length 4 ++ (wdB x.d ++ r))))) 0 := by
    have := h.kept K2 (fun _ _ e => e)
    simpa [inB, hdB] using this
  have c1 := ri64_any F p _ 0 w2 r2
  have q1 := rd64 ht.1 (be64 x.kd ++ (be64 x.tg ++ (be x.d.length 4 ++ (wdB x.d ++ r))))
  rw [q1.1, q1.2.1, q1.2.2] at c1
  have HH := hid (And.intro K2 (And.intro BA (And.intro BR (And.intro hF (And.intro hp ht)))))
  clear K2 BA BR h r2 q1 hF hp ht
  go_enter Tryd.func14, Tryd.ntmps14
  go_upto_region 2 with fail
  rw [← e2]
  clear e2
  have B1 := hid HH.out.2.2.1
  have Q1 : Hid (Kept (fun k => k = p ∨ k = w.heap.size + 1) w2 w2) := Kept.refl _ _
  go_upto_region 3 with (go_at_call 28; refine c1.mono ?_; rintro ex v1 ⟨rfl, hd⟩; have bb := hd.2.at' B1.out (fun e => by have h1 := HH.out.2.2.2.2.1; have e' : w.heap.size + 1 = p := e; omega); have y := (cell_blk bb 0).trans rfl; have f := fz_blk bb 0; have H := hid (And.intro hd bb); clear hd bb c1)
  obtain ⟨u1, eu⟩ : ∃ u1, u1 = v1.setCell ⟨w.heap.size + 1, 0, none⟩ (.int .i64 x.tk) := ⟨_, rfl⟩
  rw [← eu]
  have KS : Kept (fun k => k = w.heap.size + 1) v1 u1 := by rw [eu]; exact (Kept.refl (fun k => k = w.heap.size + 1) v1).setCell (p := ⟨w.heap.size + 1, 0, none⟩) (.inl rfl) _
  have B2 : Hid (u1.heap[w.heap.size + 1]? = some (.cells #[.int .i64 x.tk, .int .i64 0, .int .i64 0, .slice none 0 0] 34)) := by show u1.heap[_]? = _; rw [eu]; exact set_blk H.out.2 0 _
  have R2 := hid (H.out.1.1.kept KS (fun b hb e => by have h1 := HH.out.2.2.2.1 b hb; have e' : b = w.heap.size + 1 := e; omega))
  have Q2 : Hid (Kept (fun k => k = p ∨ k = w.heap.size + 1) w2 u1) := (Q1.out.trans H.out.1.2 (fun k e => .inl (.inl e))).trans KS (fun k e => .inl (.inr e))
  clear eu KS y f H Q1 B1
  have c2 := ri64_any F p _ 0 u1 R2.out
  have q2 := rd64 HH.out.2.2.2.2.2.2.1 (be64 x.tg ++ (be x.d.length 4 ++ (wdB x.d ++ r)))
  rw [q2.1, q2.2.1, q2.2.2] at c2
  clear q2
  go_upto_region 4 with (go_at_call 28; refine c2.mono ?_; rintro ex v2 ⟨rfl, hd⟩; have bb := hd.2.at' B2.out (fun e => by have h1 := HH.out.2.2.2.2.1; have e' : w.heap.size + 1 = p := e; omega); have y := (cell_blk bb 1).trans rfl; have f := fz_blk bb 1; have H := hid (And.intro hd bb); clear hd bb c2)
  obtain ⟨u2, eu⟩ : ∃ u2, u2 = v2.setCell ⟨w.heap.size + 1, 1, none⟩ (.int .i64 x.kd) := ⟨_, rfl⟩
  rw [← eu]
  have KS : Kept (fun k => k = w.heap.size + 1) v2 u2 := by rw [eu]; exact (Kept.refl (fun k => k = w.heap.size + 1) v2).setCell (p := ⟨w.heap.size + 1, 1, none⟩) (.inl rfl) _
  have B3 : Hid (u2.heap[w.heap.size + 1]? = some (.cells #[.int .i64 x.tk, .int .i64 x.kd, .int .i64 0, .slice none 0 0] 34)) := by show u2.heap[_]? = _; rw [eu]; exact set_blk H.out.2 1 _
  have R3 := hid (H.out.1.1.kept KS (fun b hb e => by have h1 := HH.out.2.2.2.1 b hb; have e' : b = w.heap.size + 1 := e; omega))
  have Q3 : Hid (Kept (fun k => k = p ∨ k = w.heap.size + 1) w2 u2) := (Q2.out.trans H.out.1.2 (fun k e => .inl (.inl e))).trans KS (fun k e => .inl (.inr e))
  clear eu KS y f H Q2 B2
  have c3 := ri64_any F p _ 0 u2 R3.out
  have q3 := rd64 HH.out.2.2.2.2.2.2.2.1 (be x.d.length 4 ++ (wdB x.d ++ r))
  rw [q3.1, q3.2.1, q3.2.2] at c3
  clear q3
  go_upto_region 5 with (go_at_call 28; refine c3.mono ?_; rintro ex v3 ⟨rfl, hd⟩; have bb := hd.2.at' B3.out (fun e => by have h1 := HH.out.2.2.2.2.1; have e' : w.heap.size + 1 = p := e; omega); have y := (cell_blk bb 2).trans rfl; have f := fz_blk bb 2; have H := hid (And.intro hd bb); clear hd bb c3)
  obtain ⟨u3, eu⟩ : ∃ u3, u3 = v3.setCell ⟨w.heap.size + 1, 2, none⟩ (.int .i64 x.tg) := ⟨_, rfl⟩
  rw [← eu]
  have KS : Kept (fun k => k = w.heap.size + 1) v3 u3 := by rw [eu]; exact (Kept.refl (fun k => k = w.heap.size + 1) v3).setCell (p := ⟨w.heap.size + 1, 2, none⟩) (.inl rfl) _
  have B4 : Hid (u3.heap[w.heap.size + 1]? = some (.cells #[.int .i64 x.tk, .int .i64 x.kd, .int .i64 x.tg, .slice none 0 0] 34)) := by show u3.heap[_]? = _; rw [eu]; exact set_blk H.out.2 2 _
  have R4 := hid (H.out.1.1.kept KS (fun b hb e => by have h1 := HH.out.2.2.2.1 b hb; have e' : b = w.heap.size + 1 := e; omega))
  have Q4 : Hid (Kept (fun k => k = p ∨ k = w.heap.size + 1) w2 u3) := (Q3.out.trans H.out.1.2 (fun k e => .inl (.inl e))).trans KS (fun k e => .inl (.inr e))
  clear eu KS y f H Q3 B3
  have s2 := S2.out
  have c4 := getWords_yes F p x.d r u3 R4.out (fun k hk => by have h1 := HH.out.2.2.2.1 k hk; have h2 := Q4.out.size; omega) hs HH.out.2.2.2.2.2.2.2.2
  have hsz3 : w.heap.size + 2 ≤ u3.heap.size := by have := Q4.out.size; omega
  go_upto_region 6 with (go_at_call 29; refine c4.mono ?_; rintro ex v4 ⟨da, dc, rfl, o4, r4, k4⟩; have b4 := k4.at' B4.out (fun e => by have h1 := HH.out.2.2.2.2.1; have e' : w.heap.size + 1 = p := e; omega); have y4 := (cell_blk b4 3).trans rfl; have f4 := fz_blk b4 3; have H4 := hid (And.intro o4 (And.intro r4 (And.intro k4 b4))); clear o4 r4 k4 b4 c4)
  obtain ⟨u4, eu⟩ : ∃ u4, u4 = v4.setCell ⟨w.heap.size + 1, 3, none⟩ (.slice da x.d.length dc) := ⟨_, rfl⟩
  rw [← eu]
  have KS : Kept (fun k => k = w.heap.size + 1) v4 u4 := by rw [eu]; exact (Kept.refl (fun k => k = w.heap.size + 1) v4).setCell (p := ⟨w.heap.size + 1, 3, none⟩) (.inl rfl) _
  have B5 : u4.heap[w.heap.size + 1]? = some (.cells #[.int .i64 x.tk, .int .i64 x.kd, .int .i64 x.tg, .slice da x.d.length dc] 34) := by rw [eu]; exact set_blk H4.out.2.2.2 3 _
  have R5 := H4.out.2.1.kept KS (fun b hb e => by have h1 := HH.out.2.2.2.1 b hb; have e' : b = w.heap.size + 1 := e; omega)
  have Q5 : Kept (fun k => k = p ∨ k = w.heap.size + 1) w2 u4 := (Q4.out.trans H4.out.2.2.1 (fun k e => .inl (.inl e))).trans KS (fun k e => .inl (.inr e))
  have O5 := KS.owns H4.out.1 (fun g hg e => by have h1 := (owns_blk H4.out.1 hg).1; have e' : g = w.heap.size + 1 := e; omega)
  have BA5 : u4.heap[w.heap.size]? = some (.cells #[.int .i64 0, .int .i64 0, .int .i64 0, .slice none 0 0] 34) := Q5.at' HH.out.2.1 (fun e => by have h1 := HH.out.2.2.2.2.1; rcases e with e | e <;> omega)
  have LX : Hid ((Instr.loadAt 34 (.pointer (some ⟨w.heap.size + 1, 0, none⟩))).run Tryd.prog u4 = .ok (.agg (x.val da dc)) u4) := ldI (fun j v hv => by rw [Nat.zero_add, cell_blk B5, ← Array.getElem?_toList]; exact hv)
  have H5 := hid (And.intro R5 (And.intro Q5 (And.intro O5 BA5)))
  clear eu KS y4 f4 H4 Q4 B4 R5 Q5 O5 BA5 B5
  go_wp2_with (first
    | (refine l_take 16 rfl rfl (er_ldX 34 _ rfl (.pointer (some ⟨w.heap.size + 1, 0, none⟩)) (.agg (x.val da dc)) rfl LX.out) ?_)
    | (refine l_turn rfl rfl (er_stI _ _ rfl w.heap.size (x.val da dc) _ rfl rfl H5.out.2.2.2 rfl rfl (x.val_one da dc)) ?_))
  have hfin := setRow_heap u4 w.heap.size _ (x.val da dc) 34 (0, 0) H5.out.2.2.2
  refine bodyPost_ret (results_cell_row rfl _ _ w.heap.size 34 (x.val da dc) (0, 0) _ rfl hfin Tryd.underlying34 rfl (by kernel_rfl)) rfl ?_
  have KF : Kept (fun k => k = w.heap.size) u4 (u4.setRow w.heap.size (x.val da dc)) := (Kept.refl (fun k => k = w.heap.size) u4).setRow (.inl rfl) _
  refine ⟨da, dc, rfl, owns_base (KF.owns H5.out.2.2.1 (fun g hg e => by have h1 := (owns_blk H5.out.2.2.1 hg).1; have e' : g = w.heap.size := e; omega)) (by omega), H5.out.1.kept KF (fun b hb e => by have h1 := HH.out.2.2.2.1 b hb; have e' : b = w.heap.size := e; omega), ?_⟩
  exact ((HH.out.1.mono (fun _ e => e.elim)).trans H5.out.2.1 (fun k e => by rcases e with e | e; exact .inl e; exact .inr (by omega))).trans KF (fun k e => .inr (by have e' : k = w.heap.size := e; omega))
end Go.Proofs.YtfdcmhbpnadcpabDoor
