/-
  'ImageSpoilt'.
-/
import Derived.Test.YtolmhoenjcinjaaGreatICopy
import Derived.Deep.DeepAppendWide
namespace Go.Proofs.YtolmhoenjcinjaaGreat
open Go.RowKit
set_option linter.unusedVariables false
set_option maxRecDepth 100000

theorem Bs.put {w : World} {g cap i y : Nat} {xs : List Nat} (h : ∀ i u, (xs.map bv)[i]? = some u → w.cell? ⟨g, i, none⟩ = some u) (hi : i < xs.length) (hcap : xs.length ≤ cap) (hmax : cap ≤ 9223372036854775807) (hlt : ∀ x ∈ xs, x < 256) (hy : y < 256) :
    Bs (w.setCell ⟨g, i, none⟩ (.int .u8 (y : Nat))) (fun k => k = g) (some ⟨g, 0, none⟩) xs.length cap (xs.set i y) := by
  refine ⟨by rw [List.length_set], hcap, hmax, fun h => (by cases h), fun j hj => ⟨g, 0, rfl, rfl, ?_⟩, fun x hx => ?_⟩
  · show (w.setCell ⟨g, i, none⟩ (.int .u8 (y : Nat))).cell? _ = _
    rw [Nat.zero_add]
    by_cases hji : j = i
    · subst hji
      rw [World.cell?_setCell_same _ _ _ (h j _ (bv_get hj))]
      simp [List.getD, hj, bv]
    · rw [World.cell?_setCell_other _ _ _ _ (fun h => by injection h; omega), h j _ (bv_get hj)]
      simp [List.getD, Ne.symm hji]
  · rcases List.mem_or_eq_of_mem_set hx with h1 | h1
    · exact hlt x h1
    · rw [h1]; exact hy

theorem xor_pow (x R : Nat) (hx : x < 256) (hR : R < 8) : bits .xor .u8 (x : Int) (2 ^ R % 256) = ((x ^^^ 2 ^ R : Nat) : Int) ∧ x ^^^ 2 ^ R < 256 ∧ x ^^^ 2 ^ R ≠ x := by
  have hp : (2 : Nat) ^ R < 256 := Nat.lt_of_lt_of_le (Nat.pow_lt_pow_right (by decide) hR) (by decide)
  have e : ((2 : Int) ^ R % 256) = ((2 ^ R : Nat) : Int) := by
    have h1 : ((2 ^ R : Nat) : Int) = (2 : Int) ^ R := by simp
    rw [← h1]; exact Int.emod_eq_of_lt (Int.natCast_nonneg _) (Int.ofNat_lt.2 hp)
  refine ⟨by rw [e]; exact u8_xor_nat x (2 ^ R) hx hp, Nat.xor_lt_two_pow (n := 8) hx hp, fun h => ?_⟩
  have h0 : x ^^^ 2 ^ R = x ^^^ 0 := by rw [h, Nat.xor_zero]
  have := xor_lc h0
  have h2 := Nat.two_pow_pos R
  omega

theorem uns_false {c : List Nat} (h : unsE 1 c = 20) : unsOk 1 c = false := by
  cases hu : unsOk 1 c with
  | false => rfl
  | true =>
    exfalso
    unfold unsE at h
    by_cases hl : 4194316 < c.length
    · rw [if_pos hl] at h; exact absurd h (by decide)
    · rw [if_neg hl, hu] at h; exact absurd h (by decide)
theorem img_none {c : List Nat} (h : unsE 1 c = 20) : imgOf c = none := by
  unfold imgOf
  rw [if_neg (fun q => by rw [uns_false h] at q; exact absurd q.2 (by decide))]
theorem img_long {c : List Nat} (h : 1048576 < c.length) : imgOf c = none ∧ rdErr c = 1 := by
  refine ⟨?_, by unfold rdErr; rw [if_pos h]⟩
  unfold imgOf
  rw [if_neg (fun q => by omega)]
theorem err20 {c : List Nat} (h : c.length ≤ 1048576) : rdErr c = 20 := by unfold rdErr; rw [if_neg (by omega)]
/-- Decode of what is no image's -/
theorem decode_no (G : Nat → Prop) (a : Option Addr) (n c : Nat) (bs : List Nat) (w : World) (h : Bs w G a n c bs) (hno : imgOf bs = none) : Calls Tryz.prog 11 #[.slice a n c] w fun ex w' => ex = .returned (.tuple #[.agg #[.slice none 0 0, .slice none 0 0, .slice none 0 0], .int .i64 (rdErr bs)]) ∧ Kept No w w' := by
  refine (decode_img G a n c bs w h).mono ?_
  rintro ex w' ⟨hk, ⟨_, rfl⟩ | ⟨x, a0, n0, c0, a1, n1, c1, a2, n2, c2, h1, _⟩⟩
  · exact ⟨rfl, hk⟩
  · rw [hno] at h1; cases h1
theorem bs_app {w : World} {B n m c : Nat} {a : Option Addr} {xs ys : List Nat} (h : w.ownsRow B 5 1 (.slice a (n + m) c) (n + m) (xs.map bv ++ ys.map bv)) (hx : xs.length = n) (hy : ys.length = m) (hb : ∀ x ∈ xs, x < 256) (hb2 : ∀ x ∈ ys, x < 256) : Bs w (fun k => (Value.slice a (n + m) c).ownBlock = some k) a (n + m) c (xs ++ ys) := by
  rw [← List.map_append] at h
  exact Bs.row h (by rw [List.length_append, hx, hy]) (fun x hm => by rcases List.mem_append.1 hm with h | h; exact hb x h; exact hb2 x h)

/-- 'append(x, m...)' of a new list of bytes -/
theorem wpList_app {w : World} {ops : Array Oper} {rest : List Oper} {o : Oper} {a : Act} {Q : Exit → Act → World → Prop} (hgd : o.guard = none) (s x : Operand)
    (ho : o.op = .call { callee := .builtin .append, args := #[s, x], argTypes := #[27, 27] }) (B : Nat) (v : Value) (hs : a.eval s = v) (n : Nat) (us : List Nat) (hv : w.ownsRow B 5 1 v n (us.map bv)) (hB : B ≤ w.heap.size) (xa : Option Addr) (m c : Nat) (hx : a.eval x = .slice xa m c)
    (F : Nat → Prop) (xs : List Nat) (hz : Bs w F xa m c xs) (hm : 0 < m) (hn : n + m ≤ 140737500000000)
    (h : ∀ ya yc w', Hid (w'.ownsRow B 5 1 (.slice ya (n + m) yc) (n + m) (us.map bv ++ xs.map bv)) → Hid (Kept (fun k => v.ownBlock = some k) w w') → wpList Tryz.prog ops Q rest (a.put o.dst (.slice ya (n + m) yc)) w') : wpList Tryz.prog ops Q (o :: rest) a w := by
  obtain ⟨i0, hi, hz0, hz1, hz2⟩ := info_parts Tryz.info5
  cases xa with
  | none => have hc0 := hz.nil rfl; have := hz.cap; omega
  | some ad =>
    refine wpList_append_own_wide _ hgd s x 27 ho B 5 i0 (.int .u8 0) 1 1 Tryz.underlying27 hi hz0 hz1 hz2 rfl (by decide) _ n _ hs hv ad m c (xs.map bv) hx (by rw [List.length_map, hz.len]; omega) hz.news (bv_one _) (by unfold maxLen; omega) (by omega) hB ?_
    intro v1 w1 own1 grow1 _
    obtain ⟨ya, yn, yc, rfl⟩ := own_slice own1
    have hyn : yn = n + m := by
      rcases owns_cells own1 with ⟨h1, h2⟩ | ⟨g, cap, h1, _⟩
      · injection h1 with _ h3 _; omega
      · injection h1
    subst hyn
    exact h ya yc w1 own1 ((Kept.refl (fun k => v.ownBlock = some k) w).grown grow1 (fun k e => .inl e))
theorem own_at {w : World} {B e : Nat} {v : Value} {n : Nat} {xs : List Value} (h : w.ownsRow B e 1 v n xs) : ∀ k, v.ownBlock = some k → B ≤ k := by
  intro k hk
  rcases owns_cells h with ⟨rfl, _⟩ | ⟨g, cap, rfl, hg, _⟩
  · cases hk
  · injection hk with hk; subst hk; exact hg

set_option maxHeartbeats 32000000 in
theorem spoilt_walk (G : Nat → Prop) (a0 : Option Addr) (n0 c0 : Nat) (a1 : Option Addr) (n1 c1 : Nat) (a2 : Option Addr) (n2 c2 : Nat) (x : Im) (bit cut : Int) (ma : Option Addr) (mn mc : Nat) (ms : List Nat) (W : World) (hI : Img W (Hn W) a0 n0 c0 a1 n1 c1 a2 n2 c2 x) (hS : szIm x) (hM : Bs W G ma mn mc ms) (hmn : mn ≤ 140737488351232) (hbit : I6 bit) (hcut : I6 cut) :
    Calls Tryz.prog 3 #[.agg #[.slice a0 n0 c0, .slice a1 n1 c1, .slice a2 n2 c2], .int .i64 bit, .int .i64 cut, .slice ma mn mc] W fun ex w' => ex = .returned (.bool true) ∧ Below W.heap.size W w' := by
  have hok := hI.ok
  have hk0 : Kept No W (W.alloc (.cells #[.slice a0 n0 c0, .slice a1 n1 c1, .slice a2 n2 c2] 26)) := (Kept.refl No W).alloc _
  have HB0 : Hid (Bk (W.alloc (.cells #[.slice a0 n0 c0, .slice a1 n1 c1, .slice a2 n2 c2] 26)) W.heap.size [.slice a0 n0 c0, .slice a1 n1 c1, .slice a2 n2 c2] 26) := heap_alloc_new W _
  have hI0 : Img (W.alloc (.cells #[.slice a0 n0 c0, .slice a1 n1 c1, .slice a2 n2 c2] 26)) (Hn (W.alloc (.cells #[.slice a0 n0 c0, .slice a1 n1 c1, .slice a2 n2 c2] 26))) a0 n0 c0 a1 n1 c1 a2 n2 c2 x := (hI.kept hk0 (fun _ _ h => h)).mono (fun k hk => Nat.lt_of_lt_of_le hk hk0.size)
  have cC := copy_any a0 n0 c0 a1 n1 c1 a2 n2 c2 x _ hI0 hS
  have HK0 : Hid (Kept No W (W.alloc (.cells #[.slice a0 n0 c0, .slice a1 n1 c1, .slice a2 n2 c2] 26))) := hk0
  have HOK : Hid (okIm x) := hok
  have HM : Hid (Bs W G ma mn mc ms) := hM
  have hml := hM.len
  have hmc := hM.cap
  have hmm := hM.max
  have HBI : Hid (I6 bit ∧ I6 cut) := ⟨hbit, hcut⟩
  clear hI hS hM hk0 hI0 hok hbit hcut
  go_enter Tryz.func3, Tryz.ntmps3
  go_upto_region 1 with fail
  generalize W.alloc (.cells #[.slice a0 n0 c0, .slice a1 n1 c1, .slice a2 n2 c2] 26) = w0 at *
  have y0 := HB0.out.cell (j := 0) rfl
  have y1 := HB0.out.cell (j := 1) rfl
  have y2 := HB0.out.cell (j := 2) rfl
  go_upto_region 2 with (first
    | (go_at_call 9; refine cC.mono ?_; rintro ex w1 ⟨b0, m0, d0, b1, m1, d1, b2, m2, d2, rfl, himg, hk1⟩; have ce := encode_img _ b0 m0 d0 b1 m1 d1 b2 m2 d2 x w1 himg (fun k hk => hk.2); have HK1 : Hid (Kept No w0 w1) := hk1; clear hk1 himg)
    | (go_at_call 8; refine ce.mono ?_; rintro ex w2 ⟨ca, cn, cc, rfl, hown, hk2⟩))
  have HKW : Hid (Kept No W w2) := (HK0.out.trans HK1.out (fun _ h => h.elim)).trans hk2 (fun _ h => h.elim)
  have FIN : ∀ w5 : World, Kept No w2 w5 → Below W.heap.size W w5 := fun w5 h => (HKW.out.trans h (fun _ h => h.elim)).below0
  have HFN : Hid (∀ w5 : World, Kept No w2 w5 → Below W.heap.size W w5) := FIN
  have cK := known_any w2
  clear cC ce y0 y1 y2 hk2 FIN HK0 HK1 HB0
  cases hok : encOk x with
  | false =>
    have e2 : encE x = 1 := by unfold encE; rw [hok]; rfl
    rw [e2]
    clear e2 hok hown
    go_wp2_with (go_at_call 10; refine cK.mono ?_; rintro ex w4 ⟨rfl, hk4⟩)
    go_ret
    exact ⟨rfl, HFN.out w4 hk4⟩
  | true =>
    have hle : (encIm x).length + 12 ≤ 1048576 := by unfold encOk at hok; simpa using hok
    have e1 : encX x = sealed 1 (encIm x) := by unfold encX; rw [hok]; rfl
    have e2 : encE x = 0 := by unfold encE; rw [hok]; rfl
    rw [e1] at hown
    rw [e2]
    have hsl := sealed_len1 x
    have hslt : ∀ b ∈ sealed 1 (encIm x), b < 256 := sealed_lt (by decide) (dcIm.lt x HOK.out)
    by_cases hb0 : bit < 0
    · clear e1 e2 hok hown hle hsl hslt
      go_wp2_with (go_at_call 10; refine cK.mono ?_; rintro ex w4 ⟨rfl, hk4⟩)
      go_ret
      exact ⟨rfl, HFN.out w4 hk4⟩
    · by_cases hc0 : cut < 0
      · clear e1 e2 hok hown hle hsl hslt
        go_wp2_with (go_at_call 10; refine cK.mono ?_; rintro ex w4 ⟨rfl, hk4⟩)
        go_ret
        exact ⟨rfl, HFN.out w4 hk4⟩
      · obtain ⟨bi, rfl⟩ : ∃ bi : Nat, bit = bi := ⟨bit.toNat, by omega⟩
        obtain ⟨cu, rfl⟩ : ∃ cu : Nat, cut = cu := ⟨cut.toNat, by omega⟩
        have hbb : bi ≤ 9223372036854775807 := by have := HBI.out.1.2; omega
        have hcb : cu ≤ 9223372036854775807 := by have := HBI.out.2.2; omega
        obtain ⟨S, hS⟩ : ∃ S, S = sealed 1 (encIm x) := ⟨_, rfl⟩
        obtain ⟨n, hn⟩ : ∃ n, n = (encIm x).length + 12 := ⟨_, rfl⟩
        rw [← hn] at hle hsl
        rw [← hS] at hown hsl hslt
        rw [hsl] at hown
        have hn12 : 12 ≤ n := by omega
        obtain ⟨g, cap, hv, hg1, hg2, hcap, hmax, hcell, hfz⟩ : ∃ g cap, Value.slice ca cn cc = .slice (some ⟨g, 0, none⟩) n cap ∧ w1.heap.size ≤ g ∧ g < w2.heap.size ∧ n ≤ cap ∧ cap ≤ maxLen ∧ (∀ i u, (S.map bv)[i]? = some u → w2.cell? ⟨g, i, none⟩ = some u) ∧ ∀ i, w2.frozen? ⟨g, i, none⟩ = false := by
          rcases owns_cells hown with ⟨_, h0⟩ | h
          · omega
          · exact h
        injection hv with q1 q2 q3
        subst q1 q2 q3
        have hmax' : cc ≤ 9223372036854775807 := hmax
        have HSL : Hid (S.length = cn ∧ (∀ b ∈ S, b < 256) ∧ S = sealed 1 (encIm x) ∧ cn = (encIm x).length + 12) := ⟨hsl, hslt, hS, hn⟩
        have hBS : Bs w2 (fun k => k = g) (some ⟨g, 0, none⟩) cn cc S := ⟨hsl, hcap, hmax', fun h => (by cases h), fun i hi => ⟨g, 0, rfl, rfl, by rw [Nat.zero_add]; exact hcell i _ (bv_get (by rw [hsl]; exact hi))⟩, hslt⟩
        have HBS : Hid (Bs w2 (fun k => k = g) (some ⟨g, 0, none⟩) cn cc S) := hBS
        clear e1 e2 hok hown hS hn hsl hslt hcell hfz hmax hg1 hBS HBI
        -- the copy
        have HB6 : Hid (Bs (w2.alloc (.cells #[] 5)) (fun k => k = g) (some ⟨g, 0, none⟩) cn cc S) := HBS.out.kept ((Kept.refl No w2).alloc _) (fun _ _ h => h)
        go_upto_region 7 with (at_builtin; refine wpList_copy rfl _ _ rfl w2.heap.size _ rfl (made0 w2) (by simp) _ cn cc rfl _ S HB6.out (by omega) ?_; intro ya yc w3 own3 k3)
        have HK3 : Hid (Kept No w2 w3) := ((Kept.refl No w2).alloc _).trans k3.out (fun k hk => .inr (own0 hk))
        obtain ⟨g3, cap3, hv3, hg31, hg32, hcap3, hmax3, hcell3, hfz3⟩ : ∃ g cap, Value.slice ya cn yc = .slice (some ⟨g, 0, none⟩) cn cap ∧ w2.heap.size ≤ g ∧ g < w3.heap.size ∧ cn ≤ cap ∧ cap ≤ maxLen ∧ (∀ i u, (S.map bv)[i]? = some u → w3.cell? ⟨g, i, none⟩ = some u) ∧ ∀ i, w3.frozen? ⟨g, i, none⟩ = false := by
          rcases owns_cells own3.out with ⟨_, h0⟩ | h
          · omega
          · exact h
        injection hv3 with q1 q2 q3
        subst q1 q3
        have hmax3' : yc ≤ 9223372036854775807 := hmax3
        have e8 : wrap64 (8 * (cn : Int)) = 8 * (cn : Int) := by unfold wrap64; omega
        obtain ⟨A, hA⟩ : ∃ A, A = bi % (8 * cn) := ⟨_, rfl⟩
        have hA8 : A < 8 * cn := by rw [hA]; exact Nat.mod_lt _ (by omega)
        have eA : (bi : Int).tmod (8 * (cn : Int)) = (A : Int) := by rw [Int.tmod_eq_emod_of_nonneg (by omega), hA, Int.natCast_emod, Int.natCast_mul]; rfl
        have hne8 : ¬ (8 * (cn : Int) = 0) := by omega
        have HA : Hid (A < 8 * cn) := hA8
        obtain ⟨I, hI⟩ : ∃ I, I = A / 8 := ⟨_, rfl⟩
        obtain ⟨R, hR⟩ : ∃ R, R = A % 8 := ⟨_, rfl⟩
        have e1 : (A : Int).tdiv 8 = (I : Int) := by rw [Int.tdiv_eq_ediv_of_nonneg (by omega)]; omega
        have e2 : (A : Int).tmod 8 = (R : Int) := by rw [Int.tmod_eq_emod_of_nonneg (by omega)]; omega
        have hIn : I < cn := by omega
        have hR8 : R < 8 := by omega
        have hIS : I < S.length := by rw [HSL.out.1]; exact hIn
        obtain ⟨xb, hxb⟩ : ∃ xb, xb = S.getD I 0 := ⟨_, rfl⟩
        have hx256 : xb < 256 := by
          have : S.getD I 0 = S[I] := by simp [List.getD, hIS]
          rw [hxb, this]; exact HSL.out.2.1 _ (List.getElem_mem _)
        have d3 : w3.cell? ⟨g3, I, none⟩ = some (.int .u8 (xb : Nat)) := by rw [hxb]; exact hcell3 _ _ (bv_get hIS)
        have f3 := hfz3 I
        obtain ⟨x1, x2, x3⟩ := xor_pow xb R hx256 hR8
        have hp2 : (2 : Nat) ^ R < 256 := Nat.lt_of_lt_of_le (Nat.pow_lt_pow_right (by decide) hR8) (by decide)
        obtain ⟨y, hy⟩ : ∃ y, y = xb ^^^ 2 ^ R := ⟨_, rfl⟩
        have x4 : bits .xor .u8 (xb : Int) ((2 ^ R : Nat) : Int) = (y : Int) := by rw [hy]; exact u8_xor_nat xb (2 ^ R) hx256 hp2
        rw [← hy] at x2 x3
        have hB4 := Bs.put (i := I) (y := y) hcell3 hIS (by rw [HSL.out.1]; exact hcap3) hmax3' HSL.out.2.1 x2
        rw [HSL.out.1] at hB4
        have hel : (encIm x).length ≤ 4194304 := by have := HSL.out.2.2.2; omega
        have ht := turn_no (kind := 1) hel (by decide) (dcIm.lt x HOK.out) I y (by rw [← HSL.out.2.2.2]; exact hIn) x2 (by rw [← HSL.out.2.2.1, ← hxb]; exact x3)
        rw [← HSL.out.2.2.1] at ht
        have cD := decode_no _ _ _ _ _ _ hB4 (img_none ht.1)
        rw [err20 (by rw [List.length_set, HSL.out.1]; omega)] at cD
        have HK4 : Hid (Kept No w2 (w3.setCell ⟨g3, I, none⟩ (.int .u8 (y : Nat)))) := HK3.out.setCell (.inr hg31) _
        clear hA hcell3 hfz3 hxb hIS hx256 x1 x2 x3 hp2 hy hB4 ht hI hR hg31 hg32 k3 own3
        go_wp2
        go_loopw [13, 14] (fun m i wr => ∃ q : Nat, q ≤ R ∧ i = .int .i64 q ∧ m = .int .u8 ((2 ^ q : Nat) : Int) ∧ wr = w3) (fun _ i _ => R - (intOf i).toNat)
        case atStart => exact ⟨0, by omega, rfl, rfl, rfl⟩
        case round =>
          obtain ⟨q, hq, rfl, rfl, hwr⟩ := hrel
          obtain rfl := hwr.symm
          by_cases hlt : q < R
          · have hp : (2 : Nat) ^ q ≤ 64 := Nat.pow_le_pow_right (n := 2) (by decide) (show q ≤ 6 by omega)
            have HP : Hid (((2 ^ q : Nat) : Int) * 2 = ((2 ^ (q + 1) : Nat) : Int)) := by
              show _ = _
              rw [Nat.pow_succ]; omega
            obtain ⟨M, hM⟩ : ∃ M : Nat, M = 2 ^ q := ⟨_, rfl⟩
            rw [← hM] at HP hp ⊢
            clear hM
            go_wp2
            go_roundw
            case rel => exact ⟨q + 1, by omega, by go_num, by rw [HP.out], trivial⟩
            case measure => simp [intOf]; omega
          · have hqR : q = R := by omega
            subst hqR
            obtain ⟨K, hK⟩ : ∃ K : Nat, K = 2 ^ q := ⟨_, rfl⟩
            rw [← hK] at x4 ⊢
            clear hK
            obtain ⟨C, hC⟩ : ∃ C, C = cu % cn := ⟨_, rfl⟩
            have hCn : C < cn := by rw [hC]; exact Nat.mod_lt _ (by omega)
            have eC : (cu : Int).tmod (cn : Int) = (C : Int) := by rw [Int.tmod_eq_emod_of_nonneg (by omega), hC, Int.natCast_emod]
            have hcn0 : ¬ ((cn : Int) = 0) := by omega
            clear hC
            go_upto_region 14 with fail
            generalize w3.setCell ⟨g3, I, none⟩ (.int .u8 (y : Nat)) = w4 at *
            clear d3 f3 x4
            go_upto_region 15 with (go_at_call 11; refine cD.mono ?_; rintro ex w5 ⟨rfl, hk5⟩)
            have HK6 : Hid (Kept No w2 (w5.alloc (.cells #[.slice none 0 0, .slice none 0 0, .slice none 0 0] 26))) := (HK4.out.trans hk5 (fun _ h => h.elim)).alloc _
            clear hk5 cD HK4 HK3
            generalize w5.alloc (.cells #[.slice none 0 0, .slice none 0 0, .slice none 0 0] 26) = w6 at *
            have hB6 := (HBS.out.kept HK6.out (fun _ _ h => h)).take C (by omega)
            have hcu := cut_no (kind := 1) C hel (show C < (encIm x).length + 12 by rw [← HSL.out.2.2.2]; exact hCn)
            rw [← HSL.out.2.2.1] at hcu
            have cD2 := decode_no _ _ _ _ _ _ hB6 (img_none hcu)
            rw [err20 (by rw [List.length_take, HSL.out.1]; omega)] at cD2
            clear hB6 hcu
            go_upto_region 16 with (go_at_call 11; refine cD2.mono ?_; rintro ex w7 ⟨rfl, hk7⟩)
            have HK8 : Hid (Kept No w2 (w7.alloc (.cells #[.slice none 0 0, .slice none 0 0, .slice none 0 0] 26))) := (HK6.out.trans hk7 (fun _ h => h.elim)).alloc _
            clear hk7 cD2 HK6
            generalize w7.alloc (.cells #[.slice none 0 0, .slice none 0 0, .slice none 0 0] 26) = w8 at *
            have cK8 := known_any w8
            clear cK
            go_upto_region 18 with (go_at_call 10; refine cK8.mono ?_; rintro ex w9 ⟨rfl, hk9⟩)
            have HK9 : Hid (Kept No w2 w9) := HK8.out.trans hk9 (fun _ h => h.elim)
            clear hk9 cK8 HK8
            by_cases hm0 : mn = 0
            · subst hm0
              go_wp2
              go_ret
              exact ⟨rfl, HFN.out w9 HK9.out⟩
            · have hmpos : 0 < mn := by omega
              have hmne : ¬ ((mn : Int) = 0) := by omega
              have HB9 : Hid (Bs (w9.alloc (.cells #[] 5)) (fun k => k = g) (some ⟨g, 0, none⟩) cn cc S) := HBS.out.kept (HK9.out.alloc _) (fun _ _ h => h)
              have hmore : imgOf (S ++ ms) = none ∧ (rdErr (S ++ ms) = 20 ∨ (rdErr (S ++ ms) = 1 ∧ (1048576 : Int) < (cn : Int) + (mn : Int))) := by
                by_cases hlong : 1048576 < cn + mn
                · have hq := img_long (c := S ++ ms) (by rw [List.length_append, HSL.out.1, hml]; exact hlong)
                  exact ⟨hq.1, .inr ⟨hq.2, by omega⟩⟩
                · have hno := more_no (kind := 1) (more := ms) hel (by omega) (by have := HSL.out.2.2.2; omega)
                  rw [← HSL.out.2.2.1] at hno
                  exact ⟨img_none hno, .inl (err20 (by rw [List.length_append, HSL.out.1, hml]; omega))⟩
              have HMO : Hid (imgOf (S ++ ms) = none ∧ (rdErr (S ++ ms) = 20 ∨ (rdErr (S ++ ms) = 1 ∧ (1048576 : Int) < (cn : Int) + (mn : Int)))) := hmore
              have HML : Hid (ms.length = mn) := hml
              obtain ⟨er, her⟩ : ∃ er, er = rdErr (S ++ ms) := ⟨_, rfl⟩
              have HER : Hid (er = rdErr (S ++ ms)) := her
              clear hmore her hml
              have HM9 : Hid (Bs w9 G ma mn mc ms) := (HM.out.kept HKW.out (fun _ _ h => h)).kept HK9.out (fun _ _ h => h)
              have hcn : cn ≤ 1048576 := hle
              go_upto_region 20 with fail
              go_upto_region 21 with (first
                | (at_builtin; refine wpList_copy rfl _ _ rfl w9.heap.size _ rfl (made0 w9) (by simp) _ cn cc rfl _ S HB9.out (by omega) ?_; intro ya9 yc9 w10 own10 k10; have HK10 : Hid (Kept No w9 w10) := ((Kept.refl No w9).alloc _).trans k10.out (fun k hk => .inr (own0 hk)); have HM10 : Hid (Bs w10 G ma mn mc ms) := HM9.out.kept HK10.out (fun _ _ h => h); clear k10)
                | (at_builtin; refine wpList_app rfl _ _ rfl w9.heap.size _ rfl cn S own10.out HK10.out.size _ mn mc rfl _ ms HM10.out hmpos (by omega) ?_; intro ya11 yc11 w11 own11 k11; have HK11 : Hid (Kept No w9 w11) := HK10.out.trans k11.out (fun k hk => .inr (own_at own10.out k hk)); have cD11 := decode_no _ _ _ _ _ _ (bs_app own11.out HSL.out.1 HML.out HSL.out.2.1 HM10.out.lt) HMO.out.1; rw [← HER.out] at cD11; clear k11 own10 own11)
                | (go_at_call 11; refine cD11.mono ?_; rintro ex w12 ⟨rfl, hk12⟩))
              have HF12 : Hid (∀ w13 : World, Kept No w12 w13 → Below W.heap.size W w13) := fun w13 h => HFN.out w13 (((HK9.out.trans HK11.out (fun _ h => h.elim)).trans hk12 (fun _ h => h.elim)).trans h (fun _ h => h.elim))
              have hor := HMO.out.2
              rw [← HER.out] at hor
              clear cD11 HK10 HM10 HK11 hk12 HM9 HB9
              rcases hor with h20 | ⟨h1, hlong⟩
              · subst h20
                go_wp2
                go_ret
                exact ⟨rfl, HF12.out _ ((Kept.refl No w12).alloc _)⟩
              · subst h1
                have e9 : wrap64 ((cn : Int) + (mn : Int)) = (cn : Int) + (mn : Int) := by unfold wrap64; omega
                go_wp2
                go_ret
                exact ⟨rfl, HF12.out _ ((Kept.refl No w12).alloc _)⟩

end Go.Proofs.YtolmhoenjcinjaaGreat
