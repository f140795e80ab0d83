/-
  script.Decode of any bytes; the law of ScriptOneForm.
-/
import Derived.Test.YtfdcmhbpnadcpabDoorEAnyL
import Derived.Test.YtfdcmhbpnadcpabDoorETh
namespace Go.Proofs.YtfdcmhbpnadcpabDoor
open Go.RowKit
set_option linter.unusedVariables false
set_option linter.unusedSimpArgs false
set_option maxRecDepth 100000

/-- what Decode tells of bytes -/
def Dz (w : World) (bs : List Nat) (a : Option Addr) (m c : Nat) (e : Int) (w' : World) : Prop :=
  ((e = 1 ∨ e = 20) ∧ a = none ∧ m = 0 ∧ c = 0 ∨ e = 0 ∧ ∃ xs, bs = sealed 3 (encB xs) ∧ encOk xs = true ∧ Il w' An a m c xs) ∧ Kept No w w'
theorem uns_cases (bs : List Nat) : (unsE 3 bs = 1 ∨ unsE 3 bs = 20) ∨ (unsE 3 bs = 0 ∧ bs.length ≤ 4194316 ∧ ∃ ys, bs = sealed 3 ys ∧ unsX 3 bs = ys) := by
  by_cases h1 : 4194316 < bs.length
  · left; left; unfold unsE; rw [if_pos h1]
  · cases h2 : unsOk 3 bs with
    | false => left; right; unfold unsE; rw [if_neg h1, h2]; rfl
    | true =>
      right
      obtain ⟨h3, ys, h4⟩ := (unsOk_iff 3 bs).1 h2
      have hl : ys.length ≤ 4194304 := by rw [h4, sealed_length] at h3; omega
      have h5 := unsE_yes 3 ys hl
      rw [← h4] at h5
      exact ⟨h5.1, h3, ys, h4, h5.2⟩
theorem unsX_lt {bs : List Nat} (h : ∀ x ∈ bs, x < 256) : ∀ x ∈ unsX 3 bs, x < 256 := by
  unfold unsX
  split
  · unfold inner
    exact fun x hx => h x (List.mem_of_mem_drop (List.mem_of_mem_take hx))
  · intro x hx; cases hx
set_option maxHeartbeats 8000000 in
theorem decode_any (G : Nat → Prop) (a : Option Addr) (n c : Nat) (bs : List Nat) (w : World) (hb : Bs w G a n c bs) :
    Calls Tryd.prog 5 #[.slice a n c] w fun ex w' => ∃ a' m' c' e, ex = .returned (.tuple #[.slice a' m' c', .int .i64 e]) ∧ Dz w bs a' m' c' e w' := by
  have cU := unseal_any G 3 a n c _ w (by decide) hb
  have hlt := unsX_lt hb.lt
  rcases uns_cases bs with hE | ⟨hE, hl, ys, hbs, hX⟩
  · have HE := hid hE
    have hne : ¬ unsE 3 bs = 0 := by omega
    generalize unsE 3 bs = e at *
    clear hb hlt hE
    rcases HE.out with rfl | rfl
    · go_enter Tryd.func5, Tryd.ntmps5
      go_wp2_with (go_at_call 11; refine cU.mono ?_; rintro ex w1 ⟨ba, bn, bc, rfl, o1, b1⟩; have K1 : Hid (Kept No w w1) := Kept.of_below b1; clear o1 b1 cU)
      go_ret2
      exact ⟨none, 0, 0, 1, rfl, .inl ⟨.inl rfl, rfl, rfl, rfl⟩, K1.out⟩
    · go_enter Tryd.func5, Tryd.ntmps5
      go_wp2_with (go_at_call 11; refine cU.mono ?_; rintro ex w1 ⟨ba, bn, bc, rfl, o1, b1⟩; have K1 : Hid (Kept No w w1) := Kept.of_below b1; clear o1 b1 cU)
      go_ret2
      exact ⟨none, 0, 0, 20, rfl, .inl ⟨.inr rfl, rfl, rfl, rfl⟩, K1.out⟩
  · rw [hX] at hlt
    rw [hE, hX] at cU
    have hyl : ys.length ≤ 4194304 := by rw [hbs, sealed_length] at hl; omega
    have HT := hid (And.intro hlt hbs)
    clear hb hlt hE hX hbs hl
    go_enter Tryd.func5, Tryd.ntmps5
    go_upto_region 2 with (go_at_call 11; refine cU.mono ?_; rintro ex w1 ⟨ba, bn, bc, rfl, o1, b1⟩)
    obtain ⟨ba', bc', eb, hbs⟩ := Bs.of_owns o1 HT.out.1
    injection eb with eb1 eb2 eb3
    subst eb1 eb2 eb3
    have cR := newReader_any _ ba _ bc ys w1 hbs (by omega)
    have K1 : Hid (Kept No w w1) := Kept.of_below b1
    clear cU o1 b1 hbs
    go_upto_region 5 with (go_at_call 12; refine cR.mono ?_; rintro ex w2 ⟨p, rfl, rd2, b2⟩)
    have K2 : Hid (Kept No w1 w2) := Kept.of_below b2
    have hfp : w1.heap.size ≤ p ∧ p < w2.heap.size := by obtain ⟨a', n', c', hv⟩ := rd2; exact hv.fp
    have cL := getList_any _ p ys w2 rd2 (fun k hk => hk.2) hyl
    clear cR rd2 b2
    go_upto_region 6 with (go_at_call 13; refine cL.mono ?_; rintro ex w3 ⟨la, lm, lc, rfl, xs, rest, e3, hxl, il3, rd3, f3, p3, m3, k3⟩)
    have cD := rdone_any _ p rest e3 w3 rd3
    have q1 := il3.cap
    have q2 := il3.max
    have H3 := hid (And.intro il3 ((K1.out.trans K2.out (fun _ e => e.elim)).trans k3 (fun k e => .inr (by have e' : k = p := e; have h3 := K1.out.size; omega))))
    have P3 := hid (And.intro p3 hxl)
    clear il3 k3 rd3 cL p3 hxl
    have hD : rdDone rest e3 = 1 ∨ rdDone rest e3 = 20 ∨ (rdDone rest e3 = 0 ∧ e3 = 0 ∧ rest = []) := by
      unfold rdDone
      rcases f3 with rfl | rfl | rfl
      · rw [if_neg (by simp)]
        split
        · rename_i h; exact .inr (.inr ⟨rfl, rfl, h⟩)
        · exact .inr (.inl rfl)
      · exact .inl rfl
      · exact .inr (.inl rfl)
    clear f3
    rcases hD with h | h | ⟨h, rfl, rfl⟩
    · rw [h] at cD
      clear h
      go_wp2_with (go_at_call 15; refine cD.mono ?_; rintro ex w4 ⟨rfl, q, rfl⟩)
      go_ret2
      exact ⟨none, 0, 0, 1, rfl, .inl ⟨.inl rfl, rfl, rfl, rfl⟩, H3.out.2.trans ((Kept.refl No w3).drewN q) (fun _ e => e.elim)⟩
    · rw [h] at cD
      clear h
      go_wp2_with (go_at_call 15; refine cD.mono ?_; rintro ex w4 ⟨rfl, q, rfl⟩)
      go_ret2
      exact ⟨none, 0, 0, 20, rfl, .inl ⟨.inr rfl, rfl, rfl, rfl⟩, H3.out.2.trans ((Kept.refl No w3).drewN q) (fun _ e => e.elim)⟩
    · rw [h] at cD
      clear h
      go_wp2_with (go_at_call 15; refine cD.mono ?_; rintro ex w4 ⟨rfl, q, rfl⟩)
      go_ret2
      have KQ : Kept No w3 (w3.drewN q) := (Kept.refl No w3).drewN q
      have eY : ys = encB xs := by
        have h := P3.out.1 (by trivial)
        rw [List.append_nil, ← P3.out.2] at h
        exact h
      refine ⟨la, lm, lc, 0, rfl, .inr ⟨rfl, xs, by rw [← eY]; exact HT.out.2, ?_, H3.out.1.keep KQ⟩, H3.out.2.trans KQ (fun _ e => e.elim)⟩
      unfold encOk
      rw [decide_eq_true (by rw [P3.out.2]; exact m3), decide_eq_true (by rw [← eY]; exact hyl)]
      rfl
set_option maxHeartbeats 8000000 in
theorem one_law (G : Nat → Prop) (a : Option Addr) (n c : Nat) (bs : List Nat) (w : World) (hB : Bs w G a n c bs) (hn : n ≤ 140737488351232) (he : En w) :
    Calls Tryd.prog 3 #[.slice a n c] w fun r w' => r = .returned (.bool true) ∧ Kept No w w' := by
  have hcap := hB.cap
  have hmax := hB.max
  have HH := hid (And.intro hB (And.intro he (And.intro hB.len hB.lt)))
  clear hB he
  go_enter Tryd.func3, Tryd.ntmps3
  go_upto_region 2 with (first
    | (at_builtin; refine wpList_copy rfl _ _ rfl w.heap.size _ rfl (made0 w) (by simp) a n c rfl G bs (HH.out.1.kept ((Kept.refl No w).alloc _) (fun _ _ h => h)) (by omega) ?_; intro ya yc w1 own1 k1; have HK1 : Hid (Kept No w w1) := ((Kept.refl No w).alloc _).trans k1.out (fun k hk => .inr (own0 hk)); have cD := hid (decode_any _ ya n yc bs w1 (Bs.row own1.out HH.out.2.2.1 HH.out.2.2.2)); clear k1 own1)
    | (go_at_call 5; refine cD.out.mono ?_; rintro ex w2 ⟨la, lm, lc, e, rfl, dz⟩; have HD := hid dz; clear dz cD))
  have K2 : Hid (Kept No w w2) := HK1.out.trans HD.out.2 (fun _ e => e.elim)
  have CK := hid (known_yes w2 (HH.out.2.1.keep K2.out))
  rcases HD.out.1 with ⟨hE, rfl, rfl, rfl⟩ | ⟨rfl, xs, hbs, hok, il⟩
  · clear HD HK1
    rcases hE with rfl | rfl
    · go_wp2_with (go_at_call 6; refine CK.out.mono ?_; rintro ex w3 ⟨rfl, k3⟩; have K3 := hid k3; clear k3)
      go_ret
      exact ⟨rfl, K2.out.trans K3.out (fun _ e => e.elim)⟩
    · go_wp2_with (go_at_call 6; refine CK.out.mono ?_; rintro ex w3 ⟨rfl, k3⟩; have K3 := hid k3; clear k3)
      go_ret
      exact ⟨rfl, K2.out.trans K3.out (fun _ e => e.elim)⟩
  · have CE := hid (encode_any An la lm lc xs w2 il)
    have q1 := il.cap
    have q2 := il.max
    have eX : encX xs = bs := by unfold encX; rw [if_pos hok]; exact hbs.symm
    have eE : encE xs = 0 := by unfold encE; rw [if_pos hok]
    rw [eX, eE, HH.out.2.2.1] at CE
    clear HD HK1 CK hbs hok il eX eE
    go_upto_region 6 with (go_at_call 7; refine CE.out.mono ?_; rintro ex w3 ⟨ca, cn, cc, rfl, o3, k3⟩; obtain rfl := row_len o3; have H3 := hid (And.intro o3 (K2.out.trans k3 (fun _ e => e.elim))); clear o3 k3 CE)
    have CK := hid (known_yes w3 (HH.out.2.1.keep H3.out.2))
    go_wp2_with (first
      | (go_at_call 6; refine CK.out.mono ?_; rintro ex w5 ⟨rfl, hk5⟩; have K5 : Hid (Kept No w3 w5) := hk5; have cS := same_any _ _ ca a cn cn cc c bs bs w5 (Bs.row (hk5.owns H3.out.1 (fun _ _ h => h)) HH.out.2.2.1 HH.out.2.2.2) (HH.out.1.kept (H3.out.2.trans hk5 (fun _ h => h.elim)) (fun _ _ h => h)); rw [decide_eq_true rfl] at cS; clear hk5)
      | (go_at_call 8; refine cS.mono ?_; rintro ex w6 ⟨rfl, kd, rfl⟩))
    go_ret
    exact ⟨rfl, (H3.out.2.trans K5.out (fun _ h => h.elim)).drewN kd⟩
end Go.Proofs.YtfdcmhbpnadcpabDoor
