/-
  trace.Decode of what Encode told, and of it without its last byte.
-/
import Derived.Test.YtjhhldgbllbbhaaGreatDoorBGetL
namespace Go.Proofs.YtjhhldgbllbbhaaGreatDoor
open Go.RowKit
set_option linter.unusedVariables false
set_option linter.unusedSimpArgs false
set_option maxRecDepth 100000

def DecAs (xs : List Ev) (ex : Ending) (w' : World) : Prop := ∃ a' c', ex = .returned (.tuple #[.slice a' xs.length c', .int .i64 0]) ∧ Il w' An a' xs.length c' xs
set_option maxHeartbeats 4000000 in
theorem decode_yes (G : Nat → Prop) (a : Option Addr) (n c : Nat) (xs : List Ev) (w : World) (hb : Bs w G a n c (sealed 4 (encB xs))) (hsm : xs.length + wds xs ≤ 5000) (ht : ∀ x ∈ xs, x.Go ∧ x.Fit) (hlt : ∀ y ∈ encB xs, y < 256) :
    Calls Tryz.prog 11 #[.slice a n c] w fun ex w' => DecAs xs ex w' ∧ Kept No w w' := by
  have h2 : (encB xs).length ≤ 150000 := by rw [encB_len]; omega
  have cU := unseal_any G 4 a n c _ w (by decide) hb
  have hu := unsE_yes 4 (encB xs) (by omega)
  rw [hu.1, hu.2] at cU
  have HT := hid (And.intro ht hlt)
  clear hu hb ht hlt
  go_enter Tryz.func11, Tryz.ntmps11
  go_upto_region 2 with (go_at_call 25; refine cU.mono ?_; rintro ex w1 ⟨ba, bn, bc, rfl, o1, b1⟩)
  obtain ⟨ba', bc', eb, hbs⟩ := Bs.of_owns o1 HT.out.2
  injection eb with eb1 eb2 eb3
  subst eb1 eb2 eb3
  have cR := newReader_any _ ba _ bc (encB xs) w1 hbs (by omega)
  have K1 : Hid (Kept No w w1) := Kept.of_below b1
  clear cU o1 b1 hbs
  go_upto_region 5 with (go_at_call 26; refine cR.mono ?_; rintro ex w2 ⟨p, rfl, rd2, b2⟩)
  have K2 : Hid (Kept No w1 w2) := Kept.of_below b2
  have rd2' : Rd w2 (fun k => w1.heap.size ≤ k ∧ k < w2.heap.size) p (be xs.length 4 ++ (evsB xs ++ [])) 0 := by rw [List.append_nil]; exact rd2
  have hfp : w1.heap.size ≤ p ∧ p < w2.heap.size := by obtain ⟨a', n', c', hv⟩ := rd2; exact hv.fp
  have cL := getList_yes _ p xs [] w2 rd2' (fun k hk => hk.2) (by omega) HT.out.1
  clear cR rd2 rd2' b2
  go_upto_region 6 with (go_at_call 27; refine cL.mono ?_; rintro ex w3 ⟨la, lc, rfl, il3, rd3, k3⟩)
  have cD := rdone_any _ p [] 0 w3 rd3
  rw [show rdDone [] 0 = 0 from rfl] at cD
  have HAG : Hid (∀ W, Kept No w3 W → Calls Tryz.prog 19 #[.slice la xs.length lc] W fun r w' => r = .returned (.bool true) ∧ Kept No W w') := fun W z => by
    have := allGo_any W (il3.keep z)
    rw [decide_eq_true (fun x hx => (HT.out.1 x hx).1)] at this
    exact this
  have q1 := il3.cap
  have q2 := il3.max
  have H3 := hid (And.intro il3 ((K1.out.trans K2.out (fun _ e => e.elim)).trans k3 (fun k e => .inr (by have e' : k = p := e; have h3 := K1.out.size; omega))))
  clear il3 k3 rd3 cL
  go_wp2_with (first
    | (go_at_call 29; refine cD.mono ?_; rintro ex w4 ⟨rfl, q, rfl⟩; have cG := HAG.out (w3.drewN q) ((Kept.refl No w3).drewN q))
    | (go_at_call 19; refine cG.mono ?_; rintro ex w5 ⟨rfl, k5⟩; have K5 := hid k5; clear k5 cG))
  go_ret2
  have KQ : Kept No w3 w5 := ((Kept.refl No w3).drewN q).trans K5.out (fun _ e => e.elim)
  exact ⟨⟨la, lc, rfl, H3.out.1.keep KQ⟩, H3.out.2.trans KQ (fun _ e => e.elim)⟩
theorem cutE_no {b ys : List Nat} (hb : b.length < 4294967296) (hy : ys.length < 4294967296) (h : (sealed 4 b).take ((sealed 4 b).length - 1) = sealed 4 ys) : False := by
  have hl := congrArg List.length h
  rw [List.length_take, sealed_length, sealed_length] at hl
  have h4 := congrArg (fun l => (l.drop 4).take 4) h
  have e1 : ∀ z : List Nat, ((sealed 4 z).drop 4).take 4 = be z.length 4 := fun z => by
    rw [sealed_cons]
    simp [be_length]
  have e2 : (((sealed 4 b).take ((sealed 4 b).length - 1)).drop 4).take 4 = be b.length 4 := by
    rw [← e1 b, List.drop_take, List.take_take, Nat.min_eq_left (by rw [sealed_length]; omega)]
  simp only [e2, e1] at h4
  have h5 := congrArg val h4
  rw [val_be _ 4 (by omega), val_be _ 4 (by omega)] at h5
  omega
theorem decode_cut (G : Nat → Prop) (a : Option Addr) (n c : Nat) (b : List Nat) (w : World) (hl : b.length ≤ 150000) (hb : Bs w G a n c ((sealed 4 b).take ((sealed 4 b).length - 1))) :
    Calls Tryz.prog 11 #[.slice a n c] w fun ex w' => ex = .returned (.tuple #[.slice none 0 0, .int .i64 20]) ∧ Kept No w w' := by
  have cU := unseal_any G 4 a n c _ w (by decide) hb
  have hlen : ((sealed 4 b).take ((sealed 4 b).length - 1)).length = b.length + 11 := by rw [List.length_take, sealed_length]; omega
  have hu := unsE_no (kind := 4) (xs := (sealed 4 b).take ((sealed 4 b).length - 1)) (by omega) (fun ys e => cutE_no (by omega) (by have := congrArg List.length e; rw [hlen, sealed_length] at this; omega) e)
  rw [hu.1, hu.2] at cU
  clear hu hb hlen
  go_enter Tryz.func11, Tryz.ntmps11
  go_wp2_with (go_at_call 25; refine cU.mono ?_; rintro ex w1 ⟨ba, bn, bc, rfl, o1, b1⟩; have K1 : Hid (Kept No w w1) := Kept.of_below b1; clear b1 o1 cU)
  go_ret2
  exact ⟨rfl, K1.out⟩
end Go.Proofs.YtjhhldgbllbbhaaGreatDoor
