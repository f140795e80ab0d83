/-
  those: the numbers of the channels that are such, one after the other.
-/
import Derived.Test.YtfjaajjljmbmbaaGreatDoorCSuch
import Derived.Test.YtfjaajjljmbmbaaGreatDoorCRange
import Derived.OwnWalkIn
import Derived.TacticsInMore
import Derived.LoopNIn
import Derived.LoopIn
import Derived.Shelf.RegionOpen
namespace Go.Proofs.YtfjaajjljmbmbaaGreatDoor
open Go.RowKit Go.Shelf Plain
attribute [local go_sem] Oper.semAt_some
set_option linter.unusedVariables false
set_option maxRecDepth 100000

/-- is number i (from 0 on) such? -/
def isN (p : Ch → Bool) (L : List Ch) (i : Nat) : Bool := ((L[i]?).map p).getD false
/-- the numbers, from 0 on, below i, of those that are such -/
def nm (p : Ch → Bool) (L : List Ch) (i : Nat) : List Nat := (List.range i).filter (isN p L)
theorem nm_succ (p : Ch → Bool) (L : List Ch) (i : Nat) : nm p L (i + 1) = nm p L i ++ (if isN p L i = true then [i] else []) := by
  unfold nm
  rw [List.range_succ, List.filter_append]
  congr 1
  by_cases h : isN p L i = true <;> simp [h]
theorem nm_pre (p : Ch → Bool) (L : List Ch) : ∀ (n i : Nat), i ≤ n → ∃ r, nm p L n = nm p L i ++ r
  | 0, i, h => ⟨[], by rw [show i = 0 by omega]; simp⟩
  | n + 1, i, h => by
    by_cases e : i = n + 1
    · exact ⟨[], by rw [e]; simp⟩
    · obtain ⟨r, hr⟩ := nm_pre p L n i (by omega)
      exact ⟨r ++ (if isN p L n = true then [n] else []), by rw [nm_succ, hr, List.append_assoc]⟩
theorem nm_at {p : Ch → Bool} {L : List Ch} {n i : Nat} (h : i < n) (hi : isN p L i = true) : (nm p L n).getD (nm p L i).length 0 = i ∧ (nm p L i).length < (nm p L n).length := by
  obtain ⟨r, hr⟩ := nm_pre p L n (i + 1) (by omega)
  rw [hr, nm_succ, if_pos hi]
  constructor
  · simp [List.getD]
  · simp
/-- what is told of number q -/
def el (p : Ch → Bool) (L : List Ch) (q : Nat) : Array Value := #[.int .i64 (((nm p L L.length).getD q 0 : Int) + 1)]

theorem those_new (a0 a1 a2 : Option Addr) (n0 c0 n1 c1 n2 c2 : Nat) (fv : Value) (hf : fv.oneCell' = true) (w : World) :
    Calls Tryz.prog 30 #[.agg #[.slice a0 n0 c0, .slice a1 n1 c1, .slice a2 n2 c2], fv] w fun e w' => e = .returned (.func (.func 57) #[] #[.pointer (some ⟨w.heap.size, 0, none⟩), .pointer (some ⟨w.heap.size + 1, 0, none⟩)]) ∧ w' = (w.alloc (.cells #[.slice a0 n0 c0, .slice a1 n1 c1, .slice a2 n2 c2] 26)).alloc (.cells #[fv] 67) := by
  go_enter Tryz.func30, Tryz.ntmps30
  go_wp2
  go_ret
  exact ⟨rfl, rfl⟩

set_option maxHeartbeats 4000000 in
theorem those_in {F : Nat → Prop} {a0 a1 a2 : Option Addr} {n0 c0 n1 c1 n c : Nat} {L : List Ch} {p : Ch → Bool} {g : Nat} {lb : Array Value} (eg : ∀ args w, (callFunc g args).run Tryz.prog w = .ok (.enter g args) w)
    {w : World} (h : Ls 5 elCh w F a2 n c L) (hp : PrdC g lb p w) {B2 B3 : Nat} (hB2 : w.heap[B2]? = some (.cells #[.slice a0 n0 c0, .slice a1 n1 c1, .slice a2 n c] 26)) (hB3 : w.heap[B3]? = some (.cells #[.func (.func g) #[] lb] 67)) :
    GivesN Tryz.prog 57 #[.pointer (some ⟨B2, 0, none⟩), .pointer (some ⟨B3, 0, none⟩)] (el p L) (nm p L L.length).length w := by
  intro l J Jx W S K0 hS hJ hJx hT h0
  obtain ⟨x0, x1, x2⟩ := three (K0.at' hB2 (fun h => h))
  refine callsIn_wide (n := 9).1 ?_
  refine callsIn_of_wp Tryz.func57 rfl trivial ?_ rfl
  simp only [Tryz.ntmps57, List.size_toArray, List.length_cons, List.length_nil, Nat.reduceAdd, Nat.reduceSub, Array.replicate_succ, Array.replicate_zero, List.push_toArray, List.append_toArray, List.nil_append, List.cons_append]
  gi_wp2
  have hl := h.len
  have hmx := h.cap
  have hmx2 := h.max
  have HH : Hid (Ls 5 elCh w F a2 n c L ∧ PrdC g lb p w ∧ Kept No w W ∧ (∀ k, S k → w.heap.size ≤ k) ∧ w.heap[B3]? = some (.cells #[.func (.func g) #[] lb] 67)) := ⟨h, hp, K0, hS, hB3⟩
  have HJ : Hid (Hangs J ∧ Hangs Jx ∧ TakesL Tryz.prog l (el p L) (nm p L L.length).length J Jx) := ⟨hJ, hJx, hT⟩
  have HJ0 : Hid (J 0 W S) := h0
  clear h hp K0 hS hB2 hB3 hJ hJx hT h0 x0 x1 x2
  gi_loopw [9] (fun y wr => ∃ (i : Nat) (S' : Nat → Prop), y = .int .i64 i ∧ i ≤ n ∧ J (nm p L i).length wr S' ∧ Kept S W wr ∧ More S W S') (fun y _ => n - (intOf y).toNat)
  case atStart => exact ⟨0, S, rfl, Nat.zero_le _, HJ0.out, Kept.refl _ _, More.refl _ _⟩
  case round =>
    clear HJ0
    obtain ⟨i, S', rfl, hi, hj, hk, hm⟩ := hrel
    by_cases hlt : i < n
    · have hiL : i < L.length := by omega
      have KN : Kept No w wr := HH.out.2.2.1.trans hk (fun k h => .inr (HH.out.2.2.2.1 k h))
      obtain ⟨b, o, cs, rfl, hF, hcl, hr, ⟨ta, tn, tc, hcs, hT⟩, hok⟩ := (HH.out.1.kept KN (fun _ _ h => h) (elCh_kept KN (fun _ _ h => h))).at' i _ (List.getElem?_eq_getElem hiL)
      obtain ⟨x, hx⟩ : ∃ x, x = L[i] := ⟨_, rfl⟩
      rw [← hx] at hcs hT hok
      have y0 : wr.cell? ⟨b, o + i * 5, none⟩ = some (.int .i64 x.kd) := hr 0 _ (by rw [hcs]; rfl)
      have y1 : wr.cell? ⟨b, o + i * 5 + 1, none⟩ = some (.int .i64 x.fr) := hr 1 _ (by rw [hcs]; rfl)
      have y2 : wr.cell? ⟨b, o + i * 5 + 2, none⟩ = some (.slice ta tn tc) := hr 2 _ (by rw [hcs]; rfl)
      have y3 : wr.cell? ⟨b, o + i * 5 + 3, none⟩ = some (.int .i64 x.ph) := hr 3 _ (by rw [hcs]; rfl)
      have y4 : wr.cell? ⟨b, o + i * 5 + 4, none⟩ = some (.int .i64 x.pe) := hr 4 _ (by rw [hcs]; rfl)
      have hN : isN p L i = p x := by unfold isN; rw [List.getElem?_eq_getElem hiL, hx]; rfl
      have KA : Kept No wr (wr.alloc (.cells #[.int .i64 x.kd, .int .i64 x.fr, .slice ta tn tc, .int .i64 x.ph, .int .i64 x.pe] 39)) := (Kept.refl No wr).alloc _
      have z0 : (wr.alloc (.cells #[.int .i64 x.kd, .int .i64 x.fr, .slice ta tn tc, .int .i64 x.ph, .int .i64 x.pe] 39)).cell? ⟨B3, 0, none⟩ = some (.func (.func g) #[] lb) := one (KA.at' (KN.at' HH.out.2.2.2.2 (fun h => h)) (fun h => h))
      have cp := HH.out.2.1 _ x F ta tn tc hok (hT.kept KA (fun _ _ h => h) (elI_kept KA (fun _ _ h => h))) (KN.trans KA (fun _ h => .inl h))
      have HR : Hid (J (nm p L i).length wr S' ∧ Kept S W wr ∧ More S W S' ∧ Kept No wr (wr.alloc (.cells #[.int .i64 x.kd, .int .i64 x.fr, .slice ta tn tc, .int .i64 x.ph, .int .i64 x.pe] 39))) := ⟨hj, hk, hm, KA⟩
      clear hj hk hm KA hr hcs hok KN hT hx
      generalize x.kd = X0 at *
      generalize x.fr = X1 at *
      generalize x.ph = X3 at *
      generalize x.pe = X4 at *
      have old : ∀ w1, Kept No (wr.alloc (.cells #[.int .i64 X0, .int .i64 X1, .slice ta tn tc, .int .i64 X3, .int .i64 X4] 39)) w1 → J (nm p L i).length w1 S' ∧ Kept S W w1 := fun w1 k1 => by
        have k2 := HR.out.2.2.2.trans k1 (fun _ h => .inl h)
        refine ⟨HJ.out.1.kept _ wr w1 S' HR.out.1 k2.size (fun k hs => k2.block k (HJ.out.1.old _ _ _ HR.out.1 k hs) (fun h => h)), HR.out.2.1.trans k2 (fun _ h => h.elim)⟩
      have OLD := hid old
      clear old
      cases hq : p x with
      | true =>
        rw [hq] at cp hN
        have hat := nm_at hiL hN
        have hel : el p L (nm p L i).length = #[.int .i64 ((i : Int) + 1)] := by unfold el; rw [hat.1]
        have hsc : (nm p L (i + 1)).length = (nm p L i).length + 1 := by rw [nm_succ, if_pos hN]; simp
        have HA : Hid ((nm p L i).length < (nm p L L.length).length ∧ el p L (nm p L i).length = #[.int .i64 ((i : Int) + 1)] ∧ (nm p L (i + 1)).length = (nm p L i).length + 1) := ⟨hat.2, hel, hsc⟩
        clear hat hel hsc hN hq
        gi_wp2
        refine ⟨trivial, ?_⟩
        refine (callsIn_wide.2 cp).mono ?_
        rintro e w1 ⟨rfl, k1⟩
        obtain ⟨fn, tmps, assign, body, hy, hR⟩ := HJ.out.2.2 8 _ w1 S' (OLD.out w1 k1).1 HA.out.1
        rw [HA.out.2.1] at hy
        have K1 := hid k1
        clear k1 cp
        gi_wp2
        refine hR.mono ?_
        clear hy hR
        rintro e w3 ⟨S3, hk3, hm3, (⟨rfl, hj3⟩ | ⟨rfl, hj3⟩)⟩
        · have HF : Hid (J (nm p L (i + 1)).length w3 S3 ∧ Kept S W w3 ∧ More S W S3) := ⟨by rw [HA.out.2.2]; exact hj3, (OLD.out w1 K1.out).2.more HR.out.2.2.1 hk3, HR.out.2.2.1.trans hm3 (OLD.out w1 K1.out).2.size⟩
          clear hk3 hm3 hj3
          gi_wp2
          go_roundw
          case rel =>
            obtain ⟨z1, z2, z3⟩ := HF.out
            exact ⟨i + 1, S3, by go_num, by omega, z1, z2, z3⟩
          case measure => simp [intOf]; omega
        · have HF : Hid (Kept S W w3 ∧ More S W S3 ∧ Jx ((nm p L i).length + 1) w3 S3) := ⟨(OLD.out w1 K1.out).2.more HR.out.2.2.1 hk3, HR.out.2.2.1.trans hm3 (OLD.out w1 K1.out).2.size, hj3⟩
          clear hk3 hm3 hj3
          gi_wp2
          refine bodyPost_ret (results_none rfl _ _ _) rfl ?_
          exact ⟨⟨_, rfl⟩, S3, HF.out.1, HF.out.2.1, .inr ⟨_, HF.out.2.2⟩⟩
      | false =>
        rw [hq] at cp hN
        have hsc : (nm p L (i + 1)).length = (nm p L i).length := by rw [nm_succ, if_neg (by rw [hN]; decide)]; simp
        have HA := hid hsc
        clear hsc hN hq
        gi_wp2
        refine ⟨trivial, ?_⟩
        refine (callsIn_wide.2 cp).mono ?_
        rintro e w1 ⟨rfl, k1⟩
        gi_wp2
        refine ⟨fun f h => (by cases h), ?_⟩
        gi_wp2
        go_roundw
        case rel =>
          exact ⟨i + 1, S', by go_num, by omega, by rw [HA.out]; exact (OLD.out w1 k1).1, (OLD.out w1 k1).2, HR.out.2.2.1⟩
        case measure => simp [intOf]; omega
    · have hqe : i = n := by omega
      subst hqe
      gi_wp2
      go_end0
      exact ⟨⟨_, rfl⟩, S', hk, hm, .inl (by rw [hl]; exact hj)⟩

theorem those_gives {F : Nat → Prop} {a0 a1 a2 : Option Addr} {n0 c0 n1 c1 n c : Nat} {L : List Ch} {p : Ch → Bool} {g : Nat} {lb : Array Value} (eg : ∀ args w, (callFunc g args).run Tryz.prog w = .ok (.enter g args) w)
    {w : World} (h : Ls 5 elCh w F a2 n c L) (hp : PrdC g lb p w) :
    Calls Tryz.prog 30 #[.agg #[.slice a0 n0 c0, .slice a1 n1 c1, .slice a2 n c], .func (.func g) #[] lb] w fun e w' => ∃ l2, e = .returned (.func (.func 57) #[] l2) ∧ Kept No w w' ∧ GivesN Tryz.prog 57 l2 (el p L) (nm p L L.length).length w' := by
  refine (those_new a0 a1 a2 n0 c0 n1 c1 n c _ rfl w).mono ?_
  rintro e w' ⟨rfl, rfl⟩
  have k1 : Kept No w (w.alloc (.cells #[.slice a0 n0 c0, .slice a1 n1 c1, .slice a2 n c] 26)) := (Kept.refl No w).alloc _
  have k2 : Kept No (w.alloc (.cells #[.slice a0 n0 c0, .slice a1 n1 c1, .slice a2 n c] 26)) ((w.alloc (.cells #[.slice a0 n0 c0, .slice a1 n1 c1, .slice a2 n c] 26)).alloc (.cells #[.func (.func g) #[] lb] 67)) := (Kept.refl No _).alloc _
  have kk := k1.trans k2 (fun _ h => .inl h)
  have b3 := alloc_new (w.alloc (.cells #[.slice a0 n0 c0, .slice a1 n1 c1, .slice a2 n c] 26)) (.cells #[.func (.func g) #[] lb] 67)
  rw [World.size_alloc] at b3
  exact ⟨_, rfl, kk, those_in eg (h.kept kk (fun _ _ h => h) (elCh_kept kk (fun _ _ h => h))) (hp.on kk) (k2.at' (alloc_new w _) (fun h => h)) b3⟩
end Go.Proofs.YtfjaajjljmbmbaaGreatDoor
