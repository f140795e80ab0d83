/-
  One text: CRef2, IDt.
-/
import Derived.Test.YtggejpccjmolhaaGreatDoorG10
import Derived.Test.YtggejpccjmolhaaGreatDoorNLcmR
import Derived.Test.YtggejpccjmolhaaGreatDoorCEach
import Derived.Deep.MidRow
namespace Go.Proofs.YtggejpccjmolhaaGreatDoor
open Go.RowKit Plain
set_option linter.unusedVariables false
set_option linter.unusedSimpArgs false
set_option maxRecDepth 100000

set_option maxHeartbeats 4000000 in
theorem rhyper_any (F : Nat → Prop) (a : Option Addr) (n c : Nat) (xs : List Srv) (w : World) (h : Sv w F a n c xs) (hn : n ≤ 70000) :
    Calls Tryz.prog 31 #[.slice a n c] w fun e w' => e = .returned (.tuple #[.int .i64 (lcmV (zP xs) n 1048576), .bool (lcmB (zP xs) n 1048576)]) ∧ Kept No w w' := by
  obtain ⟨i0, hi, hz0, hz1, hz2⟩ := info_parts Tryz.infoL
  have H : Hid (Sv w F a n c xs) := h
  obtain ⟨z1, hz1'⟩ : ∃ z, z = lcmV (zP xs) n 1048576 := ⟨_, rfl⟩
  obtain ⟨z2, hz2'⟩ : ∃ z, z = lcmB (zP xs) n 1048576 := ⟨_, rfl⟩
  rw [← hz1', ← hz2']
  have HZ1 : Hid (z1 = lcmV (zP xs) n 1048576) := hz1'
  have HZ2 : Hid (z2 = lcmB (zP xs) n 1048576) := hz2'
  have hz1b : -9223372036854775808 ≤ z1 ∧ z1 ≤ 9223372036854775807 := by have := lcm_bd xs n; rw [hz1']; omega
  clear h hz1' hz2'
  go_enter Tryz.func31, Tryz.ntmps31
  go_wp2
  go_loopw [4, 5] (fun v x wr => ∃ k : Nat, k ≤ n ∧ x = .int .i64 k ∧ Kept No w wr ∧ wr.ownsRow w.heap.size 2 1 v k ((psP xs k).map iv)) (fun _ x _ => n - (intOf x).toNat)
  case atStart => exact ⟨0, by omega, rfl, Kept.refl No w, ⟨rfl, .inl ⟨rfl, rfl⟩⟩⟩
  case round =>
    obtain ⟨k, hk, rfl, hkr, hown⟩ := hrel
    by_cases hlt : k < n
    · have hx : xs[k]? = some (xs.getD k ⟨0, 0, 0, 0⟩) := by rw [List.getD, List.getElem?_eq_getElem (by rw [H.out.len]; exact hlt)]; rfl
      obtain ⟨hok, b, o, rfl, hb, c0, c1, c2, c3⟩ := (H.out.keep hkr).at' k _ hx
      have HNX : Hid ((psP xs (k + 1)).map iv = (psP xs k).map iv ++ [.int .i64 (xs.getD k ⟨0, 0, 0, 0⟩).p]) := psP_succ xs k
      have hyp : -9223372036854775808 ≤ (xs.getD k ⟨0, 0, 0, 0⟩).p ∧ (xs.getD k ⟨0, 0, 0, 0⟩).p ≤ 9223372036854775807 := hok.1
      clear hx hok
      generalize (psP xs k).map iv = L0 at *
      generalize xs.getD k ⟨0, 0, 0, 0⟩ = y at *
      obtain ⟨yp, yb, yo, yq⟩ := y
      simp only at c0 c1 c2 c3 HNX hyp
      have HOW : Hid (wr.ownsRow w.heap.size 2 1 u4 k L0) := hown
      have HKR : Hid (Kept No w wr) := hkr
      clear hown hkr
      go_wp2_with (at_builtin; refine wpList_append_own_at _ rfl _ _ 51 rfl w.heap.size 2 i0 (.int .i64 0) 1 8 Tryz.underlying51 hi hz0 hz1 hz2 rfl (by decide) _ _ _ rfl (HOW.out.alloc _) ⟨wr.heap.size, 0, none⟩ 1 1 [.int .i64 yp] rfl rfl (cell_one_new _ _ _) (one_one _ _) (by unfold maxLen; omega) (by omega) (by have := HKR.out.size; simp; omega) ?_; intro v1 w6 own1 grow1 _ at1)
      have HK6 : Hid (Kept No w w6 ∧ w6.ownsRow w.heap.size 2 1 v1 (k + 1) ((psP xs (k + 1)).map iv)) := by
        exact ⟨(HKR.out.alloc _).grown grow1 (fun g e => .inr (HOW.out.lt g e).1), by rw [HNX.out]; exact own1⟩
      clear own1 grow1 at1
      go_wp2
      go_roundw
      case rel => exact ⟨k + 1, by omega, by go_num, HK6.out.1, HK6.out.2⟩
      case measure => simp [intOf]; omega
    · have hke : k = n := by omega
      subst hke
      obtain ⟨sa, sc, rfl, hrow⟩ := row_of wr w.heap.size 2 u4 xs k hown (fun i hi => by
        have hx : xs[i]? = some (xs.getD i ⟨0, 0, 0, 0⟩) := by rw [List.getD, List.getElem?_eq_getElem (by rw [H.out.len]; exact hi)]; rfl
        exact (H.out.at' i _ hx).1.1)
      have hc := rlcm_any sa k sc (zP xs) 1048576 wr (by omega) (by unfold I64; omega) hrow
      have HKR : Hid (Kept No w wr) := hkr
      clear hown hkr hrow
      rw [← HZ1.out, ← HZ2.out] at hc
      go_wp2_with (go_at_call 44; refine hc.mono ?_; rintro e w2 ⟨rfl, nn, rfl⟩)
      go_ret2
      exact ⟨rfl, HKR.out.drewN _⟩

theorem fe_of {xs : List Srv} {n : Nat} {p : Int × Int} (h : findF xs n = some p) : p.1 = 100 ∨ p.1 = 101 := by
  unfold findF at h
  by_cases h32 : n ≤ 32
  · rw [if_pos h32, servF_ok] at h
    have key : ∀ m, eachF (fun i => if okF xs i then 0 else 101) 1 m = some p → p.1 = 101 := by
      intro m
      induction m with
      | zero => intro h; cases h
      | succ m ih =>
        intro h
        rw [eachF] at h
        cases he : eachF (fun i => if okF xs i then 0 else 101) 1 m with
        | some q => rw [he] at h; cases h; exact ih he
        | none =>
          rw [he] at h
          cases ho : okF xs m
          · simp [ho] at h; rw [← h]
          · simp [ho] at h
    exact .inr (key n h)
  · rw [if_neg h32] at h; cases h; exact .inl rfl

set_option maxHeartbeats 4000000 in
theorem rHyper_any (F : Nat → Prop) (a : Option Addr) (n c : Nat) (xs : List Srv) (w : World) (h : Sv w F a n c xs) :
    Calls Tryz.prog 18 #[.slice a n c] w fun e w' => e = .returned (.tuple #[.int .i64 (hyV xs n), .int .i64 (hyE xs n)]) ∧ Kept No w w' := by
  have hc := rservers_any F a n c xs w h
  cases hf : findF xs n with
  | some p =>
    have ht : timF xs n = some p := by unfold timF; rw [hf]
    rw [show hyV xs n = 0 by unfold hyV; rw [ht], show hyE xs n = p.1 by unfold hyE; rw [ht]]
    have hp := fe_of hf
    rw [hf] at hc
    simp only [fe, fn] at hc
    obtain ⟨px, py⟩ := p
    simp only at hp hc ⊢
    have hne : ¬ px = 0 := by omega
    clear hf h ht hp
    go_enter Tryz.func18, Tryz.ntmps18
    go_wp2_with (go_at_call 16; refine hc.mono ?_; rintro e w1 ⟨rfl, hk1⟩; have HK1 : Hid (Kept No w w1) := hk1; clear hk1)
    go_ret2
    exact ⟨rfl, HK1.out⟩
  | none =>
    obtain ⟨hn, hp⟩ := findF_none hf
    have ht : timF xs n = togF xs n := by unfold timF; rw [hf]
    rw [hf] at hc
    simp only [fe, fn] at hc
    have H : Hid (Sv w F a n c xs) := h
    have HP : Hid (∀ i, i < n → 1 ≤ zP xs i) := fun i hi => (hp i hi).1
    have H2 : Hid (∀ w', Kept No w w' → Calls Tryz.prog 31 #[.slice a n c] w' fun e w' => e = .returned (.tuple #[.int .i64 (lcmV (zP xs) n 1048576), .bool (lcmB (zP xs) n 1048576)]) ∧ Kept No w w') := fun w' hw => (rhyper_any F a n c xs w' (h.keep hw) (by omega)).mono (fun e w2 he => ⟨he.1, hw.trans he.2 (fun _ h => h.elim)⟩)
    cases hB : lcmB (zP xs) n 1048576
    · have ht2 : timF xs n = some (102, 0) := by rw [ht]; unfold togF; rw [hB]; rfl
      rw [show hyV xs n = 0 by unfold hyV; rw [ht2], show hyE xs n = 102 by unfold hyE; rw [ht2]]
      rw [hB] at H2
      clear hf h ht ht2 hp hB
      generalize lcmV (zP xs) n 1048576 = z1 at *
      go_enter Tryz.func18, Tryz.ntmps18
      go_wp2_with (first
        | (go_at_call 16; refine hc.mono ?_; rintro e w1 ⟨rfl, hk1⟩; have HK1 : Hid (Kept No w w1) := hk1; have hc2 := H2.out w1 hk1; clear hk1)
        | (go_at_call 31; refine hc2.mono ?_; rintro e w2 ⟨rfl, hk1⟩; have HK2 : Hid (Kept No w w2) := hk1; clear hk1))
      go_ret2
      exact ⟨rfl, HK2.out⟩
    · obtain ⟨l0, l1⟩ := lcm_bd xs n
      rw [hB] at H2
      have HV : Hid (relF (lcmV (zP xs) n 1048576) xs n ≤ 65536 → hyV xs n = lcmV (zP xs) n 1048576 ∧ hyE xs n = 0) := fun hle => by
        have ht2 : timF xs n = none := by rw [ht]; unfold togF; rw [hB, if_pos hle]; rfl
        exact ⟨by unfold hyV; rw [ht2], by unfold hyE; rw [ht2]⟩
      have HV2 : Hid (¬ relF (lcmV (zP xs) n 1048576) xs n ≤ 65536 → hyV xs n = 0 ∧ hyE xs n = 103) := fun hle => by
        have ht2 : timF xs n = some (103, 0) := by rw [ht]; unfold togF; rw [hB, if_neg hle]; rfl
        exact ⟨by unfold hyV; rw [ht2], by unfold hyE; rw [ht2]⟩
      clear hf h ht hp hB
      generalize lcmV (zP xs) n 1048576 = z1 at *
      generalize hyV xs n = r1 at *
      generalize hyE xs n = r2 at *
      have HBD : Hid (∀ k, k ≤ n → 0 ≤ relF z1 xs k ∧ relF z1 xs k ≤ k * 2097152) := fun k hk => relF_bd (xs := xs) l0 l1 k (fun i hi => HP.out i (by omega))
      go_enter Tryz.func18, Tryz.ntmps18
      go_wp2_with (first
        | (go_at_call 16; refine hc.mono ?_; rintro e w1 ⟨rfl, hk1⟩; have HK1 : Hid (Kept No w w1) := hk1; have hc2 := H2.out w1 hk1; clear hk1)
        | (go_at_call 31; refine hc2.mono ?_; rintro e w2 ⟨rfl, hk1⟩; have HK2 : Hid (Kept No w w2) := hk1; clear hk1))
      clear hc hc2 H2 HK1
      go_loopw [8, 9] (fun v x wr => ∃ k : Nat, k ≤ n ∧ x = .int .i64 k ∧ Kept No w wr ∧ v = .int .i64 (relF z1 xs k)) (fun _ x _ => n - (intOf x).toNat)
      case atStart => exact ⟨0, by omega, rfl, HK2.out, rfl⟩
      case round =>
        clear HK2
        obtain ⟨k, hk, rfl, hkr, rfl⟩ := hrel
        by_cases hlt : k < n
        · have hx : xs[k]? = some (xs.getD k ⟨0, 0, 0, 0⟩) := by rw [List.getD, List.getElem?_eq_getElem (by rw [H.out.len]; exact hlt)]; rfl
          obtain ⟨hok, b, o, rfl, hb, c0, c1, c2, c3⟩ := (H.out.keep hkr).at' k _ hx
          have hpk : 1 ≤ (xs.getD k ⟨0, 0, 0, 0⟩).p := HP.out k hlt
          have HS : Hid (relF z1 xs (k + 1) = relF z1 xs k + (2 * z1) / (xs.getD k ⟨0, 0, 0, 0⟩).p) := rfl
          have hpm : (xs.getD k ⟨0, 0, 0, 0⟩).p ≤ 9223372036854775807 := hok.1.2
          obtain ⟨r0, r1⟩ := HBD.out k hk
          have r2 : relF z1 xs k ≤ 67108864 := by
            have : (k : Int) * 2097152 ≤ 67108864 := by omega
            omega
          have HKR : Hid (Kept No w wr) := hkr
          clear hx hok hkr r1
          generalize xs.getD k ⟨0, 0, 0, 0⟩ = y at *
          obtain ⟨yp, yb, yo, yq⟩ := y
          simp only at c0 c1 c2 c3 HS hpk hpm
          generalize relF z1 xs k = rk at *
          have hd0 : 0 ≤ (2 * z1) / yp := Int.ediv_nonneg (by omega) (by omega)
          have hd1 : (2 * z1) / yp ≤ 2 * z1 := Int.ediv_le_self _ (by omega)
          go_wp2
          go_roundw
          case rel => exact ⟨k + 1, by omega, by go_num, HKR.out, by rw [HS.out]⟩
          case measure => simp [intOf]; omega
        · have hke : k = n := by omega
          subst hke
          have HKR : Hid (Kept No w wr) := hkr
          clear hkr
          by_cases hle : relF z1 xs k ≤ 65536
          · obtain ⟨e1, e2⟩ := HV.out hle
            have HE : Hid (r1 = z1 ∧ r2 = 0) := ⟨e1, e2⟩
            clear e1 e2
            generalize relF z1 xs k = rk at *
            go_wp2
            go_ret2
            exact ⟨by rw [HE.out.1, HE.out.2]; rfl, HKR.out⟩
          · obtain ⟨e1, e2⟩ := HV2.out (by omega)
            have HE : Hid (r1 = 0 ∧ r2 = 103) := ⟨e1, e2⟩
            clear e1 e2
            generalize relF z1 xs k = rk at *
            go_wp2
            go_ret2
            exact ⟨by rw [HE.out.1, HE.out.2]; rfl, HKR.out⟩
end Go.Proofs.YtggejpccjmolhaaGreatDoor

namespace Go.Proofs.YtggejpccjmolhaaGreatDoor
open Go.RowKit
set_option linter.unusedVariables false
set_option maxRecDepth 100000

def okL {α : Type} (ok : α → Prop) (l : List α) : Prop := ∀ x ∈ l, ok x
def U8 (x : Int) : Prop := 0 ≤ x ∧ x < 256
def I3 (x : Int) : Prop := -2147483648 ≤ x ∧ x ≤ 2147483647
structure Ins where
  op : Int
  a : Int
  b : Int
  c : Int
  imm : Int
def okIns (x : Ins) : Prop := U8 x.op ∧ U8 x.a ∧ U8 x.b ∧ U8 x.c ∧ I3 x.imm
structure Prc where
  en : Int
  pr : Int
  pe : Int
  li : Int
  ca : Int
  auto : Bool
def okPrc (x : Prc) : Prop := I6 x.en ∧ I6 x.pr ∧ I6 x.pe ∧ I6 x.li ∧ I6 x.ca ∧ (fun _ : Bool => True) x.auto
structure Sm where
  st : Int
  mx : Int
def okSm (x : Sm) : Prop := I6 x.st ∧ I6 x.mx
structure Bf where
  sz : Int
  dp : Int
def okBf (x : Bf) : Prop := I6 x.sz ∧ I6 x.dp
structure Po where
  pt : Int
  kd : Int
  out : Bool
  sz : Int
  dp : Int
  rf : Int
def okPo (x : Po) : Prop := I6 x.pt ∧ I6 x.kd ∧ (fun _ : Bool => True) x.out ∧ I6 x.sz ∧ I6 x.dp ∧ I6 x.rf
structure Ch where
  kd : Int
  fr : Int
  dst : List Int
  ph : Int
  pe : Int
def okCh (x : Ch) : Prop := I6 x.kd ∧ I6 x.fr ∧ okL I6 x.dst ∧ I6 x.ph ∧ I6 x.pe
structure Pn where
  pe : Int
  bu : Int
  off : Int
  pr : Int
  wo : Int
  fi : Int
  init : List Int
  code : List Ins
  procs : List Prc
  ha : Int
  h0 : Int
  h1 : Int
  h2 : Int
  h3 : Int
  h4 : Int
  h5 : Int
  h6 : Int
  h7 : Int
  sems : List Sm
  evs : List Bool
  bufs : List Bf
def okPn (x : Pn) : Prop := I6 x.pe ∧ I6 x.bu ∧ I6 x.off ∧ I6 x.pr ∧ I6 x.wo ∧ I6 x.fi ∧ okL I6 x.init ∧ okL okIns x.code ∧ okL okPrc x.procs ∧ I6 x.ha ∧ I6 x.h0 ∧ I6 x.h1 ∧ I6 x.h2 ∧ I6 x.h3 ∧ I6 x.h4 ∧ I6 x.h5 ∧ I6 x.h6 ∧ I6 x.h7 ∧ okL okSm x.sems ∧ okL (fun _ => True) x.evs ∧ okL okBf x.bufs
structure Im where
  parts : List Pn
  ports : List Po
  chans : List Ch
def okIm (x : Im) : Prop := okL okPn x.parts ∧ okL okPo x.ports ∧ okL okCh x.chans

/-- a slice of elements of so many cells each, told by what an element's cells mean; its blocks lie in F -/
structure Ls {α : Type} (sz : Nat) (El : World → (Nat → Prop) → List Value → α → Prop) (w : World) (F : Nat → Prop) (a : Option Addr) (n c : Nat) (xs : List α) : Prop where
  len : xs.length = n
  cap : n ≤ c
  max : c ≤ 9223372036854775807
  nil : a = none → c = 0
  at' : ∀ i x, xs[i]? = some x → ∃ b o cs, a = some ⟨b, o, none⟩ ∧ F b ∧ cs.length = sz ∧ w.rangeAt b (o + i * sz) cs ∧ El w F cs x

theorem rangeAt_kept {G : Nat → Prop} {w w' : World} {b o : Nat} {cs : List Value} (h : w.rangeAt b o cs) (k : Kept G w w') (hb : ¬ G b) : w'.rangeAt b o cs :=
  fun j v hv => k.cell (h j v hv) hb
theorem Ls.kept {α : Type} {sz : Nat} {El : World → (Nat → Prop) → List Value → α → Prop} {w w' : World} {F G : Nat → Prop} {a : Option Addr} {n c : Nat} {xs : List α}
    (h : Ls sz El w F a n c xs) (k : Kept G w w') (hd : ∀ b, F b → ¬ G b) (he : ∀ cs x, El w F cs x → El w' F cs x) : Ls sz El w' F a n c xs :=
  ⟨h.len, h.cap, h.max, h.nil, fun i x hx => by obtain ⟨b, o, cs, e, hb, hl, hr, hE⟩ := h.at' i x hx; exact ⟨b, o, cs, e, hb, hl, rangeAt_kept hr k (hd b hb), he cs x hE⟩⟩
theorem Ls.mono {α : Type} {sz : Nat} {El : World → (Nat → Prop) → List Value → α → Prop} {w : World} {F G : Nat → Prop} {a : Option Addr} {n c : Nat} {xs : List α}
    (h : Ls sz El w F a n c xs) (hF : ∀ k, F k → G k) (he : ∀ cs x, El w F cs x → El w G cs x) : Ls sz El w G a n c xs :=
  ⟨h.len, h.cap, h.max, h.nil, fun i x hx => by obtain ⟨b, o, cs, e, hb, hl, hr, hE⟩ := h.at' i x hx; exact ⟨b, o, cs, e, hF b hb, hl, hr, he cs x hE⟩⟩
theorem Ls.all {α : Type} {sz : Nat} {El : World → (Nat → Prop) → List Value → α → Prop} {w : World} {F : Nat → Prop} {a : Option Addr} {n c : Nat} {xs : List α}
    (h : Ls sz El w F a n c xs) {ok : α → Prop} (he : ∀ cs x, El w F cs x → ok x) : okL ok xs := by
  intro x hx
  obtain ⟨i, hi⟩ := List.getElem?_of_mem hx
  obtain ⟨b, o, cs, e, hb, hl, hr, hE⟩ := h.at' i x hi
  exact he cs x hE

/-! ### what an element's cells are -/
def elI (w : World) (F : Nat → Prop) (cs : List Value) (x : Int) : Prop := cs = [.int .i64 x] ∧ I6 x
def elB (w : World) (F : Nat → Prop) (cs : List Value) (x : Bool) : Prop := cs = [.bool x]
def elIns (w : World) (F : Nat → Prop) (cs : List Value) (x : Ins) : Prop := cs = [.int .u8 x.op, .int .u8 x.a, .int .u8 x.b, .int .u8 x.c, .int .i32 x.imm] ∧ okIns x
def elPrc (w : World) (F : Nat → Prop) (cs : List Value) (x : Prc) : Prop := cs = [.int .i64 x.en, .int .i64 x.pr, .int .i64 x.pe, .int .i64 x.li, .int .i64 x.ca, .bool x.auto] ∧ okPrc x
def elSm (w : World) (F : Nat → Prop) (cs : List Value) (x : Sm) : Prop := cs = [.int .i64 x.st, .int .i64 x.mx] ∧ okSm x
def elBf (w : World) (F : Nat → Prop) (cs : List Value) (x : Bf) : Prop := cs = [.int .i64 x.sz, .int .i64 x.dp] ∧ okBf x
def elPo (w : World) (F : Nat → Prop) (cs : List Value) (x : Po) : Prop := cs = [.int .i64 x.pt, .int .i64 x.kd, .bool x.out, .int .i64 x.sz, .int .i64 x.dp, .int .i64 x.rf] ∧ okPo x
/-- a channel; its list -/
structure elCh (w : World) (F : Nat → Prop) (cs : List Value) (x : Ch) : Prop where
  sl : ∃ a n c, cs = [.int .i64 x.kd, .int .i64 x.fr, .slice a n c, .int .i64 x.ph, .int .i64 x.pe] ∧ Ls 1 elI w F a n c x.dst
  ok : okCh x
/-- a partition; its lists -/
structure elPn (w : World) (F : Nat → Prop) (cs : List Value) (x : Pn) : Prop where
  sl : ∃ a0 n0 c0 a1 n1 c1 a2 n2 c2 a3 n3 c3 a4 n4 c4 a5 n5 c5, cs = [.int .i64 x.pe, .int .i64 x.bu, .int .i64 x.off, .int .i64 x.pr, .int .i64 x.wo, .int .i64 x.fi, .slice a0 n0 c0, .slice a1 n1 c1, .slice a2 n2 c2, .int .i64 x.ha, .int .i64 x.h0, .int .i64 x.h1, .int .i64 x.h2, .int .i64 x.h3, .int .i64 x.h4, .int .i64 x.h5, .int .i64 x.h6, .int .i64 x.h7, .slice a3 n3 c3, .slice a4 n4 c4, .slice a5 n5 c5] ∧
    Ls 1 elI w F a0 n0 c0 x.init ∧ Ls 5 elIns w F a1 n1 c1 x.code ∧ Ls 6 elPrc w F a2 n2 c2 x.procs ∧ Ls 2 elSm w F a3 n3 c3 x.sems ∧ Ls 1 elB w F a4 n4 c4 x.evs ∧ Ls 2 elBf w F a5 n5 c5 x.bufs
  ok : okPn x

theorem elI_kept {G : Nat → Prop} {w w' : World} {F : Nat → Prop} (k : Kept G w w') (hd : ∀ b, F b → ¬ G b) : ∀ cs x, elI w F cs x → elI w' F cs x := fun _ _ h => h
theorem elB_kept {G : Nat → Prop} {w w' : World} {F : Nat → Prop} (k : Kept G w w') (hd : ∀ b, F b → ¬ G b) : ∀ cs x, elB w F cs x → elB w' F cs x := fun _ _ h => h
theorem elIns_kept {G : Nat → Prop} {w w' : World} {F : Nat → Prop} (k : Kept G w w') (hd : ∀ b, F b → ¬ G b) : ∀ cs x, elIns w F cs x → elIns w' F cs x := fun _ _ h => h
theorem elPrc_kept {G : Nat → Prop} {w w' : World} {F : Nat → Prop} (k : Kept G w w') (hd : ∀ b, F b → ¬ G b) : ∀ cs x, elPrc w F cs x → elPrc w' F cs x := fun _ _ h => h
theorem elSm_kept {G : Nat → Prop} {w w' : World} {F : Nat → Prop} (k : Kept G w w') (hd : ∀ b, F b → ¬ G b) : ∀ cs x, elSm w F cs x → elSm w' F cs x := fun _ _ h => h
theorem elBf_kept {G : Nat → Prop} {w w' : World} {F : Nat → Prop} (k : Kept G w w') (hd : ∀ b, F b → ¬ G b) : ∀ cs x, elBf w F cs x → elBf w' F cs x := fun _ _ h => h
theorem elPo_kept {G : Nat → Prop} {w w' : World} {F : Nat → Prop} (k : Kept G w w') (hd : ∀ b, F b → ¬ G b) : ∀ cs x, elPo w F cs x → elPo w' F cs x := fun _ _ h => h
theorem elCh_kept {G : Nat → Prop} {w w' : World} {F : Nat → Prop} (k : Kept G w w') (hd : ∀ b, F b → ¬ G b) : ∀ cs x, elCh w F cs x → elCh w' F cs x := fun cs x h => by
  obtain ⟨⟨a, n, c, e, h1⟩, ho⟩ := h
  exact ⟨⟨a, n, c, e, h1.kept k hd (elI_kept k hd)⟩, ho⟩
theorem elPn_kept {G : Nat → Prop} {w w' : World} {F : Nat → Prop} (k : Kept G w w') (hd : ∀ b, F b → ¬ G b) : ∀ cs x, elPn w F cs x → elPn w' F cs x := fun cs x h => by
  obtain ⟨⟨a0, n0, c0, a1, n1, c1, a2, n2, c2, a3, n3, c3, a4, n4, c4, a5, n5, c5, e, h0, h1, h2, h3, h4, h5⟩, ho⟩ := h
  exact ⟨⟨a0, n0, c0, a1, n1, c1, a2, n2, c2, a3, n3, c3, a4, n4, c4, a5, n5, c5, e, h0.kept k hd (elI_kept k hd), h1.kept k hd (elIns_kept k hd), h2.kept k hd (elPrc_kept k hd), h3.kept k hd (elSm_kept k hd), h4.kept k hd (elB_kept k hd), h5.kept k hd (elBf_kept k hd)⟩, ho⟩
theorem elCh_mono {w : World} {F G : Nat → Prop} (hF : ∀ k, F k → G k) : ∀ cs x, elCh w F cs x → elCh w G cs x := fun cs x h => by
  obtain ⟨⟨a, n, c, e, h1⟩, ho⟩ := h
  exact ⟨⟨a, n, c, e, h1.mono hF (fun _ _ h => h)⟩, ho⟩
theorem elPn_mono {w : World} {F G : Nat → Prop} (hF : ∀ k, F k → G k) : ∀ cs x, elPn w F cs x → elPn w G cs x := fun cs x h => by
  obtain ⟨⟨a0, n0, c0, a1, n1, c1, a2, n2, c2, a3, n3, c3, a4, n4, c4, a5, n5, c5, e, h0, h1, h2, h3, h4, h5⟩, ho⟩ := h
  exact ⟨⟨a0, n0, c0, a1, n1, c1, a2, n2, c2, a3, n3, c3, a4, n4, c4, a5, n5, c5, e, h0.mono hF (fun _ _ h => h), h1.mono hF (fun _ _ h => h), h2.mono hF (fun _ _ h => h), h3.mono hF (fun _ _ h => h), h4.mono hF (fun _ _ h => h), h5.mono hF (fun _ _ h => h)⟩, ho⟩

/-- an image that is read -/
structure Img (w : World) (F : Nat → Prop) (a0 : Option Addr) (n0 c0 : Nat) (a1 : Option Addr) (n1 c1 : Nat) (a2 : Option Addr) (n2 c2 : Nat) (x : Im) : Prop where
  ps : Ls 21 elPn w F a0 n0 c0 x.parts
  qs : Ls 6 elPo w F a1 n1 c1 x.ports
  cs : Ls 5 elCh w F a2 n2 c2 x.chans
theorem Img.kept {w w' : World} {F G : Nat → Prop} {a0 : Option Addr} {n0 c0 : Nat} {a1 : Option Addr} {n1 c1 : Nat} {a2 : Option Addr} {n2 c2 : Nat} {x : Im} (h : Img w F a0 n0 c0 a1 n1 c1 a2 n2 c2 x) (k : Kept G w w') (hd : ∀ b, F b → ¬ G b) : Img w' F a0 n0 c0 a1 n1 c1 a2 n2 c2 x :=
  ⟨h.ps.kept k hd (elPn_kept k hd), h.qs.kept k hd (elPo_kept k hd), h.cs.kept k hd (elCh_kept k hd)⟩
theorem Img.mono {w : World} {F G : Nat → Prop} {a0 : Option Addr} {n0 c0 : Nat} {a1 : Option Addr} {n1 c1 : Nat} {a2 : Option Addr} {n2 c2 : Nat} {x : Im} (h : Img w F a0 n0 c0 a1 n1 c1 a2 n2 c2 x) (hF : ∀ k, F k → G k) : Img w G a0 n0 c0 a1 n1 c1 a2 n2 c2 x :=
  ⟨h.ps.mono hF (elPn_mono hF), h.qs.mono hF (fun _ _ h => h), h.cs.mono hF (elCh_mono hF)⟩
theorem Img.ok {w : World} {F : Nat → Prop} {a0 : Option Addr} {n0 c0 : Nat} {a1 : Option Addr} {n1 c1 : Nat} {a2 : Option Addr} {n2 c2 : Nat} {x : Im} (h : Img w F a0 n0 c0 a1 n1 c1 a2 n2 c2 x) : okIm x :=
  ⟨h.ps.all (fun _ _ h => h.ok), h.qs.all (fun _ _ h => h.2), h.cs.all (fun _ _ h => h.ok)⟩

end Go.Proofs.YtggejpccjmolhaaGreatDoor
