/-
  read: an image and where its sections begin; Decode; Sections.
-/
import Derived.Test.YtolmhoenjcinjaaGreatIRst
import Derived.Deep.DeepCutAuto
namespace Go.Proofs.YtolmhoenjcinjaaGreat
open Go.RowKit
set_option linter.unusedVariables false
set_option maxRecDepth 100000

theorem results_c3 {fn : Func} {p u x : Tmp} {ty : TypeId} (h : fn.results = #[.cell p ty, .tmp u, .tmp x]) (tmps : Array Value) (P : Program) (w : World) :
    (results fn tmps).run P w =
      ((asAddr (tmps.getD p undef)).run P w).andThen fun a w₁ => ((loadVar ty a).run P w₁).andThen fun v w₂ => .ok (.tuple #[v, tmps.getD u undef, tmps.getD x undef]) w₂ := by
  simp only [results, h]
  simp [Sem.run_bind, Result.andThen]
theorem sizeIm : (Tryz.prog.info? 26).map (·.size) = some 3 := by kernel_rfl
theorem ldIm {w : World} {b : Nat} {v0 v1 v2 : Value} (h : Bk w b [v0, v1, v2] 26) : (loadVar 26 ⟨b, 0, none⟩).run Tryz.prog w = .ok (.agg #[v0, v1, v2]) w :=
  run_loadVar_mid w b 0 _ [v0, v1, v2] _ (fun j v hv => by rw [Nat.zero_add]; exact h.cell hv) Tryz.underlying26 rfl sizeIm
theorem set3 {w : World} {b : Nat} {t : TypeId} {u0 u1 u2 : Value} (h : Bk w b [u0, u1, u2] t) (v0 v1 v2 : Value) : Bk (((w.setCell ⟨b, 0, none⟩ v0).setCell ⟨b, 1, none⟩ v1).setCell ⟨b, 2, none⟩ v2) b [v0, v1, v2] t := ((h.set 0 v0).set 1 v1).set 2 v2
theorem setK3 (w : World) (b : Nat) (v0 v1 v2 : Value) : Kept (fun k => k = b) w (((w.setCell ⟨b, 0, none⟩ v0).setCell ⟨b, 1, none⟩ v1).setCell ⟨b, 2, none⟩ v2) := (((Kept.refl (fun k => k = b) w).setCell (p := ⟨b, 0, none⟩) (.inl rfl) _).setCell (p := ⟨b, 1, none⟩) (.inl rfl) _).setCell (p := ⟨b, 2, none⟩) (.inl rfl) _

/-- what 'read' answers -/
def Rans (w : World) (bs : List Nat) (ex : Ending) (w' : World) : Prop :=
  Kept No w w' ∧ ((imgOf bs = none ∧ ex = .returned (.tuple #[.agg #[.slice none 0 0, .slice none 0 0, .slice none 0 0], .slice none 0 0, .int .i64 (rdErr bs)])) ∨
    ∃ x a0 n0 c0 a1 n1 c1 a2 n2 c2 pa pn pc, imgOf bs = some x ∧ ex = .returned (.tuple #[.agg #[.slice a0 n0 c0, .slice a1 n1 c1, .slice a2 n2 c2], .slice pa pn pc, .int .i64 0]) ∧
      OwPn w' w.heap.size (.slice a0 n0 c0) x.parts ∧ OwPo w' w.heap.size (.slice a1 n1 c1) x.ports ∧ OwCh w' w.heap.size (.slice a2 n2 c2) x.chans ∧ w'.ownsRow w.heap.size 3 1 (.slice pa pn pc) (places x).length ((places x).map iv))

theorem read_long (a : Option Addr) (n c : Nat) (bs : List Nat) (w : World) (hl : bs.length = n) (hn : 1048576 < n) (hm : n ≤ 9223372036854775807) :
    Calls Tryz.prog 27 #[.slice a n c] w (Rans w bs) := by
  have hgt : (1048576 : Int) < (n : Int) := by omega
  have HA : Hid (imgOf bs = none ∧ rdErr bs = 1) := ⟨by unfold imgOf; rw [if_neg (by omega)], by unfold rdErr; rw [if_pos (by omega)]⟩
  have hb : Bk (w.alloc (.cells #[.slice none 0 0, .slice none 0 0, .slice none 0 0] 26)) w.heap.size [.slice none 0 0, .slice none 0 0, .slice none 0 0] 26 := heap_alloc_new w _
  have HB := hb
  have HK : Hid (Kept No w (w.alloc (.cells #[.slice none 0 0, .slice none 0 0, .slice none 0 0] 26))) := (Kept.refl No w).alloc _
  have HBH : Hid (Bk (w.alloc (.cells #[.slice none 0 0, .slice none 0 0, .slice none 0 0] 26)) w.heap.size [.slice none 0 0, .slice none 0 0, .slice none 0 0] 26) := hb
  clear hb HB hl
  go_enter Tryz.func27, Tryz.ntmps27
  go_upto_region 1 with fail
  generalize w.alloc (.cells #[.slice none 0 0, .slice none 0 0, .slice none 0 0] 26) = w0 at *
  have p0 := HBH.out.cell (j := 0) rfl
  have p1 := HBH.out.cell (j := 1) rfl
  have p2 := HBH.out.cell (j := 2) rfl
  have f0 := HBH.out.fz 0
  have f1 := HBH.out.fz 1
  have f2 := HBH.out.fz 2
  go_wp2
  have hld := ldIm (set3 HBH.out (.slice none 0 0) (.slice none 0 0) (.slice none 0 0))
  refine bodyPost_ret (v := .tuple #[.agg #[.slice none 0 0, .slice none 0 0, .slice none 0 0], .slice none 0 0, .int .i64 1]) ?_ rfl ?_
  · rw [results_c3 rfl]
    simp [asAddr, Result.andThen, hld]
  · refine ⟨HK.out.trans (setK3 w0 w.heap.size _ _ _) (fun k e => .inr (by omega)), .inl ⟨HA.out.1, ?_⟩⟩
    rw [HA.out.2]

set_option maxHeartbeats 16000000 in
theorem read_short (G : Nat → Prop) (a : Option Addr) (n c : Nat) (bs : List Nat) (w : World) (h : Bs w G a n c bs) (hn : n ≤ 1048576) :
    Calls Tryz.prog 27 #[.slice a n c] w (Rans w bs) := by
  have hl := h.len
  have hlt := h.lt
  have HL : Hid (bs.length = n) := hl
  have HLT : Hid (∀ b ∈ bs, b < 256) := hlt
  have hgt : ¬ ((1048576 : Int) < (n : Int)) := by omega
  have hk0 : Kept No w (w.alloc (.cells #[.slice none 0 0, .slice none 0 0, .slice none 0 0] 26)) := (Kept.refl No w).alloc _
  have HK : Hid (Kept No w (w.alloc (.cells #[.slice none 0 0, .slice none 0 0, .slice none 0 0] 26))) := hk0
  have HBH : Hid (Bk (w.alloc (.cells #[.slice none 0 0, .slice none 0 0, .slice none 0 0] 26)) w.heap.size [.slice none 0 0, .slice none 0 0, .slice none 0 0] 26) := heap_alloc_new w _
  have HBS : Hid (Bs (w.alloc (.cells #[.slice none 0 0, .slice none 0 0, .slice none 0 0] 26)) G a n c bs) := h.kept hk0 (fun _ _ h => h)
  have HERR : Hid (rdErr bs = 20) := by show rdErr bs = 20; unfold rdErr; rw [if_neg (by omega)]
  have hunl : unsOk 1 bs = true ∨ unsOk 1 bs = false := by cases unsOk 1 bs <;> simp
  clear h hk0 hl hlt
  go_enter Tryz.func27, Tryz.ntmps27
  go_upto_region 1 with fail
  generalize w.alloc (.cells #[.slice none 0 0, .slice none 0 0, .slice none 0 0] 26) = w0 at *
  have cu := unseal_any G 1 a n c bs w0 (by decide) HBS.out
  rcases hunl with hu | hu
  · -- the seal is right
    have e1 : unsX 1 bs = inner bs := by unfold unsX; rw [hu]; rfl
    have e2 : unsE 1 bs = 0 := by unfold unsE; rw [if_neg (by rw [HL.out]; omega), hu]; rfl
    have hinl : (inner bs).length ≤ 1048576 := by unfold inner; rw [List.length_take, List.length_drop, HL.out]; omega
    have hinb : ∀ b ∈ inner bs, b < 256 := fun b hm => HLT.out b (List.mem_of_mem_drop (List.mem_of_mem_take hm))
    rw [e1, e2] at cu
    have HIMG : Hid (imgOf bs = match decIm (inner bs) with
      | some (x, []) => some x
      | _ => none) := by
      show imgOf bs = _
      unfold imgOf
      rw [if_pos ⟨by rw [HL.out]; omega, hu⟩]
      rfl
    obtain ⟨body, hbody⟩ : ∃ body, body = inner bs := ⟨_, rfl⟩
    rw [← hbody] at cu hinl hinb HIMG
    have HIB : Hid (∀ b ∈ body, b < 256) := hinb
    clear e1 e2 hu hbody hinb
    go_upto_region 3 with fail
    go_upto_region 4 with (go_at_call 63; refine cu.mono ?_; rintro ex w1 ⟨da, dn, dc, rfl, hown1, hbl1⟩)
    obtain ⟨da', dc', hsl, hbs1⟩ := Bs.of_owns hown1 HIB.out
    have hdn : dn = body.length := by injection hsl
    obtain ⟨rfl, rfl⟩ : da = da' ∧ dc = dc' := by injection hsl with h1 h2 h3; exact ⟨h1, h3⟩
    have HDN : Hid (dn = body.length) := hdn
    have hbs2 : Bs (w1.alloc (.cells #[.slice da dn dc] 27)) (fun g => (Value.slice da dn dc).ownBlock = some g) da dn dc body := by rw [hdn]; rw [hdn] at hbs1; exact hbs1.kept ((Kept.refl No w1).alloc _) (fun _ _ h => h)
    have hdnb : dn ≤ 1048576 := by rw [hdn]; exact hinl
    have cn := newReader_any _ da dn dc body _ hbs2 (by omega)
    have HKB : Hid (Kept No w0 (w1.alloc (.cells #[.slice da dn dc] 27)) ∧ Bk (w1.alloc (.cells #[.slice da dn dc] 27)) w1.heap.size [.slice da dn dc] 27 ∧ w0.heap.size ≤ w1.heap.size) := ⟨(Kept.of_below hbl1).alloc _, heap_alloc_new w1 _, hbl1.size⟩
    have HSB : Hid (w1.heap.size < (w1.alloc (.cells #[.slice da dn dc] 27)).heap.size) := by show w1.heap.size < _; simp
    clear hown1 hbl1 hsl hbs1 hdn hbs2 cu
    generalize w1.alloc (.cells #[.slice da dn dc] 27) = w2 at *
    have q5 := HKB.out.2.1.cell (j := 0) rfl
    go_upto_region 6 with fail
    go_upto_region 7 with (go_at_call 64; refine cn.mono ?_; rintro ex w3 ⟨p, rfl, hrd3, hbl3⟩)
    have hfp3 : w2.heap.size ≤ p ∧ p < w3.heap.size := by obtain ⟨ra, rn, rc, hv⟩ := hrd3; exact hv.fp
    have HR3 : Hid (Rd w3 (fun k => w2.heap.size ≤ k ∧ k < w3.heap.size) p body 0 ∧ Below w2.heap.size w2 w3 ∧ (w2.heap.size ≤ p ∧ p < w3.heap.size)) := ⟨hrd3, hbl3, hfp3⟩
    clear hrd3 hbl3 hfp3 cn q5
    go_upto_region 10 with fail
    -- all the cells
    have RS : ∃ b8 b10 w5, b8 = w3.heap.size + 1 ∧ b10 = w3.heap.size + 1 + 1 ∧ w5 = (((w3.alloc (.cells #[.pointer (some ⟨p, 0, none⟩)] 115)).alloc (.cells #[.slice none 0 0] 39)).alloc (.cells #[.slice none 0 0, .slice none 0 0, .slice none 0 0] 26)) ∧ Rst w (fun k => w2.heap.size ≤ k ∧ k < w3.heap.size) p w1.heap.size w3.heap.size b8 b10 da dn dc (body, 0) (.slice none 0 0) [] [.slice none 0 0, .slice none 0 0, .slice none 0 0] w5 := by
      have k3 : Kept No w2 w3 := Kept.of_below HR3.out.2.1
      have k5 : Kept No w3 (((w3.alloc (.cells #[.pointer (some ⟨p, 0, none⟩)] 115)).alloc (.cells #[.slice none 0 0] 39)).alloc (.cells #[.slice none 0 0, .slice none 0 0, .slice none 0 0] 26)) := (((Kept.refl No w3).alloc _).alloc _).alloc _
      have b0 := HBH.out.lt
      have s3 := HR3.out.2.1.size
      refine ⟨_, _, _, rfl, rfl, rfl, ⟨((HBH.out.kept HKB.out.1 (fun h => h)).kept k3 (fun h => h)).kept k5 (fun h => h), (HKB.out.2.1.kept k3 (fun h => h)).kept k5 (fun h => h), ?_, ?_, ?_, HR3.out.1.kept k5 (fun _ _ h => h), World.ownsRow_nil _ _ _ _, fun g hg => by simp [Value.ownBlock] at hg, ((HK.out.trans HKB.out.1 (fun _ h => h.elim)).trans k3 (fun _ h => h.elim)).trans k5 (fun _ h => h.elim), fun k hk => ⟨Nat.lt_of_lt_of_le HSB.out hk.1, hk.2⟩, HR3.out.2.2, ?_⟩⟩
      · show _ = _
        rw [heap_alloc_old _ _ (by simp; omega), heap_alloc_old _ _ (by simp)]
        exact heap_alloc_new w3 _
      · show _ = _
        rw [heap_alloc_old _ _ (by simp)]
        exact heap_alloc2_new w3 _ _
      · have h := heap_alloc2_new (w3.alloc (.cells #[.pointer (some ⟨p, 0, none⟩)] 115)) (.cells #[.slice none 0 0] 39) (.cells #[.slice none 0 0, .slice none 0 0, .slice none 0 0] 26)
        rw [size_alloc] at h
        exact h
      · have h1 := HKB.out.2.2
        have h2 := HSB.out
        exact ⟨by omega, by omega, by omega, by omega⟩
    obtain ⟨b8, b10, w5, h8, h10, h5, rs0⟩ := RS
    rw [← h5, ← h10, ← h8]
    have R0 : Hid (Rst w (fun k => w2.heap.size ≤ k ∧ k < w3.heap.size) p w1.heap.size w3.heap.size b8 b10 da dn dc (body, 0) (.slice none 0 0) [] [.slice none 0 0, .slice none 0 0, .slice none 0 0] w5) := rs0
    clear h8 h10 h5 rs0 HR3 HKB HSB HBH HK
    obtain ⟨F, hF⟩ : ∃ F : Nat → Prop, F = (fun k => w2.heap.size ≤ k ∧ k < w3.heap.size) := ⟨_, rfl⟩
    rw [← hF] at R0
    clear hF
    obtain ⟨b5, hb5⟩ : ∃ b5, b5 = w1.heap.size := ⟨_, rfl⟩
    obtain ⟨b7, hb7⟩ : ∃ b7, b7 = w3.heap.size := ⟨_, rfl⟩
    rw [← hb5, ← hb7] at R0 ⊢
    clear hb5 hb7
    have HPS : Hid (w.heap.size ≤ w5.heap.size) := R0.out.kp.size
    -- where the partitions begin
    have cm := mark_any F p b8 b5 b7 w.heap.size body 0 da dn dc (.slice none 0 0) [] w5 R0.out.rd R0.out.r8 R0.out.r5 R0.out.r7 R0.out.own HPS.out (by simp) hdnb (by rw [HDN.out]; exact Nat.le_refl _) (by simp [Value.ownBlock]) (by have := R0.out.ord; omega) (by have := R0.out.ord; omega)
    go_upto_region 11 with (go_at_call 65; refine cm.mono ?_; rintro ex w6 ⟨rfl, pv1, m8, mo, mk, ma⟩)
    have R1 : Hid (Rst w F p b5 b7 b8 b10 da dn dc (body, 0) (pv1) ([] ++ [8 + (dn : Int) - body.length]) [.slice none 0 0, .slice none 0 0, .slice none 0 0] w6) := R0.out.marked m8 mo mk ma
    clear cm m8 mo mk ma R0 HPS
    have q7 := R1.out.r7.cell (j := 0) rfl
    have cp := gets_Pn F p (body, (0 : Int)).1 (body, (0 : Int)).2 w6 R1.out.rd hinl
    go_upto_region 12 with (go_at_call 67; refine cp.mono ?_; rintro ex v6 ⟨ux, lx, sx, rfl, hox, hgx, hdx⟩; obtain ⟨ax, nx, cx, hux⟩ := hox.slice; subst hux; have Gx : Hid (Rst w F p b5 b7 b8 b10 da dn dc sx (pv1) ([] ++ [8 + (dn : Int) - body.length]) [.slice none 0 0, .slice none 0 0, .slice none 0 0] v6) := R1.out.did hdx; have Dx : Hid (Kept (fun k => k = p) w6 v6) := hdx.2; have HOx : Hid (OwPn v6 w6.heap.size (.slice ax nx cx) lx) := hox; have HGx : Hid (Got (decL decPn) (body, (0 : Int)) lx sx) := hgx; have qc := Gx.out.r10.cell (j := 0) rfl; have zc := Gx.out.r10.fz 0; clear hox hgx hdx)
    have Sx : Hid (Rst w F p b5 b7 b8 b10 da dn dc sx (pv1) ([] ++ [8 + (dn : Int) - body.length]) [.slice ax nx cx, .slice none 0 0, .slice none 0 0] (v6.setCell ⟨b10, 0, none⟩ (.slice ax nx cx))) := Gx.out.set 0 _
    have KSx : Hid (Kept (fun k => k = b10) v6 (v6.setCell ⟨b10, 0, none⟩ (.slice ax nx cx))) := (Kept.refl (fun k => k = b10) v6).setCell (p := ⟨b10, 0, none⟩) (.inl rfl) _
    generalize v6.setCell ⟨b10, 0, none⟩ (.slice ax nx cx) = w7 at *
    clear cp q7 qc zc
    have HLX : Hid (sx.1.length ≤ body.length) := HGx.out.len
    have OX : Hid (OwPn w7 w6.heap.size (.slice ax nx cx) lx) := HOx.out.kept KSx.out (fun g hg e => by have := R1.out.r10.lt; omega)
    have HB6 : Hid (w.heap.size ≤ w6.heap.size ∧ b10 < w6.heap.size) := ⟨R1.out.kp.size, R1.out.r10.lt⟩
    clear HOx Gx KSx Dx R1
    -- where the ports begin
    have cm := mark_any F p b8 b5 b7 w.heap.size sx.1 sx.2 da dn dc pv1 ([] ++ [8 + (dn : Int) - body.length]) w7 Sx.out.rd Sx.out.r8 Sx.out.r5 Sx.out.r7 Sx.out.own Sx.out.kp.size (by simp) hdnb (by rw [HDN.out]; exact HLX.out) (own_bk Sx.out.own Sx.out.r8 (by decide)) (by have := Sx.out.ord; omega) (by have := Sx.out.ord; omega)
    go_upto_region 13 with (go_at_call 65; refine cm.mono ?_; rintro ex w8 ⟨rfl, pv2, m8, mo, mk, ma⟩)
    have R2 : Hid (Rst w F p b5 b7 b8 b10 da dn dc sx (pv2) (([] ++ [8 + (dn : Int) - body.length]) ++ [8 + (dn : Int) - sx.1.length]) [.slice ax nx cx, .slice none 0 0, .slice none 0 0] w8) := Sx.out.marked m8 mo mk ma
    have OX2 : Hid (OwPn w8 w6.heap.size (.slice ax nx cx) lx) := OX.out.keptZ Sx.out.own mk (by have := Sx.out.ord; have := HB6.out; omega)
    have HW78 : Hid (w7.heap.size ≤ w8.heap.size) := mk.size
    clear cm m8 mo mk ma OX Sx
    have q7 := R2.out.r7.cell (j := 0) rfl
    have cp := gets_Po F p sx.1 sx.2 w8 R2.out.rd (Nat.le_trans HLX.out hinl)
    go_upto_region 14 with (go_at_call 68; refine cp.mono ?_; rintro ex v8 ⟨uq, lq, sq, rfl, hoq, hgq, hdq⟩; obtain ⟨aq, nq, cq, huq⟩ := own_slice hoq.1; subst huq; have Gq : Hid (Rst w F p b5 b7 b8 b10 da dn dc sq (pv2) (([] ++ [8 + (dn : Int) - body.length]) ++ [8 + (dn : Int) - sx.1.length]) [.slice ax nx cx, .slice none 0 0, .slice none 0 0] v8) := R2.out.did hdq; have Dq : Hid (Kept (fun k => k = p) w8 v8) := hdq.2; have HOq : Hid (OwPo v8 w8.heap.size (.slice aq nq cq) lq) := hoq; have HGq : Hid (Got (decL decPo) sx lq sq) := hgq; have qc := Gq.out.r10.cell (j := 1) rfl; have zc := Gq.out.r10.fz 1; clear hoq hgq hdq)
    have Sq : Hid (Rst w F p b5 b7 b8 b10 da dn dc sq (pv2) (([] ++ [8 + (dn : Int) - body.length]) ++ [8 + (dn : Int) - sx.1.length]) [.slice ax nx cx, .slice aq nq cq, .slice none 0 0] (v8.setCell ⟨b10, 1, none⟩ (.slice aq nq cq))) := Gq.out.set 1 _
    have KSq : Hid (Kept (fun k => k = b10) v8 (v8.setCell ⟨b10, 1, none⟩ (.slice aq nq cq))) := (Kept.refl (fun k => k = b10) v8).setCell (p := ⟨b10, 1, none⟩) (.inl rfl) _
    generalize v8.setCell ⟨b10, 1, none⟩ (.slice aq nq cq) = w9 at *
    clear cp q7 qc zc
    have HLQ : Hid (sq.1.length ≤ body.length) := Nat.le_trans HGq.out.len HLX.out
    have OX3 : Hid (OwPn w9 w6.heap.size (.slice ax nx cx) lx) := (OX2.out.kept Dq.out (fun g hg e => by have h1 := Gq.out.fl p Gq.out.fp; have h2 := Gq.out.ord; have h3 := HB6.out; omega)).kept KSq.out (fun g hg e => by have := HB6.out; omega)
    have OQ : Hid (OwPo w9 w8.heap.size (.slice aq nq cq) lq) := HOq.out.kept KSq.out (fun g hg e => by have := R2.out.r10.lt; omega)
    have HB8 : Hid (w.heap.size ≤ w8.heap.size ∧ b10 < w8.heap.size) := ⟨R2.out.kp.size, R2.out.r10.lt⟩
    clear HOq Gq KSq Dq R2 OX2
    -- where the channels begin
    have cm := mark_any F p b8 b5 b7 w.heap.size sq.1 sq.2 da dn dc pv2 (([] ++ [8 + (dn : Int) - body.length]) ++ [8 + (dn : Int) - sx.1.length]) w9 Sq.out.rd Sq.out.r8 Sq.out.r5 Sq.out.r7 Sq.out.own Sq.out.kp.size (by simp) hdnb (by rw [HDN.out]; exact HLQ.out) (own_bk Sq.out.own Sq.out.r8 (by decide)) (by have := Sq.out.ord; omega) (by have := Sq.out.ord; omega)
    go_upto_region 15 with (go_at_call 65; refine cm.mono ?_; rintro ex w10 ⟨rfl, pv3, m8, mo, mk, ma⟩)
    have R3 : Hid (Rst w F p b5 b7 b8 b10 da dn dc sq (pv3) ((([] ++ [8 + (dn : Int) - body.length]) ++ [8 + (dn : Int) - sx.1.length]) ++ [8 + (dn : Int) - sq.1.length]) [.slice ax nx cx, .slice aq nq cq, .slice none 0 0] w10) := Sq.out.marked m8 mo mk ma
    have OX4 : Hid (OwPn w10 w6.heap.size (.slice ax nx cx) lx) := OX3.out.keptZ Sq.out.own mk (by have := Sq.out.ord; have := HB6.out; omega)
    have OQ4 : Hid (OwPo w10 w8.heap.size (.slice aq nq cq) lq) := OQ.out.keptZ Sq.out.own mk (by have := Sq.out.ord; have := HB8.out; omega)
    clear cm m8 mo mk ma OX3 OQ Sq
    have q7 := R3.out.r7.cell (j := 0) rfl
    have cp := gets_Ch F p sq.1 sq.2 w10 R3.out.rd (Nat.le_trans HLQ.out hinl)
    go_upto_region 16 with (go_at_call 69; refine cp.mono ?_; rintro ex v10 ⟨uh, lh, sh, rfl, hoh, hgh, hdh⟩; obtain ⟨ah, nh, ch, huh⟩ := hoh.slice; subst huh; have Gh : Hid (Rst w F p b5 b7 b8 b10 da dn dc sh (pv3) ((([] ++ [8 + (dn : Int) - body.length]) ++ [8 + (dn : Int) - sx.1.length]) ++ [8 + (dn : Int) - sq.1.length]) [.slice ax nx cx, .slice aq nq cq, .slice none 0 0] v10) := R3.out.did hdh; have Dh : Hid (Kept (fun k => k = p) w10 v10) := hdh.2; have HOh : Hid (OwCh v10 w10.heap.size (.slice ah nh ch) lh) := hoh; have HGh : Hid (Got (decL decCh) sq lh sh) := hgh; have qc := Gh.out.r10.cell (j := 2) rfl; have zc := Gh.out.r10.fz 2; clear hoh hgh hdh)
    have Sh : Hid (Rst w F p b5 b7 b8 b10 da dn dc sh (pv3) ((([] ++ [8 + (dn : Int) - body.length]) ++ [8 + (dn : Int) - sx.1.length]) ++ [8 + (dn : Int) - sq.1.length]) [.slice ax nx cx, .slice aq nq cq, .slice ah nh ch] (v10.setCell ⟨b10, 2, none⟩ (.slice ah nh ch))) := Gh.out.set 2 _
    have KSh : Hid (Kept (fun k => k = b10) v10 (v10.setCell ⟨b10, 2, none⟩ (.slice ah nh ch))) := (Kept.refl (fun k => k = b10) v10).setCell (p := ⟨b10, 2, none⟩) (.inl rfl) _
    generalize v10.setCell ⟨b10, 2, none⟩ (.slice ah nh ch) = w11 at *
    clear cp q7 qc zc
    have OX5 : Hid (OwPn w11 w6.heap.size (.slice ax nx cx) lx) := (OX4.out.kept Dh.out (fun g hg e => by have h1 := Gh.out.fl p Gh.out.fp; have h2 := Gh.out.ord; have h3 := HB6.out; omega)).kept KSh.out (fun g hg e => by have := HB6.out; omega)
    have OQ5 : Hid (OwPo w11 w8.heap.size (.slice aq nq cq) lq) := (OQ4.out.kept Dh.out (fun g hg e => by have h1 := Gh.out.fl p Gh.out.fp; have h2 := Gh.out.ord; have h3 := HB8.out; omega)).kept KSh.out (fun g hg e => by have := HB8.out; omega)
    have OH5 : Hid (OwCh w11 w10.heap.size (.slice ah nh ch) lh) := HOh.out.kept KSh.out (fun g hg e => by have := R3.out.r10.lt; omega)
    have HB10 : Hid (w.heap.size ≤ w10.heap.size ∧ b10 < w10.heap.size) := ⟨R3.out.kp.size, R3.out.r10.lt⟩
    have HGI : Hid (Got decIm (body, 0) ⟨lx, lq, lh⟩ sh) := HGx.out.bind (HGq.out.bind (HGh.out.bind (Got.pure _ _)))
    clear HOh Gh KSh Dh R3 OX4 OQ4
    have q7 := Sh.out.r7.cell (j := 0) rfl
    have cdn := rdone_any F p sh.1 sh.2 w11 Sh.out.rd
    obtain ⟨sb, se⟩ := sh
    obtain ⟨pva, pvn, pvc, hpv⟩ := own_slice Sh.out.own
    subst hpv
    by_cases hdone : se = 0 ∧ sb = []
    · obtain ⟨rfl, rfl⟩ := hdone
      have hr0 : rdDone [] 0 = 0 := by unfold rdDone; simp
      dsimp only at cdn
      rw [hr0] at cdn
      have hdec : decIm body = some (⟨lx, lq, lh⟩, []) := by
        rcases HGI.out.got with ⟨_, _, h⟩ | ⟨h, _⟩
        · exact h
        · exact absurd rfl h
      have HX : Hid (imgOf bs = some ⟨lx, lq, lh⟩) := by
        show imgOf bs = _
        rw [HIMG.out, hdec]
      have HPL : Hid (((([] ++ [8 + (dn : Int) - body.length]) ++ [8 + (dn : Int) - sx.1.length]) ++ [8 + (dn : Int) - sq.1.length]) = places ⟨lx, lq, lh⟩) := by
        show _ = _
        have gx : decL decPn body = some (lx, sx.1) ∧ sx.2 = 0 := by
          rcases HGx.out.got with ⟨_, h1, h⟩ | ⟨h1, h2⟩
          · exact ⟨h, h1⟩
          · have := h2 rfl
            have h3 := hdec
            unfold decIm at h3
            rw [dBind_none this] at h3
            cases h3
        have gq : decL decPo sx.1 = some (lq, sq.1) := by
          rcases HGq.out.got with ⟨_, _, h⟩ | ⟨h1, h2⟩
          · exact h
          · have := h2 gx.2
            have h3 := hdec
            unfold decIm at h3
            rw [dBind_eq gx.1, dBind_none this] at h3
            cases h3
        obtain ⟨e1, _⟩ := dcPn.list.back body lx sx.1 HIB.out gx.1
        obtain ⟨e2, _⟩ := dcPo.list.back sx.1 lq sq.1 (fun b hm => HIB.out b (by rw [e1]; exact List.mem_append_right _ hm)) gq
        have l1 : body.length = (encL encPn lx).length + sx.1.length := by rw [← List.length_append, ← e1]
        have l2 : sx.1.length = (encL encPo lq).length + sq.1.length := by rw [← List.length_append, ← e2]
        have l0 := HDN.out
        unfold places
        simp only [List.nil_append, List.cons_append, List.cons.injEq, and_true]
        refine ⟨by omega, by omega, by omega⟩
      have HSH : Hid (Rst w F p b5 b7 b8 b10 da dn dc ([], (0 : Int)) (.slice pva pvn pvc) ((([] ++ [8 + (dn : Int) - body.length]) ++ [8 + (dn : Int) - sx.1.length]) ++ [8 + (dn : Int) - sq.1.length]) [.slice ax nx cx, .slice aq nq cq, .slice ah nh ch] w11) := Sh.out
      clear hr0 hdec HGx HGq HGh HGI HIMG Sh
      go_upto_region 18 with (go_at_call 70; refine cdn.mono ?_; rintro ex w12 ⟨rfl, nd, rfl⟩)
      have kd : Kept No w11 (w11.drewN nd) := (Kept.refl No w11).drewN nd
      have k2 : Kept No w11 ((w11.drewN nd).drew) := kd.drew
      have y0 := (HSH.out.r10.kept k2 (fun h => h)).cell (j := 0) rfl
      have y1 := (HSH.out.r10.kept k2 (fun h => h)).cell (j := 1) rfl
      have y2 := (HSH.out.r10.kept k2 (fun h => h)).cell (j := 2) rfl
      have y3 := (HSH.out.r8.kept k2 (fun h => h)).cell (j := 0) rfl
      have g0 := (HSH.out.r2.kept k2 (fun h => h)).cell (j := 0) rfl
      have g1 := (HSH.out.r2.kept k2 (fun h => h)).cell (j := 1) rfl
      have g2 := (HSH.out.r2.kept k2 (fun h => h)).cell (j := 2) rfl
      have z0 := (HSH.out.r2.kept k2 (fun h => h)).fz 0
      have z1 := (HSH.out.r2.kept k2 (fun h => h)).fz 1
      have z2 := (HSH.out.r2.kept k2 (fun h => h)).fz 2
      have HB2 : Hid (Bk ((w11.drewN nd).drew) w.heap.size [.slice none 0 0, .slice none 0 0, .slice none 0 0] 26 ∧ Kept No w11 ((w11.drewN nd).drew)) := ⟨HSH.out.r2.kept k2 (fun h => h), k2⟩
      clear cdn q7 kd k2
      have hd10 : b10 ≠ w.heap.size := by have := HSH.out.ord; omega
      have hd8 : b8 ≠ w.heap.size := by have := HSH.out.ord; omega
      generalize w11.drewN nd = w13 at *
      have S0 : w13.drew.rangeAt b10 0 [.slice ax nx cx, .slice aq nq cq, .slice ah nh ch] ∧ w13.drew.cell? ⟨b8, 0, none⟩ = some (.slice pva pvn pvc) := ⟨fun j v hv => by
        match j, hv with
        | 0, hv => simp at hv; subst hv; exact y0
        | 1, hv => simp at hv; subst hv; exact y1
        | 2, hv => simp at hv; subst hv; exact y2
        | j + 3, hv => simp at hv, y3⟩
      have kst := setK3 w13.drew w.heap.size (.slice ax nx cx) (.slice aq nq cq) (.slice ah nh ch)
      have S1 : (((w13.drew.setCell ⟨w.heap.size, 0, none⟩ (.slice ax nx cx)).setCell ⟨w.heap.size, 1, none⟩ (.slice aq nq cq)).setCell ⟨w.heap.size, 2, none⟩ (.slice ah nh ch)).rangeAt b10 0 [.slice ax nx cx, .slice aq nq cq, .slice ah nh ch] ∧ (((w13.drew.setCell ⟨w.heap.size, 0, none⟩ (.slice ax nx cx)).setCell ⟨w.heap.size, 1, none⟩ (.slice aq nq cq)).setCell ⟨w.heap.size, 2, none⟩ (.slice ah nh ch)).cell? ⟨b8, 0, none⟩ = some (.slice pva pvn pvc) := ⟨rangeAt_kept S0.1 kst hd10, kst.cell S0.2 hd8⟩
      have hst : (Instr.storeAt 26 (.pointer (some ⟨w.heap.size, 0, none⟩)) (.agg #[.slice ax nx cx, .slice aq nq cq, .slice ah nh ch])).run Tryz.prog w13.drew = .ok () (((w13.drew.setCell ⟨w.heap.size, 0, none⟩ (.slice ax nx cx)).setCell ⟨w.heap.size, 1, none⟩ (.slice aq nq cq)).setCell ⟨w.heap.size, 2, none⟩ (.slice ah nh ch)) := by
        refine run_storeAt_mid w13.drew w.heap.size 0 _ #[.slice ax nx cx, .slice aq nq cq, .slice ah nh ch] ?_ (by rw [sizeIm]; rfl) (all_oneCell_toArray (cs := [.slice ax nx cx, .slice aq nq cq, .slice ah nh ch]) (by intro v hv; simp only [List.mem_cons, List.not_mem_nil, or_false] at hv; rcases hv with rfl | rfl | rfl <;> rfl))
        intro j hj
        rw [Nat.zero_add]
        match j, hj with
        | 0, _ => exact ⟨by rw [g0]; rfl, z0⟩
        | 1, _ => exact ⟨by rw [g1]; rfl, z1⟩
        | 2, _ => exact ⟨by rw [g2]; rfl, z2⟩
      clear y0 y1 y2 y3 g0 g1 g2 z0 z1 z2
      refine wp_region_held_drew (S := (fun w' : World => w'.rangeAt b10 0 [.slice ax nx cx, .slice aq nq cq, .slice ah nh ch] ∧ w'.cell? ⟨b8, 0, none⟩ = some (.slice pva pvn pvc))) (by kernel_rfl) S0 (fun hS => ?_)
      refine d_take 0 45 rfl rfl (by kernel_rfl) (by kernel_rfl) (by kernel_rfl) (fun _ _ _ h => h) rfl (fun w' hw' => er_ld _ _ rfl (.pointer (some ⟨b10, 0, none⟩)) (.agg #[.slice ax nx cx, .slice aq nq cq, .slice ah nh ch]) rfl (run_loadAt_mid w' b10 0 _ [.slice ax nx cx, .slice aq nq cq, .slice ah nh ch] _ hw'.1 Tryz.underlying26 rfl sizeIm)) hS ?_
      simp only [Act.put, List.setIfInBounds_toArray, List.set_cons_zero, List.set_cons_succ]
      refine d_take 1 46 rfl rfl (by kernel_rfl) (by kernel_rfl) (by kernel_rfl) (fun _ _ _ h => h) rfl (fun w' hw' => er_ld39 _ rfl b8 0 _ rfl hw'.2) hS ?_
      simp only [Act.put, List.setIfInBounds_toArray, List.set_cons_zero, List.set_cons_succ]
      refine d_turn 2 (by kernel_rfl) rfl rfl rfl (er_st _ _ _ rfl (.pointer (some ⟨w.heap.size, 0, none⟩)) (.agg #[.slice ax nx cx, .slice aq nq cq, .slice ah nh ch]) rfl rfl hst) S1 ?_
      refine d_read 3 3 (by kernel_rfl) rfl rfl rfl (er_as _ rfl (.slice pva pvn pvc) rfl) S1 ?_
      simp only [Act.put, List.setIfInBounds_toArray, List.set_cons_zero, List.set_cons_succ]
      refine d_read 4 4 (by kernel_rfl) rfl rfl rfl (er_as _ rfl (.int .i64 0) rfl) S1 ?_
      simp only [Act.put, List.setIfInBounds_toArray, List.set_cons_zero, List.set_cons_succ]
      refine wpAnyH_done (by kernel_rfl) ?_ _
      have HKST : Hid (Kept (fun k => k = w.heap.size) w13.drew (((w13.drew.setCell ⟨w.heap.size, 0, none⟩ (.slice ax nx cx)).setCell ⟨w.heap.size, 1, none⟩ (.slice aq nq cq)).setCell ⟨w.heap.size, 2, none⟩ (.slice ah nh ch)) ∧ Bk (((w13.drew.setCell ⟨w.heap.size, 0, none⟩ (.slice ax nx cx)).setCell ⟨w.heap.size, 1, none⟩ (.slice aq nq cq)).setCell ⟨w.heap.size, 2, none⟩ (.slice ah nh ch)) w.heap.size [.slice ax nx cx, .slice aq nq cq, .slice ah nh ch] 26) := ⟨kst, set3 HB2.out.1 _ _ _⟩
      clear kst hst S0 S1
      generalize ((w13.drew.setCell ⟨w.heap.size, 0, none⟩ (.slice ax nx cx)).setCell ⟨w.heap.size, 1, none⟩ (.slice aq nq cq)).setCell ⟨w.heap.size, 2, none⟩ (.slice ah nh ch) = w14 at *
      go_wp2
      have hld := ldIm HKST.out.2
      refine bodyPost_ret (v := .tuple #[.agg #[.slice ax nx cx, .slice aq nq cq, .slice ah nh ch], .slice pva pvn pvc, .int .i64 0]) ?_ rfl ?_
      · rw [results_c3 rfl]
        simp [asAddr, Result.andThen, hld]
      · have k1 : Kept (fun k => k = w.heap.size) w11 w14 := (HB2.out.2.mono (G := fun k => k = w.heap.size) (fun _ h => h.elim)).trans HKST.out.1 (fun _ h => .inl h)
        have o1 := HSH.out.own
        rw [HPL.out] at o1
        have hB6 := HB6.out
        have hB8 := HB8.out
        have hB10 := HB10.out
        have hord := HSH.out.ord
        refine ⟨HSH.out.kp.trans k1 (fun k e => .inr (by omega)), .inr ⟨⟨lx, lq, lh⟩, ax, nx, cx, aq, nq, cq, ah, nh, ch, pva, pvn, pvc, HX.out, rfl, (OX5.out.kept k1 (fun g hg e => by omega)).base hB6.1, (OQ5.out.kept k1 (fun g hg e => by omega)).base hB8.1, (OH5.out.kept k1 (fun g hg e => by omega)).base hB10.1, k1.owns o1 (fun g hg e => by have := HSH.out.pvb g hg; omega)⟩⟩
    · have hr0 : rdDone sb se ≠ 0 := by
        unfold rdDone
        by_cases h1 : se ≠ 0
        · rw [if_pos h1]; exact h1
        · rw [if_neg h1]
          by_cases h2 : sb = []
          · exact absurd ⟨by omega, h2⟩ hdone
          · rw [if_neg h2]; decide
      have HNO : Hid (imgOf bs = none) := by
        show imgOf bs = none
        rw [HIMG.out]
        rcases HGI.out.got with ⟨_, h1, h2⟩ | ⟨h1, h2⟩
        · have h2' : decIm body = some (⟨lx, lq, lh⟩, sb) := h2
          have h1' : se = 0 := h1
          rw [h2']
          cases sb with
          | nil => exact absurd ⟨h1', rfl⟩ hdone
          | cons b t => rfl
        · have h2' : decIm body = none := h2 rfl
          rw [h2']
      dsimp only at cdn
      obtain ⟨dr, hdr⟩ : ∃ dr, dr = rdDone sb se := ⟨_, rfl⟩
      rw [← hdr] at cdn hr0
      have hr1 : (dr != 0) = true := by simpa using hr0
      have hr2 : (dr == 0) = false := by simpa using hr0
      have HSH : Hid (Rst w F p b5 b7 b8 b10 da dn dc (sb, se) (.slice pva pvn pvc) ((([] ++ [8 + (dn : Int) - body.length]) ++ [8 + (dn : Int) - sx.1.length]) ++ [8 + (dn : Int) - sq.1.length]) [.slice ax nx cx, .slice aq nq cq, .slice ah nh ch] w11) := Sh.out
      clear hdr hr0 hdone HGx HGq HGh HGI HIMG Sh OX5 OQ5 OH5
      go_upto_region 17 with (go_at_call 70; refine cdn.mono ?_; rintro ex w12 ⟨rfl, nd, rfl⟩)
      have kd : Kept No w11 (w11.drewN nd) := (Kept.refl No w11).drewN nd
      have g0 := (HSH.out.r2.kept kd (fun h => h)).cell (j := 0) rfl
      have g1 := (HSH.out.r2.kept kd (fun h => h)).cell (j := 1) rfl
      have g2 := (HSH.out.r2.kept kd (fun h => h)).cell (j := 2) rfl
      have z0 := (HSH.out.r2.kept kd (fun h => h)).fz 0
      have z1 := (HSH.out.r2.kept kd (fun h => h)).fz 1
      have z2 := (HSH.out.r2.kept kd (fun h => h)).fz 2
      have HB2 : Hid (Bk (w11.drewN nd) w.heap.size [.slice none 0 0, .slice none 0 0, .slice none 0 0] 26 ∧ Kept No w (w11.drewN nd)) := ⟨HSH.out.r2.kept kd (fun h => h), HSH.out.kp.trans kd (fun _ h => h.elim)⟩
      clear cdn q7 kd
      generalize w11.drewN nd = w13 at *
      go_wp2
      have hld := ldIm (set3 HB2.out.1 (.slice none 0 0) (.slice none 0 0) (.slice none 0 0))
      refine bodyPost_ret (v := .tuple #[.agg #[.slice none 0 0, .slice none 0 0, .slice none 0 0], .slice none 0 0, .int .i64 20]) ?_ rfl ?_
      · rw [results_c3 rfl]
        simp [asAddr, Result.andThen, hld]
      · refine ⟨HB2.out.2.trans (setK3 w13 w.heap.size _ _ _) (fun k e => .inr (by omega)), .inl ⟨HNO.out, ?_⟩⟩
        rw [HERR.out]
  · -- the seal is wrong
    have e2 : unsE 1 bs = 20 := by unfold unsE; rw [if_neg (by rw [HL.out]; omega), hu]; rfl
    have HNO : Hid (imgOf bs = none) := by
      show imgOf bs = none
      unfold imgOf
      rw [if_neg (fun h => by rw [hu] at h; exact absurd h.2 (by decide))]
    rw [e2] at cu
    clear e2 hu
    go_upto_region 3 with fail
    go_upto_region 4 with (go_at_call 63; refine cu.mono ?_; rintro ex w1 ⟨da, dn, dc, rfl, hown1, hbl1⟩)
    have hk1 : Kept No w0 (w1.alloc (.cells #[.slice da dn dc] 27)) := (Kept.of_below hbl1).alloc _
    have HB2 : Hid (Bk (w1.alloc (.cells #[.slice da dn dc] 27)) w.heap.size [.slice none 0 0, .slice none 0 0, .slice none 0 0] 26 ∧ Kept No w (w1.alloc (.cells #[.slice da dn dc] 27))) := ⟨HBH.out.kept hk1 (fun h => h), HK.out.trans hk1 (fun _ h => h.elim)⟩
    clear hown1 hbl1 hk1 cu
    generalize w1.alloc (.cells #[.slice da dn dc] 27) = w13 at *
    have g0 := HB2.out.1.cell (j := 0) rfl
    have g1 := HB2.out.1.cell (j := 1) rfl
    have g2 := HB2.out.1.cell (j := 2) rfl
    have z0 := HB2.out.1.fz 0
    have z1 := HB2.out.1.fz 1
    have z2 := HB2.out.1.fz 2
    go_wp2
    have hld := ldIm (set3 HB2.out.1 (.slice none 0 0) (.slice none 0 0) (.slice none 0 0))
    refine bodyPost_ret (v := .tuple #[.agg #[.slice none 0 0, .slice none 0 0, .slice none 0 0], .slice none 0 0, .int .i64 20]) ?_ rfl ?_
    · rw [results_c3 rfl]
      simp [asAddr, Result.andThen, hld]
    · refine ⟨HB2.out.2.trans (setK3 w13 w.heap.size _ _ _) (fun k e => .inr (by omega)), .inl ⟨HNO.out, ?_⟩⟩
      rw [HERR.out]

theorem read_any (G : Nat → Prop) (a : Option Addr) (n c : Nat) (bs : List Nat) (w : World) (h : Bs w G a n c bs) : Calls Tryz.prog 27 #[.slice a n c] w (Rans w bs) := by
  by_cases hn : n ≤ 1048576
  · exact read_short G a n c bs w h hn
  · exact read_long a n c bs w h.len (by omega) (Nat.le_trans h.cap h.max)

end Go.Proofs.YtolmhoenjcinjaaGreat
