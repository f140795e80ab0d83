/-
  The walk of CodecAgain.
-/
import Derived.Test.YtakdfpenpodplaaAgPlain
import Derived.Test.YtakdfpenpodplaaWorks
namespace Go.Proofs.Ytakdfpenpodplaa
open Go.RowKit
set_option linter.unusedVariables false

/-- the cells of one operation -/
def OpAt (w : World) (b o : Nat) (K N Wd : Int) (Fl : Bool) (ba : Option Addr) (bn bc : Nat) (la : Option Addr) (ln lc : Nat) (M : Int) : Prop :=
  w.cell? ⟨b, o, none⟩ = some (.int .i64 K) ∧ w.cell? ⟨b, o + 1, none⟩ = some (.int .i64 N) ∧ w.cell? ⟨b, o + 2, none⟩ = some (.int .i64 Wd) ∧ w.cell? ⟨b, o + 3, none⟩ = some (.bool Fl) ∧
  w.cell? ⟨b, o + 4, none⟩ = some (.slice ba bn bc) ∧ w.cell? ⟨b, o + 5, none⟩ = some (.slice la ln lc) ∧ w.cell? ⟨b, o + 6, none⟩ = some (.int .i64 M)
/-- a script's cells -/
def Sc (w : World) (a : Option Addr) (m : Nat) : Prop :=
  ∀ i, i < m → ∃ b o K N Wd Fl ba bn bc la ln lc M, a = some ⟨b, o, none⟩ ∧ N ≤ 9223372036854775807 ∧ OpAt w b (o + i * 7) K N Wd Fl ba bn bc la ln lc M

/-- a Reader and a Writer, apart, made since w0 -/
structure RW (w0 : World) (Fr Fw : Nat → Prop) (r p : Nat) (xs : List Nat) (e : Int) (bs : List Nat) (e' : Int) (w : World) : Prop where
  rd : Rd w Fr r xs e
  wr : Wr w Fw p bs e'
  dis : ∀ k, Fr k → ¬ Fw k
  hiR : ∀ k, Fr k → w0.heap.size ≤ k
  hiW : ∀ k, Fw k → w0.heap.size ≤ k
  bel : Below w0.heap.size w0 w

theorem Rd.flt {w : World} {F : Nat → Prop} {p : Nat} {xs : List Nat} {e : Int} (h : Rd w F p xs e) : ∀ k, F k → k < w.heap.size := by obtain ⟨a, n, c, hv⟩ := h; exact hv.flt
theorem Rd.fp {w : World} {F : Nat → Prop} {p : Nat} {xs : List Nat} {e : Int} (h : Rd w F p xs e) : F p := by obtain ⟨a, n, c, hv⟩ := h; exact hv.fp
theorem Wr.flt {w : World} {F : Nat → Prop} {p : Nat} {bs : List Nat} {e : Int} (h : Wr w F p bs e) : ∀ k, F k → k < w.heap.size := by obtain ⟨v, hv⟩ := h; exact hv.flt

namespace RW
variable {w0 w w' : World} {Fr Fw : Nat → Prop} {r p : Nat} {xs xs' bs bs' : List Nat} {e e1 e' e1' : Int}
theorem alloc (h : RW w0 Fr Fw r p xs e bs e' w) (o : Obj) : RW w0 Fr Fw r p xs e bs e' (w.alloc o) :=
  ⟨h.rd.kept ((Kept.refl No w).alloc o) (fun _ _ h => h), h.wr.kept ((Kept.refl No w).alloc o) (fun _ _ h => h), h.dis, h.hiR, h.hiW, h.bel.alloc h.bel.size o⟩
theorem read (h : RW w0 Fr Fw r p xs e bs e' w) (d : RdDid Fr r xs' e1 w w') : RW w0 Fr Fw r p xs' e1 bs e' w' :=
  ⟨d.1, h.wr.kept d.keptF (fun b hb hf => h.dis b hf hb), h.dis, h.hiR, h.hiW, h.bel.trans (d.below h.hiR h.bel.size)⟩
theorem wrote (h : RW w0 Fr Fw r p xs e bs e' w) (d : WrDid Fw p bs' e1' w w') : ∃ Fw', RW w0 Fr Fw' r p xs e bs' e1' w' := by
  obtain ⟨F', hw, hk, hs⟩ := d
  refine ⟨F', h.rd.kept hk (fun b hb => h.dis b hb), hw, ?_, h.hiR, ?_, h.bel.trans (hk.below h.hiW h.bel.size)⟩
  · intro k hk1 hk2
    rcases hs k hk2 with h1 | h1
    · exact h.dis k hk1 h1
    · have := h.rd.flt k hk1; omega
  · intro k hk2
    rcases hs k hk2 with h1 | h1
    · exact h.hiW k h1
    · exact Nat.le_trans h.bel.size h1
/-- a store into a block of neither -/
theorem store (h : RW w0 Fr Fw r p xs e bs e' w) {q j : Nat} (hr : ¬ Fr q) (hw : ¬ Fw q) (hq : w0.heap.size ≤ q) (v : Value) : RW w0 Fr Fw r p xs e bs e' (w.setCell ⟨q, j, none⟩ v) := by
  have hk : Kept (fun k => k = q) w (w.setCell ⟨q, j, none⟩ v) := (Kept.refl (fun k => k = q) w).setCell (p := ⟨q, j, none⟩) (.inl rfl) _
  exact ⟨h.rd.kept hk (fun b hb e => hr (e ▸ hb)), h.wr.kept hk (fun b hb e => hw (e ▸ hb)), h.dis, h.hiR, h.hiW, h.bel.setCell (p := ⟨q, j, none⟩) hq v⟩
end RW

theorem OpAt.below {w0 w : World} {b o : Nat} {K N Wd : Int} {Fl : Bool} {ba : Option Addr} {bn bc : Nat} {la : Option Addr} {ln lc : Nat} {M : Int} (h : OpAt w0 b o K N Wd Fl ba bn bc la ln lc M) (hb : Below w0.heap.size w0 w) : OpAt w b o K N Wd Fl ba bn bc la ln lc M := by
  obtain ⟨h0, h1, h2, h3, h4, h5, h6⟩ := h
  exact ⟨(hb.cell (cell_lt h0)).trans h0, (hb.cell (cell_lt h1)).trans h1, (hb.cell (cell_lt h2)).trans h2, (hb.cell (cell_lt h3)).trans h3, (hb.cell (cell_lt h4)).trans h4, (hb.cell (cell_lt h5)).trans h5, (hb.cell (cell_lt h6)).trans h6⟩

/-- a block of seven cells -/
theorem OpAt.new (w : World) (K N Wd : Int) (Fl : Bool) (ba : Option Addr) (bn bc : Nat) (la : Option Addr) (ln lc : Nat) (M : Int) :
    OpAt (w.alloc (.cells #[.int .i64 K, .int .i64 N, .int .i64 Wd, .bool Fl, .slice ba bn bc, .slice la ln lc, .int .i64 M] 43)) w.heap.size 0 K N Wd Fl ba bn bc la ln lc M := by
  have h := heap_alloc_new w (.cells #[.int .i64 K, .int .i64 N, .int .i64 Wd, .bool Fl, .slice ba bn bc, .slice la ln lc, .int .i64 M] 43)
  unfold OpAt World.cell?
  simp only [h]
  simp

/-- a block that is one operation -/
def OpBlk (w : World) (q : Nat) (K N Wd : Int) (Fl : Bool) (ba : Option Addr) (bn bc : Nat) (la : Option Addr) (ln lc : Nat) (M : Int) : Prop :=
  w.heap[q]? = some (.cells #[.int .i64 K, .int .i64 N, .int .i64 Wd, .bool Fl, .slice ba bn bc, .slice la ln lc, .int .i64 M] 43 (0, 0))
theorem OpBlk.at' {w : World} {q : Nat} {K N Wd : Int} {Fl : Bool} {ba : Option Addr} {bn bc : Nat} {la : Option Addr} {ln lc : Nat} {M : Int} (h : OpBlk w q K N Wd Fl ba bn bc la ln lc M) : OpAt w q 0 K N Wd Fl ba bn bc la ln lc M := by
  unfold OpBlk at h
  unfold OpAt World.cell?
  simp only [h]
  simp
theorem OpBlk.fz {w : World} {q : Nat} {K N Wd : Int} {Fl : Bool} {ba : Option Addr} {bn bc : Nat} {la : Option Addr} {ln lc : Nat} {M : Int} (h : OpBlk w q K N Wd Fl ba bn bc la ln lc M) (j : Nat) : w.frozen? ⟨q, j, none⟩ = false := by
  unfold OpBlk at h
  unfold World.frozen?
  simp only [h]
  simp

set_option maxRecDepth 100000 in
set_option maxHeartbeats 4000000 in
theorem codecAgain_walk (G : Nat → Prop) (a a' : Option Addr) (n c m c' : Nat) (b0 : List Nat) (w : World) (hb : Bs w G a n c b0) (hs : Sc w a' m) (hn : n ≤ 1048576) (hm : m ≤ 1048576) (hmc : m ≤ c') :
    Calls Try.prog 5 #[.slice a n c, .slice a' m c'] w fun e w' => e = .returned (.bool true) ∧ Below w.heap.size w w' := by
  have q1 : ∀ (w : World) (a : Addr), (binOp .eql 39 (.pointer (some a)) (.pointer none)).run Try.prog w = .ok (.bool false) w := fun w a => by first | rfl | simp
  have q2 : ∀ (w : World) (a : Addr), (binOp .eql 37 (.pointer (some a)) (.pointer none)).run Try.prog w = .ok (.bool false) w := fun w a => by first | rfl | simp
  have c22 := newReader_any G a n c b0 w hb (by omega)
  have HB : Hid (Bs w G a n c b0) := hb
  have HS : Hid (Sc w a' m) := hs
  have hl := hb.len
  have HL : Hid (b0.length = n) := hl
  clear hb hs hl
  go_enter Try.func5, Try.ntmps5
  go_upto_region 2 with (go_at_call 22; refine c22.mono ?_; rintro ex w1 ⟨r, rfl, hr1, hb1⟩)
  have c23 := newWriter_any w1
  obtain ⟨p, hp⟩ : ∃ p, p = w1.heap.size := ⟨_, rfl⟩
  have hrw : RW w (fun k => w.heap.size ≤ k ∧ k < w1.heap.size) (fun k => k = w1.heap.size) r w1.heap.size b0 0 [] 0 (w1.alloc (.cells #[.slice none 0 0, .int .i64 0] 69)) := by
    obtain ⟨F, hw, hF, hB⟩ := ws_new w1
    refine ⟨hr1.kept ((Kept.refl No w1).alloc _) (fun _ _ h => h), ?_, fun k hk hk2 => by omega, fun k hk => hk.1, fun k hk => by rw [hk]; exact hb1.size, hb1.alloc hb1.size _⟩
    exact ⟨.slice none 0 0, heap_alloc_new _ _, World.ownsRow_nil _ _ _ _, rfl, fun g h => by simp [Value.ownBlock] at h, fun k hk => by rw [hk]; simp, fun x hx => by cases hx⟩
  obtain ⟨Fr, Fw, hrw⟩ : ∃ Fr Fw, RW w Fr Fw r w1.heap.size b0 0 [] 0 (w1.alloc (.cells #[.slice none 0 0, .int .i64 0] 69)) := ⟨_, _, hrw⟩
  rw [← hp] at hrw c23
  have HRW : Hid (RW w Fr Fw r p b0 0 [] 0 (w1.alloc (.cells #[.slice none 0 0, .int .i64 0] 69))) := hrw
  clear hrw hp hr1 c22 hb1
  go_upto_region 5 with (go_at_call 23; refine c23.mono ?_; rintro ex w2 ⟨rfl, rfl⟩)
  clear c23
  go_wp2
  go_loopw [7] (fun i wr => ∃ k : Nat, k ≤ m ∧ i = .int .i64 k ∧ ∃ Fr Fw xs e bs e', RW w Fr Fw r p xs e bs e' wr ∧ Ag b0 k bs e' xs e) (fun i _ => m - (intOf i).toNat)
  case atStart => exact ⟨0, by omega, rfl, Fr, Fw, b0, 0, [], 0, HRW.out, ⟨fun _ => ⟨rfl, rfl⟩, by simp⟩⟩
  case round =>
    clear HRW
    obtain ⟨k, hk, rfl, Fr, Fw, xs, e, bs, e', hrw, hag⟩ := hrel
    by_cases hlt : k < m
    · obtain ⟨sb, so, K, N, Wd, Fl, ba, bn, bc, la, ln, lc, M, rfl, hN, hop0⟩ := HS.out k hlt
      have hop := hop0.below hrw.bel
      have HOP : Hid (OpAt wr sb (so + k * 7) K N Wd Fl ba bn bc la ln lc M) := hop
      have RWA : Hid (RW w Fr Fw r p xs e bs e' (wr.alloc (.cells #[.int .i64 K, .int .i64 N, .int .i64 Wd, .bool Fl, .slice ba bn bc, .slice la ln lc, .int .i64 M] 43))) := hrw.alloc _
      have RW0 : Hid (RW w Fr Fw r p xs e bs e' wr) := hrw
      have HAG : Hid (Ag b0 k bs e' xs e) := hag
      obtain ⟨o0, o1, o2, o3, o4, o5, o6⟩ := hop
      clear hop0 hrw hag
      go_upto_region 9 with fail
      clear o0 o1 o2 o3 o4 o5 o6 HOP
      have HQ1 : Hid (OpBlk (wr.alloc (.cells #[.int .i64 K, .int .i64 N, .int .i64 Wd, .bool Fl, .slice ba bn bc, .slice la ln lc, .int .i64 M] 43)) wr.heap.size K N Wd Fl ba bn bc la ln lc M) := heap_alloc_new _ _
      have hqr : ¬ Fr wr.heap.size := fun h => by have := RW0.out.rd.flt _ h; omega
      have hqw : ¬ Fw wr.heap.size := fun h => by have := RW0.out.wr.flt _ h; omega
      have hqb : w.heap.size ≤ wr.heap.size := RW0.out.bel.size
      have hrr : r ≠ wr.heap.size := fun h => hqr (h ▸ RW0.out.rd.fp)
      have hs1 : (wr.alloc (.cells #[.int .i64 K, .int .i64 N, .int .i64 Wd, .bool Fl, .slice ba bn bc, .slice la ln lc, .int .i64 M] 43)).heap.size = wr.heap.size + 1 := size_alloc _ _
      have HS1 : Hid ((wr.alloc (.cells #[.int .i64 K, .int .i64 N, .int .i64 Wd, .bool Fl, .slice ba bn bc, .slice la ln lc, .int .i64 M] 43)).heap.size = wr.heap.size + 1) := hs1
      obtain ⟨W1, hW1⟩ : ∃ W1, W1 = wr.alloc (.cells #[.int .i64 K, .int .i64 N, .int .i64 Wd, .bool Fl, .slice ba bn bc, .slice la ln lc, .int .i64 M] 43) := ⟨_, rfl⟩
      rw [← hW1] at HQ1 RWA HS1 ⊢
      obtain ⟨q, hq⟩ : ∃ q, q = wr.heap.size := ⟨_, rfl⟩
      rw [← hq] at HQ1 hqr hqw hqb hrr HS1 ⊢
      have HQR : Hid (¬ Fr q ∧ ¬ Fw q ∧ w.heap.size ≤ q ∧ r ≠ q) := ⟨hqr, hqw, hqb, hrr⟩
      have hxl : Hid (∀ x ∈ xs, x < 256) := RW0.out.rd.lt
      have hbl : bs.length + xs.length ≤ b0.length + 8 * k := HAG.out.2
      have HFL : Hid ((∀ j, Fr j → j < q) ∧ (∀ j, Fw j → j < q)) := by rw [hq]; exact ⟨RW0.out.rd.flt, RW0.out.wr.flt⟩
      rw [HL.out] at hbl
      clear hW1 hq hs1 hqr hqw hqb hrr RW0
      obtain ⟨o0, o1, o2, o3, o4, o5, o6⟩ := HQ1.out.at'
      by_cases h1 : K = 1
      · subst h1
        have cc := ru8_any Fr r xs e W1 RWA.out.rd
        obtain ⟨xs2, hxs2⟩ : ∃ xs2, xs2 = tkRest xs e 1 := ⟨_, rfl⟩
        obtain ⟨e2, he2⟩ : ∃ e2, e2 = tkE xs e 1 := ⟨_, rfl⟩
        obtain ⟨x, hx⟩ : ∃ x, x = rdN xs e 1 := ⟨_, rfl⟩
        have hx2 : x ≤ 9223372036854775807 := by rw [hx]; have := rdN_lt e 1 hxl.out; omega
        rw [← hx] at cc
        rw [← hxs2, ← he2] at cc
        have HAG2 : Hid (Ag b0 (k + 1) (numBs bs e' x 1, numE e' x 1).1 (numBs bs e' x 1, numE e' x 1).2 xs2 e2) := by rw [hxs2, he2]; exact by rw [hx]; exact ag_num HAG.out hxl.out 1 (by omega)
        clear hxs2 he2 hx
        go_upto_region 24 with (go_at_call 24; refine cc.mono ?_; rintro ex w2 ⟨rfl, hd⟩; have hb2 : OpBlk w2 q 1 N Wd Fl ba bn bc la ln lc M := (hd.2.at' HQ1.out (fun h => HQR.out.2.2.2 h.symm)); obtain ⟨p0, p1, p2, p3, p4, p5, p6⟩ := hb2.at'; have pf := hb2.fz 1; clear hb2)
        have RW3 := (RWA.out.read hd).store (j := 1) HQR.out.1 HQR.out.2.1 HQR.out.2.2.1 (.int .i64 x)
        have c32 := write_any Fw (fun g => (Value.slice ba bn bc).ownBlock = some g) (fun g => (Value.slice la ln lc).ownBlock = some g) p bs e' 1 x Wd Fl ba bn bc la ln lc M [] [] _ RW3.wr hx2 (by omega) (fun h => absurd h (by decide)) (fun h => absurd h (by decide))
        rw [show wOp bs e' 1 x Wd Fl [] [] M = (numBs bs e' x 1, numE e' x 1) from by simp [wOp]] at c32
        unfold opV at c32
        have HRW3 : Hid (RW w Fr Fw r p xs2 e2 bs e' (w2.setCell ⟨q, 1, none⟩ (.int .i64 x))) := RW3
        clear RW3 cc hd
        go_wp2_with (go_at_call 32; refine c32.mono ?_; rintro ex w4 ⟨rfl, hd4⟩)
        go_roundw
        case rel =>
          obtain ⟨Fw', hrw4⟩ := HRW3.out.wrote hd4
          exact ⟨k + 1, by omega, by go_num, Fr, Fw', _, _, _, _, hrw4, HAG2.out⟩
        case measure => simp [intOf]; omega
      by_cases h2 : K = 2
      · subst h2
        have cc := ru16_any Fr r xs e W1 RWA.out.rd
        obtain ⟨xs2, hxs2⟩ : ∃ xs2, xs2 = tkRest xs e 2 := ⟨_, rfl⟩
        obtain ⟨e2, he2⟩ : ∃ e2, e2 = tkE xs e 2 := ⟨_, rfl⟩
        obtain ⟨x, hx⟩ : ∃ x, x = rdN xs e 2 := ⟨_, rfl⟩
        have hx2 : x ≤ 9223372036854775807 := by rw [hx]; have := rdN_lt e 2 hxl.out; omega
        rw [← hx] at cc
        rw [← hxs2, ← he2] at cc
        have HAG2 : Hid (Ag b0 (k + 1) (numBs bs e' x 2, numE e' x 2).1 (numBs bs e' x 2, numE e' x 2).2 xs2 e2) := by rw [hxs2, he2]; exact by rw [hx]; exact ag_num HAG.out hxl.out 2 (by omega)
        clear hxs2 he2 hx
        go_upto_region 24 with (go_at_call 25; refine cc.mono ?_; rintro ex w2 ⟨rfl, hd⟩; have hb2 : OpBlk w2 q 2 N Wd Fl ba bn bc la ln lc M := (hd.2.at' HQ1.out (fun h => HQR.out.2.2.2 h.symm)); obtain ⟨p0, p1, p2, p3, p4, p5, p6⟩ := hb2.at'; have pf := hb2.fz 1; clear hb2)
        have RW3 := (RWA.out.read hd).store (j := 1) HQR.out.1 HQR.out.2.1 HQR.out.2.2.1 (.int .i64 x)
        have c32 := write_any Fw (fun g => (Value.slice ba bn bc).ownBlock = some g) (fun g => (Value.slice la ln lc).ownBlock = some g) p bs e' 2 x Wd Fl ba bn bc la ln lc M [] [] _ RW3.wr hx2 (by omega) (fun h => absurd h (by decide)) (fun h => absurd h (by decide))
        rw [show wOp bs e' 2 x Wd Fl [] [] M = (numBs bs e' x 2, numE e' x 2) from by simp [wOp]] at c32
        unfold opV at c32
        have HRW3 : Hid (RW w Fr Fw r p xs2 e2 bs e' (w2.setCell ⟨q, 1, none⟩ (.int .i64 x))) := RW3
        clear RW3 cc hd
        go_wp2_with (go_at_call 32; refine c32.mono ?_; rintro ex w4 ⟨rfl, hd4⟩)
        go_roundw
        case rel =>
          obtain ⟨Fw', hrw4⟩ := HRW3.out.wrote hd4
          exact ⟨k + 1, by omega, by go_num, Fr, Fw', _, _, _, _, hrw4, HAG2.out⟩
        case measure => simp [intOf]; omega
      by_cases h3 : K = 3
      · subst h3
        have cc := ru32_any Fr r xs e W1 RWA.out.rd
        obtain ⟨xs2, hxs2⟩ : ∃ xs2, xs2 = tkRest xs e 4 := ⟨_, rfl⟩
        obtain ⟨e2, he2⟩ : ∃ e2, e2 = tkE xs e 4 := ⟨_, rfl⟩
        obtain ⟨x, hx⟩ : ∃ x, x = rdN xs e 4 := ⟨_, rfl⟩
        have hx2 : x ≤ 9223372036854775807 := by rw [hx]; have := rdN_lt e 4 hxl.out; omega
        rw [← hx] at cc
        rw [← hxs2, ← he2] at cc
        have HAG2 : Hid (Ag b0 (k + 1) (numBs bs e' x 4, numE e' x 4).1 (numBs bs e' x 4, numE e' x 4).2 xs2 e2) := by rw [hxs2, he2]; exact by rw [hx]; exact ag_num HAG.out hxl.out 4 (by omega)
        clear hxs2 he2 hx
        go_upto_region 24 with (go_at_call 26; refine cc.mono ?_; rintro ex w2 ⟨rfl, hd⟩; have hb2 : OpBlk w2 q 3 N Wd Fl ba bn bc la ln lc M := (hd.2.at' HQ1.out (fun h => HQR.out.2.2.2 h.symm)); obtain ⟨p0, p1, p2, p3, p4, p5, p6⟩ := hb2.at'; have pf := hb2.fz 1; clear hb2)
        have RW3 := (RWA.out.read hd).store (j := 1) HQR.out.1 HQR.out.2.1 HQR.out.2.2.1 (.int .i64 x)
        have c32 := write_any Fw (fun g => (Value.slice ba bn bc).ownBlock = some g) (fun g => (Value.slice la ln lc).ownBlock = some g) p bs e' 3 x Wd Fl ba bn bc la ln lc M [] [] _ RW3.wr hx2 (by omega) (fun h => absurd h (by decide)) (fun h => absurd h (by decide))
        rw [show wOp bs e' 3 x Wd Fl [] [] M = (numBs bs e' x 4, numE e' x 4) from by simp [wOp]] at c32
        unfold opV at c32
        have HRW3 : Hid (RW w Fr Fw r p xs2 e2 bs e' (w2.setCell ⟨q, 1, none⟩ (.int .i64 x))) := RW3
        clear RW3 cc hd
        go_wp2_with (go_at_call 32; refine c32.mono ?_; rintro ex w4 ⟨rfl, hd4⟩)
        go_roundw
        case rel =>
          obtain ⟨Fw', hrw4⟩ := HRW3.out.wrote hd4
          exact ⟨k + 1, by omega, by go_num, Fr, Fw', _, _, _, _, hrw4, HAG2.out⟩
        case measure => simp [intOf]; omega
      by_cases h4 : K = 4
      · subst h4
        have cc := ri64_any Fr r xs e W1 RWA.out.rd
        obtain ⟨xs2, hxs2⟩ : ∃ xs2, xs2 = tkRest xs e 8 := ⟨_, rfl⟩
        obtain ⟨e2, he2⟩ : ∃ e2, e2 = tkE xs e 8 := ⟨_, rfl⟩
        obtain ⟨x, hx⟩ : ∃ x, x = rdI xs e := ⟨_, rfl⟩
        rw [← hx] at cc
        rw [← hxs2, ← he2] at cc
        have HAG2 : Hid (Ag b0 (k + 1) (layBs bs e' (be64 x), e').1 (layBs bs e' (be64 x), e').2 xs2 e2) := by rw [hxs2, he2]; exact by rw [hx]; exact ag_i64 HAG.out hxl.out
        clear hxs2 he2 hx
        go_upto_region 24 with (go_at_call 27; refine cc.mono ?_; rintro ex w2 ⟨rfl, hd⟩; have hb2 : OpBlk w2 q 4 N Wd Fl ba bn bc la ln lc M := (hd.2.at' HQ1.out (fun h => HQR.out.2.2.2 h.symm)); obtain ⟨p0, p1, p2, p3, p4, p5, p6⟩ := hb2.at'; have pf := hb2.fz 2; clear hb2)
        have RW3 := (RWA.out.read hd).store (j := 2) HQR.out.1 HQR.out.2.1 HQR.out.2.2.1 (.int .i64 x)
        have c32 := write_any Fw (fun g => (Value.slice ba bn bc).ownBlock = some g) (fun g => (Value.slice la ln lc).ownBlock = some g) p bs e' 4 N x Fl ba bn bc la ln lc M [] [] _ RW3.wr hN (by omega) (fun h => absurd h (by decide)) (fun h => absurd h (by decide))
        rw [show wOp bs e' 4 N x Fl [] [] M = (layBs bs e' (be64 x), e') from by simp [wOp]] at c32
        unfold opV at c32
        have HRW3 : Hid (RW w Fr Fw r p xs2 e2 bs e' (w2.setCell ⟨q, 2, none⟩ (.int .i64 x))) := RW3
        clear RW3 cc hd
        go_wp2_with (go_at_call 32; refine c32.mono ?_; rintro ex w4 ⟨rfl, hd4⟩)
        go_roundw
        case rel =>
          obtain ⟨Fw', hrw4⟩ := HRW3.out.wrote hd4
          exact ⟨k + 1, by omega, by go_num, Fr, Fw', _, _, _, _, hrw4, HAG2.out⟩
        case measure => simp [intOf]; omega
      by_cases h5 : K = 5
      · subst h5
        have cc := rbool_any Fr r xs e W1 RWA.out.rd
        obtain ⟨xs2, hxs2⟩ : ∃ xs2, xs2 = rbRest xs e := ⟨_, rfl⟩
        obtain ⟨e2, he2⟩ : ∃ e2, e2 = rbE xs e := ⟨_, rfl⟩
        obtain ⟨x, hx⟩ : ∃ x, x = rbV xs e := ⟨_, rfl⟩
        rw [← hx] at cc
        rw [← hxs2, ← he2] at cc
        have HAG2 : Hid (Ag b0 (k + 1) (layBs bs e' (flagB x), e').1 (layBs bs e' (flagB x), e').2 xs2 e2) := by rw [hxs2, he2]; exact by rw [hx]; exact ag_bool HAG.out
        clear hxs2 he2 hx
        go_upto_region 24 with (go_at_call 28; refine cc.mono ?_; rintro ex w2 ⟨rfl, hd⟩; have hb2 : OpBlk w2 q 5 N Wd Fl ba bn bc la ln lc M := (hd.2.at' HQ1.out (fun h => HQR.out.2.2.2 h.symm)); obtain ⟨p0, p1, p2, p3, p4, p5, p6⟩ := hb2.at'; have pf := hb2.fz 3; clear hb2)
        have RW3 := (RWA.out.read hd).store (j := 3) HQR.out.1 HQR.out.2.1 HQR.out.2.2.1 (.bool x)
        have c32 := write_any Fw (fun g => (Value.slice ba bn bc).ownBlock = some g) (fun g => (Value.slice la ln lc).ownBlock = some g) p bs e' 5 N Wd x ba bn bc la ln lc M [] [] _ RW3.wr hN (by omega) (fun h => absurd h (by decide)) (fun h => absurd h (by decide))
        rw [show wOp bs e' 5 N Wd x [] [] M = (layBs bs e' (flagB x), e') from by simp [wOp]] at c32
        unfold opV at c32
        have HRW3 : Hid (RW w Fr Fw r p xs2 e2 bs e' (w2.setCell ⟨q, 3, none⟩ (.bool x))) := RW3
        clear RW3 cc hd
        go_wp2_with (go_at_call 32; refine c32.mono ?_; rintro ex w4 ⟨rfl, hd4⟩)
        go_roundw
        case rel =>
          obtain ⟨Fw', hrw4⟩ := HRW3.out.wrote hd4
          exact ⟨k + 1, by omega, by go_num, Fr, Fw', _, _, _, _, hrw4, HAG2.out⟩
        case measure => simp [intOf]; omega
      by_cases h6 : K = 6
      · subst h6
        have cc := rbytes_any Fr r xs e N W1 RWA.out.rd (by omega)
        obtain ⟨xs2, hxs2⟩ : ∃ xs2, xs2 = tkRest xs e N := ⟨_, rfl⟩
        obtain ⟨e2, he2⟩ : ∃ e2, e2 = tkE xs e N := ⟨_, rfl⟩
        obtain ⟨ys, hys⟩ : ∃ ys, ys = tkXs xs e N := ⟨_, rfl⟩
        have hyl : Hid (∀ x ∈ ys, x < 256) := by rw [hys]; exact tkXs_lt e N hxl.out
        have hyn : ys.length ≤ xs.length := by rw [hys]; unfold tkXs; split <;> simp <;> omega
        rw [← hys] at cc
        rw [← hxs2, ← he2] at cc
        have HAG2 : Hid (Ag b0 (k + 1) (layBs bs e' ys, e').1 (layBs bs e' ys, e').2 xs2 e2) := by rw [hxs2, he2]; exact by rw [hys]; exact ag_bytes HAG.out N
        clear hxs2 he2 hys
        go_upto_region 24 with (go_at_call 29; refine cc.mono ?_; rintro ex w2 ⟨v5, rfl, own5, hd⟩; have hb2 : OpBlk w2 q 6 N Wd Fl ba bn bc la ln lc M := (hd.2.at' HQ1.out (fun h => HQR.out.2.2.2 h.symm)); obtain ⟨p0, p1, p2, p3, p4, p5, p6⟩ := hb2.at'; have pf := hb2.fz 4; clear hb2; obtain ⟨a5, k5, rfl, hB5⟩ := Bs.of_owns own5 hyl.out; have HB5 : Hid (Bs w2 (fun g => (Value.slice a5 ys.length k5).ownBlock = some g) a5 ys.length k5 ys ∧ ∀ g, (Value.slice a5 ys.length k5).ownBlock = some g → q < g) := ⟨hB5, fun g hg => by have h1 := (own5.lt g hg).1; rw [HS1.out] at h1; omega⟩; clear hB5 own5)
        have RW3 := (RWA.out.read hd).store (j := 4) HQR.out.1 HQR.out.2.1 HQR.out.2.2.1 (.slice a5 ys.length k5)
        have c32 := write_any Fw (fun g => (Value.slice a5 ys.length k5).ownBlock = some g) (fun g => (Value.slice la ln lc).ownBlock = some g) p bs e' 6 N Wd Fl a5 ys.length k5 la ln lc M ys [] _ RW3.wr hN (by omega) (fun _ => ⟨HB5.out.1.kept (G := fun k => k = q) ((Kept.refl (fun k => k = q) w2).setCell (p := ⟨q, 4, none⟩) (.inl rfl) _) (fun b hb e => by have := HB5.out.2 b hb; omega), by omega⟩) (fun h => absurd h (by decide))
        rw [show wOp bs e' 6 N Wd Fl ys [] M = (layBs bs e' ys, e') from by simp [wOp]] at c32
        unfold opV at c32
        have HRW3 : Hid (RW w Fr Fw r p xs2 e2 bs e' (w2.setCell ⟨q, 4, none⟩ (.slice a5 ys.length k5))) := RW3
        clear RW3 cc hd
        go_wp2_with (go_at_call 32; refine c32.mono ?_; rintro ex w4 ⟨rfl, hd4⟩)
        go_roundw
        case rel =>
          obtain ⟨Fw', hrw4⟩ := HRW3.out.wrote hd4
          exact ⟨k + 1, by omega, by go_num, Fr, Fw', _, _, _, _, hrw4, HAG2.out⟩
        case measure => simp [intOf]; omega
      by_cases h7 : K = 7
      · subst h7
        have cc := getList31_any Fr r xs e M W1 RWA.out.rd (by omega)
        obtain ⟨xs2, hxs2⟩ : ∃ xs2, xs2 = glRest xs e M := ⟨_, rfl⟩
        obtain ⟨e2, he2⟩ : ∃ e2, e2 = glE xs e M := ⟨_, rfl⟩
        obtain ⟨zs, hzs⟩ : ∃ zs, zs = glX xs e M := ⟨_, rfl⟩
        have hzl : Hid (∀ z ∈ zs, z ≤ 9223372036854775807) := by rw [hzs]; exact glX_le xs e M hxl.out
        have hzn : zs.length ≤ xs.length := by rw [hzs]; exact glX_len xs e M hxl.out
        rw [← hzs] at cc
        rw [← hxs2, ← he2] at cc
        have HAG2 : Hid (Ag b0 (k + 1) (pl bs e' zs M).1 (pl bs e' zs M).2 xs2 e2) := by rw [hxs2, he2]; exact by rw [hzs]; exact ag_list HAG.out hxl.out M
        clear hxs2 he2 hzs
        go_upto_region 24 with (go_at_call 30; refine cc.mono ?_; rintro ex w2 ⟨v5, rfl, own5, hd⟩; have hb2 : OpBlk w2 q 7 N Wd Fl ba bn bc la ln lc M := (hd.2.at' HQ1.out (fun h => HQR.out.2.2.2 h.symm)); obtain ⟨p0, p1, p2, p3, p4, p5, p6⟩ := hb2.at'; have pf := hb2.fz 5; clear hb2; obtain ⟨a5, k5, rfl, hB5⟩ := Zs.of_owns own5; have HB5 : Hid (Zs w2 (fun g => (Value.slice a5 zs.length k5).ownBlock = some g) a5 zs.length k5 zs ∧ ∀ g, (Value.slice a5 zs.length k5).ownBlock = some g → q < g) := ⟨hB5, fun g hg => by have h1 := (own5.lt g hg).1; rw [HS1.out] at h1; omega⟩; clear hB5 own5)
        have RW3 := (RWA.out.read hd).store (j := 5) HQR.out.1 HQR.out.2.1 HQR.out.2.2.1 (.slice a5 zs.length k5)
        have c32 := write_any Fw (fun g => (Value.slice ba bn bc).ownBlock = some g) (fun g => (Value.slice a5 zs.length k5).ownBlock = some g) p bs e' 7 N Wd Fl ba bn bc a5 zs.length k5 M [] zs _ RW3.wr hN (by omega) (fun h => absurd h (by decide)) (fun _ => ⟨HB5.out.1.kept (G := fun k => k = q) ((Kept.refl (fun k => k = q) w2).setCell (p := ⟨q, 5, none⟩) (.inl rfl) _) (fun b hb e => by have := HB5.out.2 b hb; omega), fun j hj hf => by have h1 := HB5.out.2 j hj; have h2 := HFL.out.2 j hf; omega, hzl.out, by omega⟩)
        rw [show wOp bs e' 7 N Wd Fl [] zs M = (pl bs e' zs M) from by simp [wOp]] at c32
        unfold opV at c32
        have HRW3 : Hid (RW w Fr Fw r p xs2 e2 bs e' (w2.setCell ⟨q, 5, none⟩ (.slice a5 zs.length k5))) := RW3
        clear RW3 cc hd
        go_wp2_with (go_at_call 32; refine c32.mono ?_; rintro ex w4 ⟨rfl, hd4⟩)
        go_roundw
        case rel =>
          obtain ⟨Fw', hrw4⟩ := HRW3.out.wrote hd4
          exact ⟨k + 1, by omega, by go_num, Fr, Fw', _, _, _, _, hrw4, HAG2.out⟩
        case measure => simp [intOf]; omega
      have r1 : (K == 1) = false := by simpa using h1
      have r2 : (K == 2) = false := by simpa using h2
      have q3 : (K == 3) = false := by simpa using h3
      have q4 : (K == 4) = false := by simpa using h4
      have q5 : (K == 5) = false := by simpa using h5
      have q6 : (K == 6) = false := by simpa using h6
      have q7 : (K == 7) = false := by simpa using h7
      have c32 := write_any Fw No No p bs e' K N Wd Fl ba bn bc la ln lc M [] [] W1 RWA.out.wr hN (by omega) (fun h => absurd h h6) (fun h => absurd h h7)
      rw [show wOp bs e' K N Wd Fl [] [] M = (bs, e') from by simp [wOp, h1, h2, h3, h4, h5, h6, h7]] at c32
      unfold opV at c32
      clear h1 h2 h3 h4 h5 h6 h7
      go_wp2_with (go_at_call 32; refine c32.mono ?_; rintro ex w4 ⟨rfl, hd4⟩)
      go_roundw
      case rel =>
        obtain ⟨Fw', hrw4⟩ := RWA.out.wrote hd4
        exact ⟨k + 1, by omega, by go_num, Fr, Fw', _, _, _, _, hrw4, ag_none HAG.out⟩
      case measure => simp [intOf]; omega
    · have hkm : k = m := by omega
      subst hkm
      have c33 := rdone_any Fr r xs e wr hrw.rd
      have RW0 : Hid (RW w Fr Fw r p xs e bs e' wr) := hrw
      have HAG : Hid (Ag b0 k bs e' xs e) := hag
      have hbl : bs.length + xs.length ≤ n + 8 * k := by have := hag.2; rw [HL.out] at this; exact this
      clear hrw hag
      by_cases hz : rdDone xs e = 0
      · have he : e = 0 := by
          apply Decidable.byContradiction; intro h; unfold rdDone at hz; rw [if_pos h] at hz; exact h hz
        have hxs : xs = [] := by
          apply Decidable.byContradiction; intro h; unfold rdDone at hz; rw [if_neg (by simp [he]), if_neg h] at hz; simp at hz
        obtain ⟨he', hb0⟩ := HAG.out.1 he
        subst he' hxs
        rw [List.append_nil] at hb0
        rw [hz] at c33
        have HB0 : Hid (b0 = bs) := hb0
        clear hz he hb0
        go_upto_region 27 with (go_at_call 33; refine c33.mono ?_; rintro ex w2 ⟨rfl, nd, rfl⟩)
        have c34 := done_any Fw p bs 0 (wr.drewN nd) (RW0.out.wr.drewN nd) (by omega)
        rw [if_pos rfl] at c34
        have hlt0 : Hid (∀ x ∈ bs, x < 256) := by rw [← HB0.out]; exact HB.out.lt
        clear c33
        go_upto_region 28 with (go_at_call 34; refine c34.mono ?_; rintro ex w4 ⟨a4, n4, k4, rfl, hw4, hk4, own4⟩)
        obtain ⟨g4, c4, hv4, hB4⟩ := Bs.of_owns own4 hlt0.out
        obtain ⟨rfl, rfl, rfl⟩ : a4 = g4 ∧ n4 = bs.length ∧ k4 = c4 := by injection hv4 with h1 h2 h3; exact ⟨h1, h2, h3⟩
        have bel4 : Below w.heap.size w w4 := (below_drewN RW0.out.bel nd).trans (hk4.below RW0.out.hiW RW0.out.bel.size)
        have c12 := same_any _ _ _ _ _ _ _ _ bs b0 w4 hB4 (HB.out.below bel4)
        rw [decide_eq_true HB0.out.symm] at c12
        have BEL4 : Hid (Below w.heap.size w w4) := bel4
        clear c34 hw4 hk4 own4 hv4 hB4 bel4
        go_wp2_with (first | (go_at_call 12; refine c12.mono ?_; rintro ex w5 ⟨rfl, nd5, rfl⟩) | (go_at_call 10; refine (works_any _).mono ?_; rintro ex w6 ⟨rfl, bel6⟩))
        go_ret
        exact ⟨rfl, (below_drewN BEL4.out nd5).trans (bel6.mono BEL4.out.size)⟩
      · have hz2 : (rdDone xs e == 0) = false := by simpa using hz
        obtain ⟨D, hD⟩ : ∃ D, D = rdDone xs e := ⟨_, rfl⟩
        rw [← hD] at c33 hz2
        clear hz hD
        go_wp2_with (first | (go_at_call 33; refine c33.mono ?_; rintro ex w2 ⟨rfl, nd, rfl⟩) | (go_at_call 10; refine (works_any _).mono ?_; rintro ex w6 ⟨rfl, bel6⟩))
        go_ret
        exact ⟨rfl, (below_drewN RW0.out.bel nd).trans (bel6.mono RW0.out.bel.size)⟩

end Go.Proofs.Ytakdfpenpodplaa
