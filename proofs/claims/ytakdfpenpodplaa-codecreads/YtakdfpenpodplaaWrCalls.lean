/-
  The Writer's calls: U8, U16, U32, I64, Bool.
-/
import Derived.Test.YtakdfpenpodplaaWrNum
namespace Go.Proofs.Ytakdfpenpodplaa
open Go.RowKit
set_option linter.unusedVariables false

theorem Wr.box2 {F : Nat → Prop} {p : Nat} {bs : List Nat} {e : Int} {w : World} (h : Wr w F p bs e) (a b : Obj) : Wr ((w.alloc a).alloc b) F p bs e := h.kept (((Kept.refl No w).alloc _).alloc _) (fun _ _ h => h)
theorem Wr.box3 {F : Nat → Prop} {p : Nat} {bs : List Nat} {e : Int} {w : World} (h : Wr w F p bs e) (a b c : Obj) : Wr (((w.alloc a).alloc b).alloc c) F p bs e := h.kept ((((Kept.refl No w).alloc _).alloc _).alloc _) (fun _ _ h => h)
theorem Wr.c1 {F : Nat → Prop} {p : Nat} {bs : List Nat} {e : Int} {w : World} (h : Wr w F p bs e) : w.cell? ⟨p, 1, none⟩ = some (.int .i64 e) := by obtain ⟨v, hv⟩ := h; exact hv.c1

theorem size_alloc (w : World) (o : Obj) : (w.alloc o).heap.size = w.heap.size + 1 := by simp
theorem cell_new (w : World) (u : Value) (t : TypeId) (b : Nat) (hb : b = w.heap.size) : (w.alloc (.cells #[u] t)).cell? ⟨b, 0, none⟩ = some u := by subst hb; simp
theorem cell_old (w : World) (o : Obj) (a : Addr) (h : a.block < w.heap.size) : (w.alloc o).cell? a = w.cell? a := World.cell?_of_block (Below.heap_alloc _ _ _ h)

set_option maxHeartbeats 1000000 in
theorem number_any (F : Nat → Prop) (p : Nat) (bs : List Nat) (e x : Int) (width : Nat) (w : World) (hw : width = 1 ∨ width = 2 ∨ width = 4) (h : Wr w F p bs e) (hsz : bs.length ≤ 140737488355300) (hx : x ≤ 9223372036854775807) :
    Calls Try.prog 93 #[.pointer (some ⟨p, 0, none⟩), .int .i64 x, .int .i64 width] w fun ex w' => ex = .returned (.tuple #[]) ∧ WrDid F p (numBs bs e x width) (numE e x width) w w' := by
  have hmf : ∀ (fn : Fn) (first cap : Array Value) (w : World), (Instr.makeFunc fn first cap).run Try.prog w = .ok (.func fn first cap) w := fun _ _ _ _ => rfl
  have H : Hid (Wr w F p bs e) := h
  clear h
  by_cases he : e = 0
  · subst he
    obtain ⟨W, hW⟩ : ∃ W, W = (((w.alloc (.cells #[.pointer (some ⟨p, 0, none⟩)] 39)).alloc (.cells #[.int .i64 x] 3)).alloc (.cells #[.int .i64 width] 3)) := ⟨_, rfl⟩
    have d1 : W.cell? ⟨w.heap.size + 1, 0, none⟩ = some (.int .i64 x) := by rw [hW, cell_old _ _ _ (by simp)]; exact cell_new _ _ _ _ (by simp)
    have d2 : W.cell? ⟨w.heap.size + 1 + 1, 0, none⟩ = some (.int .i64 width) := by rw [hW]; exact cell_new _ _ _ _ (by simp)
    have d3 : W.cell? ⟨w.heap.size, 0, none⟩ = some (.pointer (some ⟨p, 0, none⟩)) := by rw [hW, cell_old _ _ _ (by simp; omega), cell_old _ _ _ (by simp)]; exact cell_new _ _ _ _ rfl
    have hWr : Wr W F p bs 0 := by rw [hW]; exact H.out.box3 _ _ _
    have c := gate_104 _ _ _ p _ (WrDid F p (numBs bs 0 x width) 0 _) (numE 0 x width) hWr.c1 (number1_any F p bs x width _ _ _ _ hw hWr hsz hx d1 d2 d3) (fun _ h => h.cells)
    rw [hW] at c
    clear d1 d2 d3 hWr hW
    go_enter Try.func93, Try.ntmps93
    go_wp2_with (go_at_call 64; refine c.mono ?_; rintro ex w1 ⟨rfl, w2, hd, rfl⟩)
    go_end0
    exact ⟨rfl, (hd.put1 _).ahead ((((Kept.refl No w).alloc _).alloc _).alloc _)⟩
  · have he2 : (e == 0) = false := by simpa using he
    have e1 : numE e x width = e := by unfold numE; rw [if_pos he]
    have e2 : numBs bs e x width = bs := by unfold numBs; rw [if_pos he]
    rw [e1, e2]
    go_enter Try.func93, Try.ntmps93
    go_wp2_with (go_at_call 64; refine (gate_no _ p e _ (H.out.box3 _ _ _).c1 he2).mono ?_; rintro ex w1 ⟨rfl, rfl⟩)
    go_end0
    exact ⟨rfl, WrDid.still H.out ((((Kept.refl No w).alloc _).alloc _).alloc _)⟩

theorem u8_any (F : Nat → Prop) (p : Nat) (bs : List Nat) (e x : Int) (w : World) (h : Wr w F p bs e) (hsz : bs.length ≤ 140737488355300) (hx : x ≤ 9223372036854775807) :
    Calls Try.prog 48 #[.pointer (some ⟨p, 0, none⟩), .int .i64 x] w fun ex w' => ex = .returned (.tuple #[]) ∧ WrDid F p (numBs bs e x 1) (numE e x 1) w w' := by
  have c : Calls Try.prog 93 #[.pointer (some ⟨p, 0, none⟩), .int .i64 x, .int .i64 1] w fun ex w' => ex = .returned (.tuple #[]) ∧ WrDid F p (numBs bs e x 1) (numE e x 1) w w' := number_any F p bs e x 1 w (by omega) h hsz hx
  clear h
  go_enter Try.func48, Try.ntmps48
  go_wp2_with (go_at_call 93; refine c.mono ?_; rintro ex w1 ⟨rfl, hd⟩)
  go_end0
  exact ⟨rfl, hd⟩

theorem u16_any (F : Nat → Prop) (p : Nat) (bs : List Nat) (e x : Int) (w : World) (h : Wr w F p bs e) (hsz : bs.length ≤ 140737488355300) (hx : x ≤ 9223372036854775807) :
    Calls Try.prog 49 #[.pointer (some ⟨p, 0, none⟩), .int .i64 x] w fun ex w' => ex = .returned (.tuple #[]) ∧ WrDid F p (numBs bs e x 2) (numE e x 2) w w' := by
  have c : Calls Try.prog 93 #[.pointer (some ⟨p, 0, none⟩), .int .i64 x, .int .i64 2] w fun ex w' => ex = .returned (.tuple #[]) ∧ WrDid F p (numBs bs e x 2) (numE e x 2) w w' := number_any F p bs e x 2 w (by omega) h hsz hx
  clear h
  go_enter Try.func49, Try.ntmps49
  go_wp2_with (go_at_call 93; refine c.mono ?_; rintro ex w1 ⟨rfl, hd⟩)
  go_end0
  exact ⟨rfl, hd⟩

theorem u32_any (F : Nat → Prop) (p : Nat) (bs : List Nat) (e x : Int) (w : World) (h : Wr w F p bs e) (hsz : bs.length ≤ 140737488355300) (hx : x ≤ 9223372036854775807) :
    Calls Try.prog 47 #[.pointer (some ⟨p, 0, none⟩), .int .i64 x] w fun ex w' => ex = .returned (.tuple #[]) ∧ WrDid F p (numBs bs e x 4) (numE e x 4) w w' := by
  have c : Calls Try.prog 93 #[.pointer (some ⟨p, 0, none⟩), .int .i64 x, .int .i64 4] w fun ex w' => ex = .returned (.tuple #[]) ∧ WrDid F p (numBs bs e x 4) (numE e x 4) w w' := number_any F p bs e x 4 w (by omega) h hsz hx
  clear h
  go_enter Try.func47, Try.ntmps47
  go_wp2_with (go_at_call 93; refine c.mono ?_; rintro ex w1 ⟨rfl, hd⟩)
  go_end0
  exact ⟨rfl, hd⟩

/-- what the Writer holds behind bytes that it is always given -/
def layBs (bs : List Nat) (e : Int) (news : List Nat) : List Nat := if e ≠ 0 then bs else bs ++ news

/-- the eight bytes of a number -/
def be64 (x : Int) : List Nat := be (x % 18446744073709551616).toNat 8

set_option maxHeartbeats 1000000 in
theorem i641_any (F : Nat → Prop) (p : Nat) (bs : List Nat) (x : Int) (w : World) (b1 b2 : Nat) (h : Wr w F p bs 0) (hsz : bs.length ≤ 140737488355300)
    (d1 : w.cell? ⟨b1, 0, none⟩ = some (.pointer (some ⟨p, 0, none⟩))) (d2 : w.cell? ⟨b2, 0, none⟩ = some (.int .i64 x)) :
    Calls Try.prog 97 #[.pointer (some ⟨b1, 0, none⟩), .pointer (some ⟨b2, 0, none⟩)] w fun ex w' => ex = .returned (.int .i64 0) ∧ WrDid F p (bs ++ be64 x) 0 w w' := by
  obtain ⟨n, hn⟩ : ∃ n : Nat, n = (x % 18446744073709551616).toNat := ⟨_, rfl⟩
  have e5 : IntKind.u64.wrap x = (n : Int) := by rw [IntKind.wrap_u64, hn]; omega
  have hlt : n < 18446744073709551616 := by omega
  have c : Calls Try.prog 95 #[.pointer (some ⟨p, 0, none⟩), .int .u64 (n : Int), .int .i64 8] w fun ex w' => ex = .returned (.tuple #[]) ∧ WrDid F p (bs ++ be64 x) 0 w w' := by
    unfold be64; rw [← hn]; exact lay_any F p bs 0 n 8 w hlt (by omega) h hsz
  clear h hn hlt
  go_enter Try.func97, Try.ntmps97
  go_wp2_with (go_at_call 95; refine c.mono ?_; rintro ex w1 ⟨rfl, hd⟩)
  go_ret
  exact ⟨rfl, hd⟩

set_option maxHeartbeats 1000000 in
theorem i64_any (F : Nat → Prop) (p : Nat) (bs : List Nat) (e x : Int) (w : World) (h : Wr w F p bs e) (hsz : bs.length ≤ 140737488355300) :
    Calls Try.prog 61 #[.pointer (some ⟨p, 0, none⟩), .int .i64 x] w fun ex w' => ex = .returned (.tuple #[]) ∧ WrDid F p (layBs bs e (be64 x)) e w w' := by
  have hmf : ∀ (fn : Fn) (first cap : Array Value) (w : World), (Instr.makeFunc fn first cap).run Try.prog w = .ok (.func fn first cap) w := fun _ _ _ _ => rfl
  have H : Hid (Wr w F p bs e) := h
  clear h
  by_cases he : e = 0
  · subst he
    rw [show layBs bs 0 (be64 x) = bs ++ be64 x from if_neg (by simp)]
    obtain ⟨W, hW⟩ : ∃ W, W = ((w.alloc (.cells #[.pointer (some ⟨p, 0, none⟩)] 39)).alloc (.cells #[.int .i64 x] 2)) := ⟨_, rfl⟩
    have d2 : W.cell? ⟨w.heap.size + 1, 0, none⟩ = some (.int .i64 x) := by rw [hW]; exact cell_new _ _ _ _ (by simp)
    have d1 : W.cell? ⟨w.heap.size, 0, none⟩ = some (.pointer (some ⟨p, 0, none⟩)) := by rw [hW, cell_old _ _ _ (by simp)]; exact cell_new _ _ _ _ rfl
    have hWr : Wr W F p bs 0 := by rw [hW]; exact H.out.box2 _ _
    have c := gate_97 _ _ p _ (WrDid F p (bs ++ be64 x) 0 _) 0 hWr.c1 (i641_any F p bs x _ _ _ hWr hsz d1 d2) (fun _ h => h.cells)
    rw [hW] at c
    clear d1 d2 hWr hW
    go_enter Try.func61, Try.ntmps61
    go_wp2_with (go_at_call 64; refine c.mono ?_; rintro ex w1 ⟨rfl, w2, hd, rfl⟩)
    go_end0
    exact ⟨rfl, (hd.put1 _).ahead (((Kept.refl No w).alloc _).alloc _)⟩
  · have he2 : (e == 0) = false := by simpa using he
    rw [show layBs bs e (be64 x) = bs from if_pos he]
    go_enter Try.func61, Try.ntmps61
    go_wp2_with (go_at_call 64; refine (gate_no _ p e _ (H.out.box2 _ _).c1 he2).mono ?_; rintro ex w1 ⟨rfl, rfl⟩)
    go_end0
    exact ⟨rfl, WrDid.still H.out (((Kept.refl No w).alloc _).alloc _)⟩

/-- a flag's byte -/
def flagB (x : Bool) : List Nat := [if x then 1 else 0]

set_option maxHeartbeats 1000000 in
theorem bool1_any (F : Nat → Prop) (p : Nat) (bs : List Nat) (x : Bool) (w : World) (b1 b2 : Nat) (h : Wr w F p bs 0) (hsz : bs.length ≤ 140737488355300)
    (d1 : w.cell? ⟨b1, 0, none⟩ = some (.bool x)) (d2 : w.cell? ⟨b2, 0, none⟩ = some (.pointer (some ⟨p, 0, none⟩))) :
    Calls Try.prog 94 #[.pointer (some ⟨b1, 0, none⟩), .pointer (some ⟨b2, 0, none⟩)] w fun ex w' => ex = .returned (.int .i64 0) ∧ WrDid F p (bs ++ flagB x) 0 w w' := by
  cases x with
  | true =>
    have c : Calls Try.prog 95 #[.pointer (some ⟨p, 0, none⟩), .int .u64 1, .int .i64 1] w fun ex w' => ex = .returned (.tuple #[]) ∧ WrDid F p (bs ++ flagB true) 0 w w' := lay_any F p bs 0 1 1 w (by omega) (by omega) h hsz
    clear h
    go_enter Try.func94, Try.ntmps94
    go_wp2_with (go_at_call 95; refine c.mono ?_; rintro ex w1 ⟨rfl, hd⟩)
    go_ret
    exact ⟨rfl, hd⟩
  | false =>
    have c : Calls Try.prog 95 #[.pointer (some ⟨p, 0, none⟩), .int .u64 0, .int .i64 1] w fun ex w' => ex = .returned (.tuple #[]) ∧ WrDid F p (bs ++ flagB false) 0 w w' := lay_any F p bs 0 0 1 w (by omega) (by omega) h hsz
    clear h
    go_enter Try.func94, Try.ntmps94
    go_wp2_with (go_at_call 95; refine c.mono ?_; rintro ex w1 ⟨rfl, hd⟩)
    go_ret
    exact ⟨rfl, hd⟩

set_option maxHeartbeats 1000000 in
theorem bool_any (F : Nat → Prop) (p : Nat) (bs : List Nat) (e : Int) (x : Bool) (w : World) (h : Wr w F p bs e) (hsz : bs.length ≤ 140737488355300) :
    Calls Try.prog 50 #[.pointer (some ⟨p, 0, none⟩), .bool x] w fun ex w' => ex = .returned (.tuple #[]) ∧ WrDid F p (layBs bs e (flagB x)) e w w' := by
  have hmf : ∀ (fn : Fn) (first cap : Array Value) (w : World), (Instr.makeFunc fn first cap).run Try.prog w = .ok (.func fn first cap) w := fun _ _ _ _ => rfl
  have H : Hid (Wr w F p bs e) := h
  clear h
  by_cases he : e = 0
  · subst he
    rw [show layBs bs 0 (flagB x) = bs ++ flagB x from if_neg (by simp)]
    obtain ⟨W, hW⟩ : ∃ W, W = ((w.alloc (.cells #[.pointer (some ⟨p, 0, none⟩)] 39)).alloc (.cells #[.bool x] 4)) := ⟨_, rfl⟩
    have d1 : W.cell? ⟨w.heap.size + 1, 0, none⟩ = some (.bool x) := by rw [hW]; exact cell_new _ _ _ _ (by simp)
    have d2 : W.cell? ⟨w.heap.size, 0, none⟩ = some (.pointer (some ⟨p, 0, none⟩)) := by rw [hW, cell_old _ _ _ (by simp)]; exact cell_new _ _ _ _ rfl
    have hWr : Wr W F p bs 0 := by rw [hW]; exact H.out.box2 _ _
    have c := gate_94 _ _ p _ (WrDid F p (bs ++ flagB x) 0 _) 0 hWr.c1 (bool1_any F p bs x _ _ _ hWr hsz d1 d2) (fun _ h => h.cells)
    rw [hW] at c
    clear d1 d2 hWr hW
    go_enter Try.func50, Try.ntmps50
    go_wp2_with (go_at_call 64; refine c.mono ?_; rintro ex w1 ⟨rfl, w2, hd, rfl⟩)
    go_end0
    exact ⟨rfl, (hd.put1 _).ahead (((Kept.refl No w).alloc _).alloc _)⟩
  · have he2 : (e == 0) = false := by simpa using he
    rw [show layBs bs e (flagB x) = bs from if_pos he]
    go_enter Try.func50, Try.ntmps50
    go_wp2_with (go_at_call 64; refine (gate_no _ p e _ (H.out.box2 _ _).c1 he2).mono ?_; rintro ex w1 ⟨rfl, rfl⟩)
    go_end0
    exact ⟨rfl, WrDid.still H.out (((Kept.refl No w).alloc _).alloc _)⟩

end Go.Proofs.Ytakdfpenpodplaa
