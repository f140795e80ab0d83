/-
  trace: goes, told, fieldsOf, Show.
-/
import Derived.Test.YtjhhldgbllbbhaaGreatDoorVShelf
import Derived.Lib.LaidTab
import Derived.WalkSmall
namespace Go.Proofs.YtjhhldgbllbbhaaGreatDoor
open Go.RowKit
set_option linter.unusedVariables false
set_option linter.unusedSimpArgs false
set_option maxRecDepth 100000

def NMS : List ByteArray := [⟨#[]⟩, ⟨#[99, 97, 108, 108]⟩, ⟨#[108, 111, 103]⟩, ⟨#[102, 97, 117, 108, 116]⟩, ⟨#[109, 105, 115, 115]⟩, ⟨#[111, 118, 101, 114, 114, 117, 110]⟩, ⟨#[114, 101, 115, 116, 97, 114, 116]⟩, ⟨#[105, 100, 108, 101]⟩, ⟨#[119, 97, 107, 101]⟩, ⟨#[97, 114, 114, 105, 118, 101]⟩, ⟨#[108, 111, 115, 116]⟩, ⟨#[111, 117, 116]⟩, ⟨#[115, 116, 97, 114, 116]⟩]
def tokI (n : Int) : ByteArray := ⟨(Lib.itoa n).toArray⟩
/-- the tables, as they are laid -/
structure En (w : World) : Prop where
  kn : ∀ j s, NMS[j]? = some s → w.cell? ⟨0, j, none⟩ = some (.string s)
  tab : Lib.TabIs Tryz.prog w "internal/strconv.uint64pow10" .u64 Lib.pow10Tab
theorem gPow : ∃ g, Tryz.prog.globalNamed "internal/strconv.uint64pow10" = some g := by
  refine ⟨1, ?_⟩
  kernel_rfl
theorem En.keep {w w' : World} (h : En w) (K : Kept No w w') : En w' := by
  refine ⟨fun j v hv => K.cell (h.kn j v hv) (fun e => e), ?_⟩
  obtain ⟨g, hg⟩ := gPow
  have ht := h.tab
  unfold Lib.TabIs World.var? at ht ⊢
  rw [hg] at ht ⊢
  simp only [Option.bind_some] at ht ⊢
  have hlt : g < w.heap.size := by
    by_cases e : g < w.heap.size
    · exact e
    · have : w.heap[g]? = none := by simp; omega
      rw [this] at ht
      cases ht
  rw [K.block g hlt (fun e => e)]
  exact ht
theorem grow_kept (w : World) (k : Nat) (os : Array Obj) : Kept No w (Go.Sort.grow (w.drewN k) os) :=
  ⟨rfl, rfl, rfl, by show w.heap.size ≤ (w.heap ++ os).size; simp, fun j hj _ => by show (w.heap ++ os)[j]? = w.heap[j]?; exact Array.getElem?_append_left hj⟩
/-- a field of a line: a number, a word, a kind -/
structure Fl where
  g : Nat
  n : Int
def Fl.i (n : Int) : Fl := ⟨0, n⟩
def Fl.w (n : Int) : Fl := ⟨1, n⟩
def Fl.k (n : Int) : Fl := ⟨2, n⟩
def Fl.val (f : Fl) : Value := match f.g with
  | 0 => .iface 3 (.int .i64 f.n)
  | 1 => .iface 2 (.int .i64 f.n)
  | _ => .iface 61 (.int .i64 f.n)
def Fl.tok (f : Fl) : ByteArray := match f.g with
  | 0 => tokI f.n
  | 1 => tokI f.n
  | _ => NMS.getD f.n.toNat ⟨#[]⟩
def Fl.ok (f : Fl) : Prop := match f.g with
  | 0 => T6 f.n
  | 1 => T6 f.n
  | _ => 0 ≤ f.n ∧ f.n < 13
theorem ta_yes {P : Program} {t xT : TypeId} {d : TypeDesc} (v : Value) (h : P.underlying t = some d) (hd : ∀ m, d ≠ .interface m) (w : World) : (Instr.typeAssert (.iface t v) xT t true).run P w = .ok (.tuple #[v, .bool true]) w := by
  cases d <;> first | exact absurd rfl (hd _) | simp [Instr.typeAssert, run_underlying h, go_sem, Result.andThen]
theorem ta_no {P : Program} {t s xT : TypeId} {d : TypeDesc} {z : Value} (v : Value) (h : P.underlying s = some d) (hd : ∀ m, d ≠ .interface m) (hne : t ≠ s) (hz : ∀ w, (zeroValue s).run P w = .ok z w) (w : World) : (Instr.typeAssert (.iface t v) xT s true).run P w = .ok (.tuple #[z, .bool false]) w := by
  cases d <;> first | exact absurd rfl (hd _) | simp [Instr.typeAssert, run_underlying h, go_sem, Result.andThen, hne, hz]
theorem told_i (n : Int) (w : World) (hn : T6 n) (en : En w) : Calls Tryz.prog 15 #[.iface 3 (.int .i64 n)] w fun e w' => e = .returned (.string (tokI n)) ∧ Kept No w w' := by
  have c := itoa_any n hn.1 hn.2 w en.tab
  have e0 : (⟨(Lib.itoa n).toArray⟩ : ByteArray) = tokI n := rfl
  rw [e0] at c
  generalize tokI n = t at *
  clear hn en e0
  have q1 := fun w => ta_yes (xT := 20) (.int .i64 n) Tryz.underlying3 (fun m => by simp) w
  go_enter Tryz.func15, Tryz.ntmps15
  go_wp2_with (go_at_call 31; refine c.mono ?_; rintro e w' ⟨rfl, k, os, rfl⟩)
  go_ret
  exact ⟨rfl, grow_kept w k os⟩
theorem told_w (n : Int) (w : World) (hn : T6 n) (en : En w) : Calls Tryz.prog 15 #[.iface 2 (.int .i64 n)] w fun e w' => e = .returned (.string (tokI n)) ∧ Kept No w w' := by
  have c := fmt_any n hn.1 hn.2 w en.tab
  have e0 : (⟨(Lib.itoa n).toArray⟩ : ByteArray) = tokI n := rfl
  rw [e0] at c
  generalize tokI n = t at *
  clear hn en e0
  have q1 := fun w => ta_no (t := 2) (xT := 20) (.int .i64 n) Tryz.underlying3 (fun m => by simp) (by decide) Tryz.zeroValue3 w
  have q2 := fun w => ta_yes (xT := 20) (.int .i64 n) Tryz.underlying2 (fun m => by simp) w
  go_enter Tryz.func15, Tryz.ntmps15
  go_wp2_with (go_at_call 32; refine c.mono ?_; rintro e w' ⟨rfl, k, os, rfl⟩)
  go_ret
  exact ⟨rfl, grow_kept w k os⟩
theorem told_k (n : Nat) (w : World) (hn : n < 13) (en : En w) : Calls Tryz.prog 15 #[.iface 61 (.int .i64 (n : Int))] w fun e w' => e = .returned (.string (NMS.getD n ⟨#[]⟩)) ∧ Kept No w w' := by
  have c := en.kn n (NMS.getD n ⟨#[]⟩) (by rw [List.getD, List.getElem?_eq_getElem (by show n < 13; exact hn)]; rfl)
  generalize NMS.getD n ⟨#[]⟩ = t at *
  have hz : (n : Int) < 13 := by omega
  clear en
  have q1 := fun w => ta_no (t := 61) (xT := 20) (.int .i64 (n : Int)) Tryz.underlying3 (fun m => by simp) (by decide) Tryz.zeroValue3 w
  have q2 := fun w => ta_no (t := 61) (xT := 20) (.int .i64 (n : Int)) Tryz.underlying2 (fun m => by simp) (by decide) Tryz.zeroValue2 w
  have q3 := fun w => ta_yes (xT := 20) (.int .i64 (n : Int)) Tryz.underlying61 (fun m => by simp) w
  go_enter Tryz.func15, Tryz.ntmps15
  go_wp2
  go_ret
  exact ⟨rfl, Kept.refl _ _⟩
theorem told_any (f : Fl) (w : World) (hf : f.ok) (en : En w) : Calls Tryz.prog 15 #[f.val] w fun e w' => e = .returned (.string f.tok) ∧ Kept No w w' := by
  obtain ⟨g, n⟩ := f
  match g, hf with
  | 0, hf => exact told_i n w hf en
  | 1, hf => exact told_w n w hf en
  | _ + 2, hf =>
    have h1 : 0 ≤ n ∧ n < 13 := hf
    obtain ⟨m, rfl⟩ : ∃ m : Nat, n = (m : Int) := ⟨n.toNat, by omega⟩
    exact told_k m w (by omega) en
end Go.Proofs.YtjhhldgbllbbhaaGreatDoor
