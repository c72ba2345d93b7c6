/- What the walks of token's functions share: a token's value, boxes of tokens that a walk lays one behind the other. No condition. -/
import Derived.Test.YtjnecobamobieaaDoorProg
import Derived.Test.YtjnecobamobieaaDoorTokPlain4
import Derived.WalkKit
import Derived.WalkSpells
import Derived.WalkLawsBesides
import Derived.Lib.Hide
import Derived.Lib.Walk
import Derived.Deep.Light
import Derived.IntWalk
import Derived.StillTailTactics
import Derived.Lib.Bytealg
import Derived.Lib.SplitLaws
namespace Go.Proofs.YtjnecobamobieaaDoor
open Go.RowKit
theorem ret_int {k : IntKind} {a b : Int} (h : a = b) : Ending.returned (.int k a) = .returned (.int k b) := by rw [h]
theorem ret_bool {a b : Bool} (h : a = b) : Ending.returned (.bool a) = .returned (.bool b) := by rw [h]
theorem ret_str {a b : ByteArray} (h : a = b) : Ending.returned (.string a) = .returned (.string b) := by rw [h]
theorem size_list (s : ByteArray) : s.data.toList.length = s.size := by simp
theorem ext_list (s : ByteArray) (i j : Nat) : (s.extract i j).data.toList = (s.data.toList.drop i).take (j - i) := Lib.extract_data s i j
theorem ext_end (s : ByteArray) (i : Nat) : (s.extract i s.size).data.toList = s.data.toList.drop i := by
  rw [ext_list, List.take_of_length_le (by rw [List.length_drop, size_list]; exact Nat.le_refl _)]
theorem ext_begin (s : ByteArray) (i : Nat) : (s.extract 0 i).data.toList = s.data.toList.take i := by rw [ext_list, List.drop_zero, Nat.sub_zero]
theorem app_list (a b : ByteArray) : (a ++ b).data.toList = a.data.toList ++ b.data.toList := by simp
theorem size_app (a b : ByteArray) : (a ++ b).size = a.size + b.size := by simp
theorem bool_iff {a b : Bool} (h : a = true ↔ b = true) : a = b := by cases a <;> cases b <;> simp_all
theorem bthen {w w1 w2 : World} (h : Below w.heap.size w w1) (h' : Below w1.heap.size w1 w2) : Below w.heap.size w w2 := h.trans (h'.mono h.size)
/-- A text of these bytes. -/
def str (l : List UInt8) : ByteArray := ⟨l.toArray⟩
theorem str_list (l : List UInt8) : (str l).data.toList = l := by simp [str]
theorem list_str (s : ByteArray) : str s.data.toList = s := by simp [str]
theorem str_size (l : List UInt8) : (str l).size = l.length := by rw [← size_list, str_list]
theorem str_inj {l m : List UInt8} (h : str l = str m) : l = m := by rw [← str_list l, h, str_list]
/-- A token's value, and its cells. -/
def T.val (t : T) : Value := .agg #[.int .i64 t.k, .string (str t.s), .int .i64 t.i, .int .i64 t.p]
def zT : T := ⟨0, [], 0, 0⟩
/-- What stands at a token and its length: none is the zero token and 0. -/
def got : Option Tk → T × Nat
  | none => (zT, 0)
  | some t => (⟨t.k, t.s, t.i, 0⟩, t.n)
def tup (o : Option Tk) : Value := .tuple #[(got o).1.val, .int .i64 (got o).2]
/-- What the reference tells of a token at a place; of none, anything with false. -/
def Told (o : Option Tk) (i : Nat) (v : Value) : Prop := match o with
  | some t => v = .tuple #[(⟨t.k, t.s, t.i, i⟩ : T).val, .int .i64 (i + t.n : Nat), .bool true]
  | none => ∃ (u : T) (y : Int), v = .tuple #[u.val, .int .i64 y, .bool false]
def TBox (w : World) (b : Nat) (t : T) : Prop := w.heap[b]? = some (.cells #[.int .i64 t.k, .string (str t.s), .int .i64 t.i, .int .i64 t.p] 30 (0, 0))
theorem TBox.lt {w : World} {b : Nat} {t : T} (h : TBox w b t) : b < w.heap.size := (Array.getElem?_eq_some_iff.1 h).1
theorem TBox.cells {w : World} {b : Nat} {t : T} (h : TBox w b t) : w.cell? ⟨b, 0, none⟩ = some (.int .i64 t.k) ∧ w.cell? ⟨b, 1, none⟩ = some (.string (str t.s)) ∧ w.cell? ⟨b, 2, none⟩ = some (.int .i64 t.i) ∧ w.cell? ⟨b, 3, none⟩ = some (.int .i64 t.p) :=
  ⟨by rw [Lib.cell_of_heap h]; rfl, by rw [Lib.cell_of_heap h]; rfl, by rw [Lib.cell_of_heap h]; rfl, by rw [Lib.cell_of_heap h]; rfl⟩
theorem TBox.free {w : World} {b : Nat} {t : T} (h : TBox w b t) : w.frozen? ⟨b, 0, none⟩ = false ∧ w.frozen? ⟨b, 1, none⟩ = false ∧ w.frozen? ⟨b, 2, none⟩ = false ∧ w.frozen? ⟨b, 3, none⟩ = false :=
  ⟨Lib.frozen_of_heap h 0, Lib.frozen_of_heap h 1, Lib.frozen_of_heap h 2, Lib.frozen_of_heap h 3⟩
theorem TBox.later {w w' : World} {b : Nat} {t : T} (h : TBox w b t) (hb : Below w.heap.size w w') : TBox w' b t := (hb.block b h.lt).trans h
theorem TBox.made (w : World) (t : T) : TBox (w.alloc (.cells #[.int .i64 t.k, .string (str t.s), .int .i64 t.i, .int .i64 t.p] 30)) w.heap.size t := heap_alloc_new w _
theorem zbox (w : World) : TBox (w.alloc (.cells #[.int .i64 0, .string ⟨#[]⟩, .int .i64 0, .int .i64 0] 30)) w.heap.size zT := TBox.made w zT
theorem TBox.zcells {w : World} {b : Nat} (h : TBox w b zT) : w.cell? ⟨b, 0, none⟩ = some (.int .i64 0) ∧ w.cell? ⟨b, 1, none⟩ = some (.string ⟨#[]⟩) ∧ w.cell? ⟨b, 2, none⟩ = some (.int .i64 0) ∧ w.cell? ⟨b, 3, none⟩ = some (.int .i64 0) := h.cells
theorem Below.set4 {B : Nat} {a w : World} (h : Below B a w) {b : Nat} (hb : B ≤ b) (x y z u : Value) : Below B a ((((w.setCell ⟨b, 0, none⟩ x).setCell ⟨b, 1, none⟩ y).setCell ⟨b, 2, none⟩ z).setCell ⟨b, 3, none⟩ u) := (((h.setCell hb _).setCell hb _).setCell hb _).setCell hb _
/-- Bytes as numbers. -/
theorem u8_lt (c : UInt8) : (c.toNat : Int) < 256 := by have := c.toNat_lt; omega
theorem isLet_eq (c : UInt8) : isLet c = decide ((97 ≤ c.toNat ∧ c.toNat ≤ 122) ∨ (65 ≤ c.toNat ∧ c.toNat ≤ 90) ∨ c.toNat = 95) := by
  apply bool_iff
  simp only [isLet, Bool.or_eq_true, Bool.and_eq_true, decide_eq_true_iff, UInt8.le_iff_toNat_le, beq_iff_eq, ← UInt8.toNat_inj]
  change ((97 ≤ c.toNat ∧ c.toNat ≤ 122) ∨ (65 ≤ c.toNat ∧ c.toNat ≤ 90)) ∨ c.toNat = 95 ↔ _
  omega
theorem isDig_eq (c : UInt8) : isDig c = decide (48 ≤ c.toNat ∧ c.toNat ≤ 57) := bool_iff (by rw [isDig_iff, decide_eq_true_iff])
theorem isWs_eq (c : UInt8) : isWs c = decide (c.toNat = 32 ∨ c.toNat = 9 ∨ c.toNat = 10 ∨ c.toNat = 13) := by
  apply bool_iff
  simp only [isWs, Bool.or_eq_true, decide_eq_true_iff, beq_iff_eq, ← UInt8.toNat_inj]
  change ((c.toNat = 32 ∨ c.toNat = 9) ∨ c.toNat = 10) ∨ c.toNat = 13 ↔ _
  omega
theorem isCap_eq (c : UInt8) : isCap c = decide (65 ≤ c.toNat ∧ c.toNat ≤ 90) := by
  apply bool_iff
  simp only [isCap, Bool.and_eq_true, decide_eq_true_iff, UInt8.le_iff_toNat_le]
  exact Iff.rfl
end Go.Proofs.YtjnecobamobieaaDoor
