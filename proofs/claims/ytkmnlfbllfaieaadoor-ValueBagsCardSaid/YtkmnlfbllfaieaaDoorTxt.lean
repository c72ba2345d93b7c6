/- Plain facts on the texts of values (no program): a text with each quote twice, a blob's digits, a value's text, a row's. No condition. -/
import Derived.Lib.Replace
import Derived.Lib.SplitLaws
import Derived.Lib.ItoaNum
import Derived.Test.YtkmnlfbllfaieaaDoorOrd
namespace Go.Proofs.YtkmnlfbllfaieaaDoor
def dbl (l : List UInt8) : List UInt8 := l.flatMap fun c => if c = 39 then [39, 39] else [c]
theorem dbl_cons (c : UInt8) (l : List UInt8) : dbl (c :: l) = (if c = 39 then [39, 39] else [c]) ++ dbl l := rfl
theorem dbl_len (l : List UInt8) : (dbl l).length ≤ 2 * l.length := by
  induction l with
  | nil => simp [dbl]
  | cons c l ih =>
    rw [dbl_cons, List.length_append, List.length_cons]
    split <;> simp <;> omega
theorem index_cons_ne {b c : UInt8} {l : List UInt8} {i : Nat} (h : b ≠ c) (hi : Lib.index l [c] = i) : Lib.index (b :: l) [c] = ((i + 1 : Nat) : Int) := by
  unfold Lib.index
  have h0 : [c].isPrefixOf (b :: l) = false := by simp [List.isPrefixOf]; intro e; exact h e.symm
  rw [h0, hi]
  have : ((i : Int) == -1) = false := by rw [beq_eq_false_iff_ne]; omega
  simp [this]
theorem repl_core (l : List UInt8) : Lib.replaceK [39] [39, 39] (l.count 39) l = dbl l := by
  induction l with
  | nil => rfl
  | cons b l ih =>
    by_cases h : b = 39
    · subst h
      rw [List.count_cons_self, Lib.replaceK_hit [39] [39, 39] (l.count 39) (39 :: l) 0 (by unfold Lib.index; simp [List.isPrefixOf])]
      simp only [List.take_zero, List.length_cons, List.length_nil, List.drop_succ_cons, List.drop_zero, Nat.zero_add]
      rw [ih, dbl_cons]
      rfl
    · rw [List.count_cons_of_ne (by simpa using h), dbl_cons, if_neg h]
      cases hn : l.count 39 with
      | zero =>
        rw [hn] at ih
        simp only [Lib.replaceK] at ih ⊢
        rw [← ih]
        rfl
      | succ k =>
        rw [hn] at ih
        obtain ⟨i, hi⟩ := Lib.index_of_count (s := l) (old := [39]) (by rw [Lib.count_one, hn]; omega)
        rw [Lib.replaceK_hit _ _ k l i hi] at ih
        rw [Lib.replaceK_hit _ _ k (b :: l) (i + 1) (index_cons_ne h hi), ← ih]
        simp
theorem repl_eq (l : List UInt8) : Lib.replaceAll l [39] [39, 39] = dbl l := by
  unfold Lib.replaceAll Lib.replace Lib.replaceNum
  rw [if_neg (by decide), if_pos (Or.inl (by decide)), Lib.count_one]
  exact repl_core l

def hexd (n : Nat) : UInt8 := [48, 49, 50, 51, 52, 53, 54, 55, 56, 57, 97, 98, 99, 100, 101, 102].getD n 0
def hex2 (c : UInt8) : List UInt8 := [hexd (c.toNat / 16), hexd (c.toNat % 16)]
def hexs (l : List UInt8) : List UInt8 := l.flatMap hex2
theorem hexs_len (l : List UInt8) : (hexs l).length = 2 * l.length := by
  induction l with
  | nil => rfl
  | cons c l ih => show (hex2 c ++ hexs l).length = _; rw [List.length_append, ih]; simp [hex2]; omega
theorem hexs_snoc (l : List UInt8) (k : Nat) (h : k < l.length) : hexs (l.take (k + 1)) = hexs (l.take k) ++ hex2 l[k] := by
  unfold hexs; rw [List.take_succ_eq_append_getElem h, List.flatMap_append]; simp
theorem dbl_snoc (l : List UInt8) (k : Nat) (h : k < l.length) : dbl (l.take (k + 1)) = dbl (l.take k) ++ (if l[k] = 39 then [39, 39] else [l[k]]) := by
  unfold dbl; rw [List.take_succ_eq_append_getElem h, List.flatMap_append]; simp

def txt (k i : Int) (s : ByteArray) : List UInt8 :=
  if k = 0 then [78, 85, 76, 76] else if k = 1 then (if i = 1 then [84, 82, 85, 69] else [70, 65, 76, 83, 69]) else if k = 2 then Lib.itoa i
  else if k = 3 then [39] ++ dbl s.data.toList ++ [39] else [120, 39] ++ hexs s.data.toList ++ [39]
def V.txt (v : V) : List UInt8 := Go.Proofs.YtkmnlfbllfaieaaDoor.txt v.k v.i v.s
def body : List V → List UInt8
  | [] => []
  | v :: l => v.txt ++ l.flatMap fun u => [44, 32] ++ u.txt
theorem body_snoc (xs : List V) (k : Nat) (h : k < xs.length) : body (xs.take (k + 1)) = body (xs.take k) ++ ((if 0 < k then [44, 32] else []) ++ xs[k].txt) := by
  rw [List.take_succ_eq_append_getElem h]
  cases k with
  | zero => simp [body]
  | succ k =>
    cases xs with
    | nil => simp at h
    | cons v l =>
      simp [body]
      rw [List.take_succ_eq_append_getElem (show k < l.length by simpa using h), List.flatMap_append]
      simp
def rowTxt (xs : List V) : List UInt8 := [40] ++ body xs ++ [41]
end Go.Proofs.YtkmnlfbllfaieaaDoor
