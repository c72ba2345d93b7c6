/- Plain facts on rows' bytes and keys (no program): a number's bytes, a text with its zeros guarded, a value, a row; what is read of bytes. No condition. -/
import Derived.Lib.Replace
import Derived.Lib.SplitLaws
import Derived.Test.YtnpemegklndegaaDoorOrd
import Derived.Test.YtnpemegklndegaaDoorRowDef
namespace Go.Proofs.YtnpemegklndegaaDoor
/-- A number's lowest bytes, so many, the highest first. -/
def be (n : Nat) : Nat → List UInt8
  | 0 => []
  | k + 1 => UInt8.ofNat (n / 256 ^ k) :: be n k
def unbe (l : List UInt8) : Nat := l.foldl (fun a c => a * 256 + c.toNat) 0
theorem be_length (n k : Nat) : (be n k).length = k := by
  induction k with
  | zero => rfl
  | succ k ih => simp [be, ih]
theorem be_get (n k j : Nat) (h : j < k) : (be n k)[j]? = some (UInt8.ofNat (n / 256 ^ (k - 1 - j))) := by
  induction k generalizing j with
  | zero => omega
  | succ k ih =>
    cases j with
    | zero => simp [be]
    | succ j =>
      simp only [be, List.getElem?_cons_succ]
      rw [ih j (by omega)]
      congr 4
      omega
theorem foldl_be (a : Nat) (l : List UInt8) : l.foldl (fun a c => a * 256 + c.toNat) a = a * 256 ^ l.length + unbe l := by
  unfold unbe
  induction l generalizing a with
  | nil => simp
  | cons c l ih =>
    simp only [List.foldl_cons, List.length_cons]
    rw [ih, ih (0 * 256 + c.toNat), Nat.pow_succ, Nat.zero_mul, Nat.zero_add, Nat.add_mul]
    have : a * 256 * 256 ^ l.length = a * (256 ^ l.length * 256) := by rw [Nat.mul_assoc, Nat.mul_comm 256]
    omega
theorem unbe_cons (c : UInt8) (l : List UInt8) : unbe (c :: l) = c.toNat * 256 ^ l.length + unbe l := by
  show (c :: l).foldl _ 0 = _
  rw [List.foldl_cons, foldl_be]
  simp
theorem unbe_snoc (l : List UInt8) (c : UInt8) : unbe (l ++ [c]) = unbe l * 256 + c.toNat := by
  unfold unbe
  rw [List.foldl_append]
  rfl
theorem unbe_lt (l : List UInt8) : unbe l < 256 ^ l.length := by
  induction l with
  | nil => simp [unbe]
  | cons c l ih =>
    rw [unbe_cons, List.length_cons, Nat.pow_succ]
    have := c.toNat_lt
    have h2 : c.toNat * 256 ^ l.length ≤ 255 * 256 ^ l.length := Nat.mul_le_mul_right _ (by omega)
    omega
theorem be_mod (n k : Nat) : be n k = be (n % 256 ^ k) k := by
  have key : ∀ j k, j ≤ k → ∀ n, be n j = be (n % 256 ^ k) j := by
    intro j
    induction j with
    | zero => intros; rfl
    | succ j ih =>
      intro k hk n
      simp only [be]
      rw [← ih k (by omega) n]
      congr 1
      apply UInt8.toNat_inj.1
      simp only [UInt8.toNat_ofNat']
      obtain ⟨d, rfl⟩ : ∃ d, k = j + 1 + d := ⟨k - (j + 1), by omega⟩
      show n / 256 ^ j % 256 = n % 256 ^ (j + 1 + d) / 256 ^ j % 256
      rw [show 256 ^ (j + 1 + d) = 256 ^ j * (256 * 256 ^ d) by rw [Nat.pow_add, Nat.pow_succ, Nat.mul_assoc], Nat.mod_mul_right_div_self, Nat.mod_mul_right_mod]
  exact key k k (Nat.le_refl _) n
theorem unbe_be (n k : Nat) (h : n < 256 ^ k) : unbe (be n k) = n := by
  induction k generalizing n with
  | zero => simp at h; subst h; rfl
  | succ k ih =>
    have hp : 0 < 256 ^ k := Nat.pow_pos (by omega)
    have h1 : n / 256 ^ k < 256 := by
      rw [Nat.pow_succ] at h
      exact Nat.div_lt_of_lt_mul h
    simp only [be]
    rw [unbe_cons, be_length, be_mod n k, ih (n % 256 ^ k) (Nat.mod_lt _ hp)]
    simp only [UInt8.toNat_ofNat']
    rw [Nat.mod_eq_of_lt h1, Nat.mul_comm]
    exact Nat.div_add_mod n (256 ^ k)
theorem be_unbe (l : List UInt8) : be (unbe l) l.length = l := by
  induction l with
  | nil => rfl
  | cons c l ih =>
    have hp : 0 < 256 ^ l.length := Nat.pow_pos (by omega)
    have hl := unbe_lt l
    simp only [List.length_cons, be]
    rw [unbe_cons, be_mod, Nat.mul_comm, Nat.mul_add_mod, Nat.mod_eq_of_lt hl, ih, Nat.mul_add_div hp, Nat.div_eq_of_lt hl]
    simp

def toU (i : Int) : Nat := (i % 18446744073709551616).toNat
def ofU (n : Nat) : Int := if n < 9223372036854775808 then n else (n : Int) - 18446744073709551616
def trn (f : Bool) (n : Nat) : Nat := if f then (n + 9223372036854775808) % 18446744073709551616 else n
theorem toU_lt (i : Int) : toU i < 18446744073709551616 := by unfold toU; omega
theorem ofU_toU (i : Int) (h0 : -9223372036854775808 ≤ i) (h1 : i ≤ 9223372036854775807) : ofU (toU i) = i := by unfold ofU toU; split <;> omega
theorem toU_ofU (n : Nat) (h : n < 18446744073709551616) : toU (ofU n) = n := by unfold ofU toU; split <;> omega
theorem trn_lt (f : Bool) (n : Nat) (h : n < 18446744073709551616) : trn f n < 18446744073709551616 := by unfold trn; split <;> omega
theorem trn_trn (f : Bool) (n : Nat) (h : n < 18446744073709551616) : trn f (trn f n) = n := by unfold trn; split <;> omega
theorem ofU_fits (n : Nat) (h : n < 18446744073709551616) : -9223372036854775808 ≤ ofU n ∧ ofU n ≤ 9223372036854775807 := by unfold ofU; split <;> omega

def esc (l : List UInt8) : List UInt8 := l.flatMap fun c => if c = 0 then [0, 255] else [c]
theorem esc_cons (c : UInt8) (l : List UInt8) : esc (c :: l) = (if c = 0 then [0, 255] else [c]) ++ esc l := rfl
theorem esc_append (l m : List UInt8) : esc (l ++ m) = esc l ++ esc m := by unfold esc; rw [List.flatMap_append]
theorem esc_len (l : List UInt8) : (esc l).length ≤ 2 * l.length := by
  induction l with
  | nil => simp [esc]
  | cons c l ih =>
    rw [esc_cons, List.length_append, List.length_cons]
    split <;> simp <;> omega
theorem esc_snoc (l : List UInt8) (k : Nat) (h : k < l.length) : esc (l.take (k + 1)) = esc (l.take k) ++ (if l[k] = 0 then [0, 255] else [l[k]]) := by
  rw [List.take_succ_eq_append_getElem h, esc_append]; simp [esc]
def wTxt (f : Bool) (l : List UInt8) : List UInt8 := if f then esc l ++ [0, 0] else be l.length 4 ++ l
def wOf (f : Bool) (k i : Int) (s : ByteArray) : List UInt8 :=
  if k = 1 then [UInt8.ofNat (i % 256).toNat] else if k = 2 then be (trn f (toU i)) 8 else if k = 3 ∨ k = 4 then wTxt f s.data.toList else []
def wVal (f : Bool) (v : V) : List UInt8 := UInt8.ofNat (v.k % 256).toNat :: wOf f v.k v.i v.s
def wRow (f : Bool) (xs : List V) : List UInt8 := xs.flatMap (wVal f)
theorem wRow_append (f : Bool) (xs ys : List V) : wRow f (xs ++ ys) = wRow f xs ++ wRow f ys := by unfold wRow; rw [List.flatMap_append]
theorem wRow_snoc (f : Bool) (xs : List V) (k : Nat) (h : k < xs.length) : wRow f (xs.take (k + 1)) = wRow f (xs.take k) ++ wVal f xs[k] := by
  rw [List.take_succ_eq_append_getElem h, wRow_append]; simp [wRow]
theorem wTxt_len (f : Bool) (l : List UInt8) : (wTxt f l).length ≤ 2 * l.length + 4 := by
  unfold wTxt
  have := esc_len l
  split <;> simp [be_length] <;> omega
theorem wVal_len (f : Bool) (v : V) : (wVal f v).length ≤ 2 * v.s.size + 9 := by
  have h := wTxt_len f v.s.data.toList
  have h2 : v.s.data.toList.length = v.s.size := by simp
  unfold wVal wOf
  simp only [List.length_cons]
  split
  · simp
  · split
    · simp [be_length]
    · split <;> simp <;> omega
theorem wVal_pos (f : Bool) (v : V) : 0 < (wVal f v).length := by simp [wVal]

/-- A text's own bytes, and how many they take, out of a key. -/
def unesc : List UInt8 → Option (List UInt8 × Nat)
  | [] => none
  | c :: l => if c = 0 then
      match l with
      | [] => none
      | d :: l' => if d = 0 then some ([], 2) else if d = 255 then (unesc l').map fun p => (0 :: p.1, p.2 + 2) else none
    else (unesc l).map fun p => (c :: p.1, p.2 + 1)
def rTxt (f : Bool) (l : List UInt8) : Option (List UInt8 × Nat) :=
  if f then unesc l else if 4 ≤ l.length ∧ unbe (l.take 4) ≤ 2147483647 ∧ unbe (l.take 4) ≤ l.length - 4 then some ((l.drop 4).take (unbe (l.take 4)), 4 + unbe (l.take 4)) else none
def rOf (f : Bool) (k : UInt8) (l : List UInt8) : Option (V × Nat) :=
  if k = 0 then some (⟨0, 0, ⟨#[]⟩⟩, 1)
  else if k = 1 then (if 0 < l.length ∧ (l.getD 0 0).toNat ≤ 1 then some (⟨1, (l.getD 0 0).toNat, ⟨#[]⟩⟩, 2) else none)
  else if k = 2 then (if 8 ≤ l.length then some (⟨2, ofU (trn f (unbe (l.take 8))), ⟨#[]⟩⟩, 9) else none)
  else if k = 3 ∨ k = 4 then (rTxt f l).map fun p => (⟨k.toNat, 0, ⟨p.1.toArray⟩⟩, 1 + p.2)
  else none
def rVal (f : Bool) : List UInt8 → Option (V × Nat)
  | [] => none
  | k :: l => rOf f k l
def rVals (f : Bool) : Nat → List UInt8 → Option (List V × Nat)
  | 0, _ => some ([], 0)
  | n + 1, l => (rVal f l).bind fun p => (rVals f n (l.drop p.2)).map fun q => (p.1 :: q.1, p.2 + q.2)
def dec : List UInt8 → Option (List V × Nat)
  | [] => none
  | c :: l => if 64 < c.toNat then none else (rVals false c.toNat l).map fun q => (q.1, 1 + q.2)
def rAll : Nat → List UInt8 → Option (List V)
  | _, [] => some []
  | 0, _ :: _ => none
  | n + 1, c :: l => (rVal true (c :: l)).bind fun p => (rAll n ((c :: l).drop p.2)).map (p.1 :: ·)

theorem unesc_esc (l rest : List UInt8) : unesc (esc l ++ 0 :: 0 :: rest) = some (l, (esc l).length + 2) := by
  induction l with
  | nil => simp [esc, unesc]
  | cons c l ih =>
    rw [esc_cons]
    by_cases h : c = 0
    · subst h
      simp only [if_true, List.cons_append, List.nil_append, unesc]
      rw [ih]
      simp
    · simp only [if_neg h, List.cons_append, List.nil_append]
      conv => lhs; unfold unesc
      rw [if_neg h, ih]
      simp
theorem esc_unesc : ∀ (l : List UInt8) (p : List UInt8) (n : Nat), unesc l = some (p, n) → n ≤ l.length ∧ esc p ++ [0, 0] = l.take n
  | [], p, n, h => by simp [unesc] at h
  | [c], p, n, h => by
    by_cases hc : c = 0 <;> simp [unesc, hc] at h
  | c :: d :: l, p, n, h => by
    unfold unesc at h
    by_cases hc : c = 0
    · simp only [if_pos hc] at h
      by_cases hd : d = 0
      · simp only [if_pos hd, Option.some.injEq, Prod.mk.injEq] at h
        obtain ⟨rfl, rfl⟩ := h
        simp [hc, hd, esc]
      · by_cases he : d = 255
        · simp only [if_neg hd, if_pos he, Option.map_eq_some_iff] at h
          obtain ⟨⟨q, m⟩, hq, h⟩ := h
          simp only [Prod.mk.injEq] at h
          obtain ⟨rfl, rfl⟩ := h
          obtain ⟨h1, h2⟩ := esc_unesc l q m hq
          refine ⟨by simp; omega, ?_⟩
          rw [esc_cons, if_pos rfl, List.append_assoc, h2, hc, he]
          simp
        · simp [if_neg hd, if_neg he] at h
    · simp only [if_neg hc, Option.map_eq_some_iff] at h
      obtain ⟨⟨q, m⟩, hq, h⟩ := h
      simp only [Prod.mk.injEq] at h
      obtain ⟨rfl, rfl⟩ := h
      obtain ⟨h1, h2⟩ := esc_unesc (d :: l) q m hq
      refine ⟨by simp at h1 ⊢; omega, ?_⟩
      rw [esc_cons, if_neg hc, List.append_assoc, h2]
      simp
end Go.Proofs.YtnpemegklndegaaDoor
