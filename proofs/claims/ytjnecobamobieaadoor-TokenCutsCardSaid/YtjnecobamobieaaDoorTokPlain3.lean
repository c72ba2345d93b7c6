/- Plain facts on tokens (no program): a number by its digits, a blob by its pairs, blanks one by one, words that are reserved, names. No condition. -/
import Derived.Test.YtjnecobamobieaaDoorTokPlain2
import Derived.Lib.ParseIntB
namespace Go.Proofs.YtjnecobamobieaaDoor
def decV (acc : Nat) (l : List UInt8) : Nat := l.foldl (fun a c => 10 * a + (c.toNat - 48)) acc
def dgs (l : List UInt8) : List UInt8 := l.takeWhile isDig
theorem decV_le (acc : Nat) (l : List UInt8) : acc ≤ decV acc l := by
  induction l generalizing acc with
  | nil => exact Nat.le_refl _
  | cons c r ih => exact Nat.le_trans (by omega) (ih (10 * acc + (c.toNat - 48)))
theorem numV_eq (l : List UInt8) : ∀ acc, acc ≤ 9223372036854775808 → numV acc l = if decV acc (dgs l) ≤ 9223372036854775808 then some (decV acc (dgs l), (dgs l).length) else none := by
  induction l with
  | nil => intro acc h; simp [numV, dgs, decV, h]
  | cons c r ih =>
    intro acc h
    unfold numV
    by_cases hc : isDig c = true
    · rw [if_pos hc]
      have e1 : dgs (c :: r) = c :: dgs r := List.takeWhile_cons_of_pos hc
      have e2 : decV acc (c :: dgs r) = decV (10 * acc + (c.toNat - 48)) (dgs r) := rfl
      rw [e1, e2]
      by_cases ho : 9223372036854775808 < 10 * acc + (c.toNat - 48)
      · have := decV_le (10 * acc + (c.toNat - 48)) (dgs r)
        rw [if_pos ho, if_neg (by omega)]
      · rw [if_neg ho, ih _ (by omega)]
        by_cases h2 : decV (10 * acc + (c.toNat - 48)) (dgs r) ≤ 9223372036854775808
        · rw [if_pos h2, if_pos h2]
          rfl
        · rw [if_neg h2, if_neg h2]
          rfl
    · rw [if_neg hc]
      have e1 : dgs (c :: r) = [] := List.takeWhile_cons_of_neg hc
      rw [e1]
      simp [decV, h]
theorem isDig_iff (c : UInt8) : isDig c = true ↔ 48 ≤ c.toNat ∧ c.toNat ≤ 57 := by
  simp [isDig, UInt8.le_iff_toNat_le]
theorem parseM (l : List UInt8) (hd : ∀ c ∈ l, isDig c = true) : ∀ acc, acc ≤ 18446744073709551615 → Lib.parseUintM 18446744073709551615 acc l = if decV acc l ≤ 18446744073709551615 then .ok (decV acc l) else .range := by
  induction l with
  | nil => intro acc h; simp [Lib.parseUintM, decV, h]
  | cons c r ih =>
    intro acc h
    have hc := (isDig_iff c).1 (hd c (by simp))
    have e2 : decV acc (c :: r) = decV (10 * acc + (c.toNat - 48)) r := rfl
    have hle := decV_le (10 * acc + (c.toNat - 48)) r
    unfold Lib.parseUintM
    rw [if_pos hc, e2]
    by_cases h1 : 1844674407370955162 ≤ acc
    · rw [if_pos h1, if_neg (by omega)]
    · rw [if_neg h1]
      by_cases h2 : 18446744073709551615 < acc * 10 + (c.toNat - 48)
      · rw [if_pos h2, if_neg (by omega)]
      · rw [if_neg h2, Nat.mul_comm acc 10, ih (fun c hc => hd c (List.mem_cons_of_mem _ hc)) _ (by omega)]
theorem mem_dgs {l : List UInt8} {c : UInt8} (h : c ∈ dgs l) : isDig c = true := by
  have := List.all_takeWhile (p := isDig) (l := l)
  rw [List.all_eq_true] at this
  exact this c h
/-- A number of digits alone, not none of them. -/
theorem parse_dgs (l : List UInt8) (hn : dgs l ≠ []) : Lib.parseUintB 64 (dgs l) = if decV 0 (dgs l) ≤ 18446744073709551615 then .ok (decV 0 (dgs l)) else .range := by
  unfold Lib.parseUintB
  rw [if_neg hn]
  exact parseM (dgs l) (fun c hc => mem_dgs hc) 0 (by omega)
/-- A number's token, by its digits. -/
theorem oneT_num (c : UInt8) (r : List UInt8) (hc : isDig c = true) : oneT (c :: r) = if headIs ((c :: r).drop (dgs (c :: r)).length) isLet = true then none else
    if decV 0 (dgs (c :: r)) ≤ 9223372036854775808 then some ⟨2, [], i64Of (decV 0 (dgs (c :: r))), (dgs (c :: r)).length⟩ else none := by
  have hx := (isDig_iff c).1 hc
  have h1 : ¬ ((c = 120 ∨ c = 88) ∧ r.head? = some 39) := fun h => by rcases h.1 with h | h <;> (subst h; exact absurd hx.2 (by decide))
  have h2 : isLet c = false := by
    simp only [isLet, Bool.or_eq_false_iff, Bool.and_eq_false_iff, decide_eq_false_iff_not, UInt8.le_iff_toNat_le, beq_eq_false_iff_ne, ne_eq]
    refine ⟨⟨Or.inl ?_, Or.inl ?_⟩, fun h => ?_⟩
    · change ¬ 97 ≤ c.toNat; omega
    · change ¬ 65 ≤ c.toNat; omega
    · subst h; exact absurd hx.2 (by decide)
  simp only [oneT]
  rw [if_neg h1, if_neg (by simp [h2]), if_pos hc, numV_eq _ 0 (by omega)]
  by_cases hv : decV 0 (dgs (c :: r)) ≤ 9223372036854775808
  · rw [if_pos hv, if_pos hv]
    rfl
  · rw [if_neg hv, if_neg hv]
    split <;> rfl
/-- A blob's bytes by pairs of digits. -/
def hexP : List UInt8 → Option (List UInt8)
  | [] => some []
  | [_] => none
  | c :: d :: r => (hexV c).bind fun h => (hexV d).bind fun g => (hexP r).map fun p => UInt8.ofNat (16 * h + g) :: p
def toQ (l : List UInt8) : List UInt8 := l.takeWhile fun c => c != 39
theorem blbR_eq (l : List UInt8) : blbR l = if 39 ∈ l ∧ (toQ l).length % 2 = 0 then (hexP (toQ l)).map (fun p => (p, (toQ l).length + 1)) else none := by
  match l with
  | [] => simp [blbR]
  | [c] =>
    by_cases hc : c = 39
    · subst hc; simp [blbR, toQ, hexP]
    · simp [blbR, hc, Ne.symm hc]
  | c :: d :: r =>
    unfold blbR
    by_cases hc : c = 39
    · subst hc; simp [toQ, hexP]
    · rw [if_neg hc]
      simp only
      by_cases hd : d = 39
      · subst hd
        have e1 : toQ (c :: 39 :: r) = [c] := by simp [toQ, hc]
        rw [e1, if_neg (by simp)]
        cases hexV c <;> rfl
      · have e1 : toQ (c :: d :: r) = c :: d :: toQ r := by simp [toQ, hc, hd]
        rw [e1, blbR_eq r]
        have e2 : (39 ∈ c :: d :: r ∧ (c :: d :: toQ r).length % 2 = 0) ↔ (39 ∈ r ∧ (toQ r).length % 2 = 0) := by
          simp [Ne.symm hc, Ne.symm hd]
          omega
        by_cases h : 39 ∈ r ∧ (toQ r).length % 2 = 0
        · rw [if_pos h, if_pos (e2.2 h)]
          simp only [hexP]
          cases hexV c with
          | none => rfl
          | some x => cases hexV d with
            | none => rfl
            | some y => cases hexP (toQ r) <;> rfl
        · rw [if_neg h, if_neg (fun hh => h (e2.1 hh))]
          cases hexV c with
          | none => rfl
          | some x => cases hexV d <;> rfl
/-- Blanks gone by. -/
theorem cut_past {l : List UInt8} {m : Nat} (h : bl false l = m + bl false (l.drop m)) (p : Nat) : cutP p l = cutP (p + m) (l.drop m) := by
  rw [cutP_eq p l, cutP_eq (p + m) (l.drop m), h]
  simp only [List.drop_drop, Nat.add_assoc]
theorem bl_ws {c : UInt8} {r : List UInt8} (h : isWs c = true) : bl false (c :: r) = 1 + bl false r := by
  simp only [bl]
  rw [if_pos h]
theorem bl_line (l : List UInt8) (m : Nat) (h : ∀ i, i < m → l[i]? ≠ some 10) (hm : l[m]? = some 10) : bl true l = m + 1 + bl false (l.drop (m + 1)) := by
  induction l generalizing m with
  | nil => simp at hm
  | cons c r ih =>
    cases m with
    | zero =>
      simp at hm
      subst hm
      simp only [bl, if_true, Nat.zero_add, List.drop_succ_cons, List.drop_zero]
    | succ m =>
      have hc : c ≠ 10 := fun hc => h 0 (by omega) (by simp [hc])
      simp only [bl]
      rw [if_neg hc, ih m (fun i hi => by have := h (i + 1) (by omega); simpa using this) (by simpa using hm)]
      simp only [List.drop_succ_cons]
      omega
theorem bl_noline (l : List UInt8) (h : ∀ i : Nat, l[i]? ≠ some 10) : bl true l = l.length := by
  induction l with
  | nil => simp [bl]
  | cons c r ih =>
    have hc : c ≠ 10 := fun hc => h 0 (by simp [hc])
    simp only [bl]
    rw [if_neg hc, ih (fun i => by have := h (i + 1); simpa using this), List.length_cons]
    omega
theorem bl_dash (r : List UInt8) : bl false (45 :: 45 :: r) = bl true (45 :: 45 :: r) := by
  simp [bl, isWs]
theorem bl_none {c : UInt8} {r : List UInt8} (h : isWs c = false) (h2 : ¬ (c = 45 ∧ r.head? = some 45)) : bl false (c :: r) = 0 := by
  simp only [bl]
  rw [if_neg (by simp [h]), if_neg h2]
/-- A list of tokens ahead of what is cut. -/
def preE (us : List T) : Except Nat (List T) → Except Nat (List T)
  | .error q => .error q
  | .ok ts => .ok (us ++ ts)
theorem cut_one {l : List UInt8} {t : Tk} (hl : l ≠ []) (hb : bl false l = 0) (ho : oneT l = some t) (p : Nat) : cutP p l = preE [⟨t.k, t.s, t.i, p⟩] (cutP (p + t.n) (l.drop t.n)) := by
  rw [cutP_eq p l, hb]
  simp only [List.drop_zero, Nat.add_zero, Nat.zero_add]
  rw [if_neg hl, ho]
  dsimp only
  cases cutP (p + t.n) (l.drop t.n) <;> rfl
theorem cut_bad {l : List UInt8} (hl : l ≠ []) (hb : bl false l = 0) (ho : oneT l = none) (p : Nat) : cutP p l = .error p := by
  rw [cutP_eq p l, hb]
  simp only [List.drop_zero, Nat.add_zero]
  rw [if_neg hl, ho]
theorem cut_none (p : Nat) {l : List UInt8} (h : bl false l = l.length) : cutP p l = .ok [⟨6, [], 0, p + l.length⟩] := by
  rw [cutP_eq p l, h, if_pos (by simp)]
theorem preE_pre (us vs : List T) (e : Except Nat (List T)) : preE us (preE vs e) = preE (us ++ vs) e := by
  cases e <;> simp [preE]
theorem preE_nil (e : Except Nat (List T)) : preE [] e = e := by cases e <;> rfl
end Go.Proofs.YtjnecobamobieaaDoor
