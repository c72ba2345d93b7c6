/- Plain facts on numbers of 64 bits: when a sum, a product, a quotient and what is left of it fit, and how that is told by numbers that went round. No condition. -/
import Derived.Test.YtdffnkopbackiaaDoorVal0
import Derived.IntWalk
namespace Go.Proofs.YtdffnkopbackiaaDoor
open Go.RowKit
def okN (n : Int) : Bool := decide (-9223372036854775808 ≤ n ∧ n ≤ 9223372036854775807)
/-- Which of the five words, by number; 0: none. -/
def opk (op : ByteArray) : Nat := if op.toList == [43] then 1 else if op.toList == [45] then 2 else if op.toList == [42] then 3 else if op.toList == [47] then 4 else if op.toList == [37] then 5 else 0
/-- The number itself, with room for any. -/
def numX (p : Nat) (a b : Int) : Int := if p = 1 then a + b else if p = 2 then a - b else if p = 3 then a * b else if p = 4 then a.tdiv b else a.tmod b
def numE (p : Nat) (a b : Int) : Int := if (p = 4 ∨ p = 5) ∧ b = 0 then 31 else if okN (numX p a b) then 0 else 30
def numR (p : Nat) (a b : Int) : Int := if numE p a b = 0 then numX p a b else 0
def In64 (n : Int) : Prop := -9223372036854775808 ≤ n ∧ n ≤ 9223372036854775807
theorem okN_iff {n : Int} : okN n = true ↔ In64 n := by unfold okN In64; simp
theorem okN_no {n : Int} : okN n = false ↔ ¬ In64 n := by rw [← okN_iff]; simp
def fitR (n : Int) (b : Bool) : Int := if b then n else 0
def fitE (b : Bool) : Int := if b then 0 else 30
theorem numE_at {p : Nat} {a b : Int} (h : ¬ ((p = 4 ∨ p = 5) ∧ b = 0)) : numE p a b = fitE (okN (numX p a b)) := by
  unfold numE fitE
  rw [if_neg h]
theorem num_fit {p : Nat} {a b n : Int} (h : ¬ ((p = 4 ∨ p = 5) ∧ b = 0)) (hn : In64 (numX p a b) → n = numX p a b) : numR p a b = fitR n (okN (numX p a b)) ∧ numE p a b = fitE (okN (numX p a b)) := by
  refine ⟨?_, numE_at h⟩
  unfold numR
  rw [numE_at h]
  unfold fitR fitE
  cases hk : okN (numX p a b)
  · rfl
  · simp only [if_true]
    rw [hn (okN_iff.1 hk)]
theorem num_lo {p : Nat} {a b n : Int} (hp : p = 1 ∨ p = 2 ∨ p = 3) (hn : In64 (numX p a b) → n = numX p a b) : numR p a b = fitR n (okN (numX p a b)) ∧ numE p a b = fitE (okN (numX p a b)) :=
  num_fit (fun h => by omega) hn
theorem num_hi {p : Nat} {a b n : Int} (hb : ¬ b = 0) (hn : In64 (numX p a b) → n = numX p a b) : numR p a b = fitR n (okN (numX p a b)) ∧ numE p a b = fitE (okN (numX p a b)) :=
  num_fit (fun h => hb h.2) hn
theorem num_zero {p : Nat} {a : Int} (hp : p = 4 ∨ p = 5) : numR p a 0 = 0 ∧ numE p a 0 = 31 := by
  have h : numE p a 0 = 31 := by unfold numE; rw [if_pos ⟨hp, rfl⟩]
  refine ⟨?_, h⟩
  unfold numR
  rw [h]
  rfl
/-- A sum went round, or it did not. -/
theorem wrap_cases (n : Int) : ∃ t : Int, wrap64 n = n + t * 18446744073709551616 ∧ In64 (wrap64 n) ∧ (In64 n → t = 0) := by
  unfold wrap64 In64
  refine ⟨-((n + 9223372036854775808) / 18446744073709551616), ?_, ?_, ?_⟩ <;> omega
theorem wrap_id {n : Int} (h : In64 n) : wrap64 n = n := by unfold wrap64; unfold In64 at h; omega
theorem add_tell {a b : Int} (ha : In64 a) (hb : In64 b) : (decide (a < wrap64 (a + b)) == decide (0 < b)) = okN (a + b) ∧ (decide (0 ≤ b) == decide (a ≤ wrap64 (a + b))) = okN (a + b) := by
  obtain ⟨t, h1, h2, h3⟩ := wrap_cases (a + b)
  rw [h1] at h2 ⊢
  unfold okN
  unfold In64 at *
  constructor <;> · rw [Bool.eq_iff_iff]; simp only [beq_iff_eq, decide_eq_decide, decide_eq_true_eq]; omega
theorem sub_tell {a b : Int} (ha : In64 a) (hb : In64 b) : (decide (wrap64 (a - b) < a) == decide (0 < b)) = okN (a - b) ∧ (decide (0 ≤ b) == decide (wrap64 (a - b) ≤ a)) = okN (a - b) := by
  obtain ⟨t, h1, h2, h3⟩ := wrap_cases (a - b)
  rw [h1] at h2 ⊢
  unfold okN
  unfold In64 at *
  constructor <;> · rw [Bool.eq_iff_iff]; simp only [beq_iff_eq, decide_eq_decide, decide_eq_true_eq]; omega
def atEnd (a b : Int) : Bool := a == -9223372036854775808 && b == -1
theorem tmod_lt {a b : Int} (hb : In64 b) (h0 : ¬ b = 0) : In64 (a.tmod b) ∧ (a.tmod b).natAbs < b.natAbs := by
  have h : (a.tmod b).natAbs < b.natAbs := by
    rw [Int.natAbs_tmod]
    exact Nat.mod_lt _ (by omega)
  unfold In64 at *
  exact ⟨by omega, h⟩
theorem tdiv_tell {a b : Int} (ha : In64 a) (h0 : ¬ b = 0) : okN (a.tdiv b) = !atEnd a b := by
  have h : (a.tdiv b).natAbs = a.natAbs / b.natAbs := Int.natAbs_tdiv a b
  by_cases hb1 : b = -1
  · subst hb1
    rw [Int.tdiv_neg, Int.tdiv_one]
    unfold okN atEnd
    unfold In64 at ha
    rw [Bool.eq_iff_iff]
    simp
    omega
  · have e : atEnd a b = false := by unfold atEnd; simp; intro _; exact hb1
    rw [e]
    rw [show okN (a.tdiv b) = true from ?_]; rfl
    rw [okN_iff]
    unfold In64 at *
    by_cases hb2 : b = 1
    · subst hb2; rw [Int.tdiv_one]; exact ha
    · have h2 : 2 ≤ b.natAbs := by omega
      have h3 : a.natAbs / b.natAbs ≤ a.natAbs / 2 := Nat.div_le_div_left h2 (by omega)
      omega
theorem mul_tell {a b : Int} (ha : In64 a) (hb : In64 b) (h0 : ¬ b = 0) : (wrap64 ((wrap64 (a * b)).tdiv b) == a && !atEnd a b) = okN (a * b) := by
  obtain ⟨t, h1, h2, h3⟩ := wrap_cases (a * b)
  by_cases hok : In64 (a * b)
  · rw [okN_iff.2 hok, wrap_id hok, Int.mul_tdiv_cancel _ h0, wrap_id ha]
    have e : atEnd a b = false := by
      unfold atEnd
      rw [Bool.and_eq_false_iff]
      by_cases h : a = -9223372036854775808
      · right
        simp
        rintro rfl
        subst h
        unfold In64 at hok
        omega
      · left
        simpa using h
    rw [e]
    simp
  · rw [okN_no.2 hok, Bool.and_eq_false_iff]
    by_cases he : atEnd a b = true
    · right; rw [he]; rfl
    · left
      have he' : atEnd a b = false := by simpa using he
      simp only [beq_eq_false_iff_ne, ne_eq]
      intro hq
      have hd := tdiv_tell (a := wrap64 (a * b)) (b := b) h2 h0
      by_cases hn : atEnd (wrap64 (a * b)) b = true
      · unfold atEnd at hn
        simp at hn
        obtain ⟨hn1, rfl⟩ := hn
        rw [hn1] at hq
        rw [show ((-9223372036854775808 : Int).tdiv (-1)) = 9223372036854775808 by decide] at hq
        rw [show wrap64 9223372036854775808 = -9223372036854775808 by unfold wrap64; decide] at hq
        unfold atEnd at he'
        rw [← hq] at he'
        simp at he'
      · have hn' : atEnd (wrap64 (a * b)) b = false := by simpa using hn
        rw [hn'] at hd
        rw [wrap_id (okN_iff.1 (by rw [hd]; rfl))] at hq
        have h4 := Int.mul_tdiv_add_tmod (wrap64 (a * b)) b
        have h5 := (tmod_lt (a := wrap64 (a * b)) hb h0).2
        generalize (wrap64 (a * b)).tmod b = r at *
        rw [hq, Int.mul_comm b a, h1] at h4
        generalize a * b = p at *
        unfold In64 at *
        omega
theorem tmod_ok {a b : Int} (hb : In64 b) (h0 : ¬ b = 0) : okN (a.tmod b) = true := okN_iff.2 (tmod_lt hb h0).1
theorem neg_tell {b : Int} (hb : In64 b) : okN (-1 * b) = (b != -9223372036854775808) ∧ okN (b * -1) = (b != -9223372036854775808) := by
  unfold okN
  unfold In64 at hb
  constructor <;> · rw [Bool.eq_iff_iff]; simp; omega
end Go.Proofs.YtdffnkopbackiaaDoor
