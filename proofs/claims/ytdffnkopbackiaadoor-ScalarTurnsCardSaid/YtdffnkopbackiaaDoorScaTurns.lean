/- Plain facts on sums turned round, and on a number, its quotient and its rest. No condition. -/
import Derived.Test.YtdffnkopbackiaaDoorScaLive
namespace Go.Proofs.YtdffnkopbackiaaDoor
open Go.RowKit
/-- What the law leans on, of two numbers. -/
theorem num_turn (p : Nat) (a b : Int) (hp : p = 1 ∨ p = 3) : numE p a b = numE p b a ∧ numR p a b = numR p b a := by
  have hx : numX p a b = numX p b a := by
    rcases hp with rfl | rfl
    · show a + b = b + a; omega
    · show a * b = b * a; exact Int.mul_comm _ _
  have h1 : numE p a b = numE p b a := by rw [numE_at (by omega), numE_at (by omega), hx]
  exact ⟨h1, by unfold numR; rw [h1, hx]⟩
theorem num_back {a b : Int} (ha : In64 a) (h : numE 1 a b = 0) : numR 1 a b = a + b ∧ numE 2 (a + b) b = 0 ∧ numR 2 (a + b) b = a ∧ In64 (a + b) := by
  have h1 : numR 1 a b = a + b := by unfold numR; rw [h]; rfl
  have h2 : numX 2 (a + b) b = a := by show a + b - b = a; omega
  have h3 : numE 2 (a + b) b = 0 := by rw [numE_at (by omega), h2, okN_iff.2 ha]; rfl
  refine ⟨h1, h3, by unfold numR; rw [h3, h2]; rfl, ?_⟩
  rw [numE_at (by omega)] at h
  cases hk : okN (numX 1 a b)
  · rw [hk] at h; simp [fitE] at h
  · exact okN_iff.1 hk
theorem num_quot {a b : Int} (ha : In64 a) (hb : In64 b) (h0 : ¬ b = 0) : (numE 4 a b = 30 ∧ b = -1 ∧ numE 5 a b = 0) ∨ (numE 4 a b = 0 ∧ numR 4 a b = a.tdiv b ∧ numE 5 a b = 0 ∧ numR 5 a b = a.tmod b ∧ a.tdiv b * b + a.tmod b = a ∧ In64 (a.tdiv b * b) ∧ In64 (a.tdiv b) ∧ In64 (a.tmod b) ∧ (a.tmod b = 0 ∨ (a.tmod b < 0 ↔ a < 0))) := by
  have e5 : numE 5 a b = 0 := by rw [numE_at (by omega), show numX 5 a b = a.tmod b from rfl, tmod_ok hb h0]; rfl
  have e4 : numE 4 a b = fitE (okN (a.tdiv b)) := numE_at (by omega)
  rw [tdiv_tell ha h0] at e4
  cases he : atEnd a b
  · right
    rw [he] at e4
    have hs := Int.tdiv_mul_add_tmod a b
    have hm := tmod_lt (a := a) hb h0
    have hd : In64 (a.tdiv b) := okN_iff.1 (by rw [tdiv_tell ha h0, he]; rfl)
    have hsign : a.tmod b = 0 ∨ (a.tmod b < 0 ↔ a < 0) := by
      by_cases h : a < 0
      · have := Int.tmod_nonneg (a := -a) b (by omega)
        rw [Int.neg_tmod] at this
        by_cases h' : a.tmod b = 0
        · exact Or.inl h'
        · right; omega
      · have := Int.tmod_nonneg (a := a) b (by omega)
        right; omega
    refine ⟨e4, by unfold numR; rw [e4]; rfl, e5, by unfold numR; rw [e5]; rfl, hs, ?_, hd, hm.1, hsign⟩
    have h3 : (a.tdiv b * b).natAbs ≤ a.natAbs := by
      rw [Int.natAbs_mul, show (a.tdiv b).natAbs = a.natAbs / b.natAbs from Int.natAbs_tdiv a b]
      exact Nat.div_mul_le_self _ _
    generalize a.tdiv b * b = q at *
    generalize a.tmod b = r at *
    unfold In64 at *
    have h4 : (r = 0 ∨ (r < 0 ↔ a < 0)) := hsign
    omega
  · left
    unfold atEnd at he
    simp at he
    rw [show atEnd a b = true by unfold atEnd; simp [he]] at e4
    exact ⟨e4, he.2, e5⟩
end Go.Proofs.YtdffnkopbackiaaDoor
