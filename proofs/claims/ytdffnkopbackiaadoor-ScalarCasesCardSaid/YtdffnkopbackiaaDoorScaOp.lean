/- Contract of scalar's operation: which function does what a word asks for. No condition. -/
import Derived.Test.YtdffnkopbackiaaDoorScaOps3
namespace Go.Proofs.YtdffnkopbackiaaDoor
open Go.RowKit
theorem opk_cases (op : ByteArray) : (op = ⟨#[43]⟩ ∧ opk op = 1) ∨ (op = ⟨#[45]⟩ ∧ opk op = 2) ∨ (op = ⟨#[42]⟩ ∧ opk op = 3) ∨ (op = ⟨#[47]⟩ ∧ opk op = 4) ∨ (op = ⟨#[37]⟩ ∧ opk op = 5) ∨ (opk op = 0 ∧ (op.toList == [43]) = false ∧ (op.toList == [45]) = false ∧ (op.toList == [42]) = false ∧ (op.toList == [47]) = false ∧ (op.toList == [37]) = false) := by
  have key : ∀ l : List UInt8, (op.toList == l) = true → op = ⟨l.toArray⟩ := by
    intro l h
    rw [Lib.toList_data, beq_iff_eq] at h
    cases op
    simp only [ByteArray.mk.injEq]
    rw [← h]
  unfold opk
  by_cases h1 : (op.toList == [43]) = true
  · exact Or.inl ⟨key _ h1, by rw [if_pos h1]⟩
  by_cases h2 : (op.toList == [45]) = true
  · exact Or.inr (Or.inl ⟨key _ h2, by rw [if_neg h1, if_pos h2]⟩)
  by_cases h3 : (op.toList == [42]) = true
  · exact Or.inr (Or.inr (Or.inl ⟨key _ h3, by rw [if_neg h1, if_neg h2, if_pos h3]⟩))
  by_cases h4 : (op.toList == [47]) = true
  · exact Or.inr (Or.inr (Or.inr (Or.inl ⟨key _ h4, by rw [if_neg h1, if_neg h2, if_neg h3, if_pos h4]⟩)))
  by_cases h5 : (op.toList == [37]) = true
  · exact Or.inr (Or.inr (Or.inr (Or.inr (Or.inl ⟨key _ h5, by rw [if_neg h1, if_neg h2, if_neg h3, if_neg h4, if_pos h5]⟩))))
  · exact Or.inr (Or.inr (Or.inr (Or.inr (Or.inr ⟨by rw [if_neg h1, if_neg h2, if_neg h3, if_neg h4, if_neg h5], by simpa using h1, by simpa using h2, by simpa using h3, by simpa using h4, by simpa using h5⟩))))
theorem op1 (w : World) : Calls Tryd.prog 22 #[.string ⟨#[43]⟩] w fun e w' => e = .returned (.func (.func 30) #[] #[]) ∧ w = w' := by
  go_enter Tryd.func22, Tryd.ntmps22
  go_wp2
  go_ret
  exact ⟨rfl, rfl⟩
theorem op2 (w : World) : Calls Tryd.prog 22 #[.string ⟨#[45]⟩] w fun e w' => e = .returned (.func (.func 31) #[] #[]) ∧ w = w' := by
  go_enter Tryd.func22, Tryd.ntmps22
  go_wp2
  go_ret
  exact ⟨rfl, rfl⟩
theorem op3 (w : World) : Calls Tryd.prog 22 #[.string ⟨#[42]⟩] w fun e w' => e = .returned (.func (.func 32) #[] #[]) ∧ w = w' := by
  go_enter Tryd.func22, Tryd.ntmps22
  go_wp2
  go_ret
  exact ⟨rfl, rfl⟩
theorem op4 (w : World) : Calls Tryd.prog 22 #[.string ⟨#[47]⟩] w fun e w' => e = .returned (.func (.func 33) #[] #[]) ∧ w = w' := by
  go_enter Tryd.func22, Tryd.ntmps22
  go_wp2
  go_ret
  exact ⟨rfl, rfl⟩
theorem op5 (w : World) : Calls Tryd.prog 22 #[.string ⟨#[37]⟩] w fun e w' => e = .returned (.func (.func 34) #[] #[]) ∧ w = w' := by
  go_enter Tryd.func22, Tryd.ntmps22
  go_wp2
  go_ret
  exact ⟨rfl, rfl⟩
theorem op0 (op : ByteArray) (w : World) (h1 : (op.toList == [43]) = false) (h2 : (op.toList == [45]) = false) (h3 : (op.toList == [42]) = false) (h4 : (op.toList == [47]) = false) (h5 : (op.toList == [37]) = false) : Calls Tryd.prog 22 #[.string op] w fun e w' => e = .returned .nilFunc ∧ w = w' := by
  go_enter Tryd.func22, Tryd.ntmps22
  go_wp2
  go_ret
  exact ⟨rfl, rfl⟩
end Go.Proofs.YtdffnkopbackiaaDoor
