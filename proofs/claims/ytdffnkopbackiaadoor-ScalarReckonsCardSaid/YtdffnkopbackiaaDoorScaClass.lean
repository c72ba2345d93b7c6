/- Which function a name names: none, coalesce, nullif, or one that wants one, two or three values of Kinds. The law's own function big. Conditions: no list longer than 2 to the 47, no text either. -/
import Derived.Test.YtdffnkopbackiaaDoorScaNull
import Derived.Test.YtdffnkopbackiaaDoorFew
namespace Go.Proofs.YtdffnkopbackiaaDoor
open Go.RowKit
def NeqFact (x : Fn) : Prop := ∀ w, (binOp .neq 53 (.agg #[.int .u64 x.k0, .int .u64 x.k1, .int .u64 x.k2]) (.agg #[.int .u64 0, .int .u64 0, .int .u64 0])).run Tryd.prog w = .ok (.bool true) w
def Wants (x : Fn) : Prop := (x.lo = 1 ∧ x.hi = 1 ∧ KindOk x.k0) ∨ (x.lo = 2 ∧ x.hi = 2 ∧ KindOk x.k0 ∧ KindOk x.k1) ∨ (x.lo = 3 ∧ x.hi = 3 ∧ KindOk x.k0 ∧ KindOk x.k1 ∧ KindOk x.k2)
def coalesceB : ByteArray := ⟨#[99, 111, 97, 108, 101, 115, 99, 101]⟩
def nullifB : ByteArray := ⟨#[110, 117, 108, 108, 105, 102]⟩
theorem bytes_of {a b : ByteArray} (h : (a.toList == b.toList) = true) : b = a := by
  rw [beq_iff_eq, Lib.toList_data, Lib.toList_data] at h
  cases a; cases b
  simp only [ByteArray.mk.injEq]
  exact Array.toList_inj.1 h.symm
theorem fns_two (x : Fn) (h : x ∈ fns) : x.nm = coalesceB ∨ x.nm = nullifB ∨ ((x.nm.toList == coalesceB.toList) = false ∧ (x.nm.toList == nullifB.toList) = false ∧ Wants x ∧ NeqFact x) := by
  unfold fns at h
  simp only [List.mem_cons, List.not_mem_nil, or_false] at h
  rcases h with h | h | h | h | h | h | h | h | h | h | h
  · subst h; exact Or.inl rfl
  · subst h; exact Or.inr (Or.inl rfl)
  all_goals
    subst h
    refine Or.inr (Or.inr ⟨by unfold coalesceB; simp only [Lib.toList_data]; rfl, by unfold nullifB; simp only [Lib.toList_data]; rfl, ?_, fun _ => by kernel_rfl⟩)
    unfold Wants KindOk
    simp
theorem look_class (nm : ByteArray) : look nm = none ∨ nm = coalesceB ∨ nm = nullifB ∨ ∃ x, look nm = some x ∧ (nm.toList == coalesceB.toList) = false ∧ (nm.toList == nullifB.toList) = false ∧ Wants x ∧ NeqFact x := by
  cases h : look nm with
  | none => exact Or.inl rfl
  | some x =>
    unfold look at h
    have h0 := List.find?_some h
    have h1 : nm = x.nm := bytes_of h0
    have h2 := List.mem_of_find?_eq_some h
    rcases fns_two x h2 with h3 | h3 | ⟨h3, h4, h5, h6⟩
    · exact Or.inr (Or.inl (h1.trans h3))
    · exact Or.inr (Or.inr (Or.inl (h1.trans h3)))
    · exact Or.inr (Or.inr (Or.inr ⟨x, rfl, by rw [h1]; exact h3, by rw [h1]; exact h4, h5, h6⟩))
def bigS (r : R) : Bool := decide (100 < r.xs.length) || !few [r] 3000
set_option maxHeartbeats 1000000 in
theorem big_any (r : R) (w : World) (hr : RowAt w w.heap.size r.A r.xs) (sr : RowSmall r.xs) :
    Calls Tryd.prog 9 #[r.val] w fun e w' => e = .returned (.bool (bigS r)) ∧ Below w.heap.size w w' := by
  have hfew := few_any [r] _ 1 3000 (w.alloc (.cells #[r.val] 62)) (rows_made w [r] (all1 (P := fun r => RowAt w w.heap.size r.A r.xs) hr) _ rfl 62) (by simp) (all1 (P := fun r => RowSmall r.xs) sr) (by decide) (by decide)
  unfold bigS
  unfold R.val at *
  by_cases h : 100 < r.xs.length
  · rw [decide_eq_true h, Bool.true_or]
    generalize few [r] 3000 = f at *
    generalize r.xs.length = n at *
    clear hr sr hfew
    go_enter Tryd.func9, Tryd.ntmps9
    go_wp2_with fail
    go_ret
    exact ⟨rfl, Below.refl _ _⟩
  · rw [decide_eq_false h, Bool.false_or]
    generalize few [r] 3000 = f at *
    generalize r.xs.length = n at *
    have hn : n ≤ 100 := by omega
    have hd : decide ((100 : Int) < (n : Int)) = false := decide_eq_false (by omega)
    clear hr sr h
    go_enter Tryd.func9, Tryd.ntmps9
    go_wp2_with (go_at_call 21; refine hfew.mono ?_; rintro e w1 ⟨rfl, hb1⟩)
    go_ret
    exact ⟨rfl, ((Below.refl _ w).alloc (Nat.le_refl _) _).trans (hb1.mono (by simp))⟩
end Go.Proofs.YtdffnkopbackiaaDoor
