/- Contract of Compare in the reference, of two values, whatever they are. No condition. -/
import Derived.Test.YtnpemegklndegaaDoorVal0
import Derived.Test.YtnpemegklndegaaDoorShelf
namespace Go.Proofs.YtnpemegklndegaaDoor
open Go.RowKit
set_option maxHeartbeats 400000 in
theorem rsame_any (k i k' i': Int) (s s' : ByteArray) (w : World) :
    Calls Tryd.prog 46 #[.agg #[.int .i64 k, .int .i64 i, .string s], .agg #[.int .i64 k', .int .i64 i', .string s']] w fun e w' => e = .returned (.bool (sameB k i s k' i' s')) ∧ Below w.heap.size w w' := by
  go_enter Tryd.func46, Tryd.ntmps46
  go_wp2
  all_goals go_ret
  all_goals refine ⟨?_, ((Below.refl _ _).alloc (Nat.le_refl _) _).alloc (by simp) _⟩
  all_goals (go_light; simp [sameB, *])

theorem rcmp_ii (k i : Int) (s s' : ByteArray) (w : World) :
    Calls Tryd.prog 35 #[.agg #[.int .i64 k, .int .i64 i, .string s], .agg #[.int .i64 k, .int .i64 i, .string s']] w fun e w' => e = .returned (.int .i64 (cmpS s s')) ∧ Below w.heap.size w w' := by
  rcases cmpS_ok.range s s' with h | h | h
  · have h1 : Op.bytesLess s.toList s'.toList = true := by rw [bytesLess_cmpS, h]; rfl
    rw [h]
    clear h
    go_enter Tryd.func35, Tryd.ntmps35
    go_wp2_with fail
    go_ret
    exact ⟨rfl, ((Below.refl _ _).alloc (Nat.le_refl _) _).alloc (by simp) _⟩
  · have h1 : Op.bytesLess s.toList s'.toList = false := by rw [bytesLess_cmpS, h]; rfl
    have hs := (cmpS_ok.zero _ _).1 h
    subst hs
    have h15 : ∀ w, Calls Tryd.prog 46 #[.agg #[.int .i64 k, .int .i64 i, .string s], .agg #[.int .i64 k, .int .i64 i, .string s]] w fun e w' => e = .returned (.bool true) ∧ Below w.heap.size w w' := by
      have := rsame_any k i k i s s
      rwa [show sameB k i s k i s = true by simp [sameB]] at this
    rw [h]
    clear h
    go_enter Tryd.func35, Tryd.ntmps35
    go_wp2_with (go_at_call 46; refine (h15 _).mono ?_; rintro e w' ⟨rfl, hb⟩)
    go_ret
    exact ⟨rfl, (((Below.refl _ _).alloc (Nat.le_refl _) _).alloc (by simp) _).trans (hb.mono (by simp; omega))⟩
  · have h1 : Op.bytesLess s.toList s'.toList = false := by rw [bytesLess_cmpS, h]; rfl
    have h15 : ∀ w, Calls Tryd.prog 46 #[.agg #[.int .i64 k, .int .i64 i, .string s], .agg #[.int .i64 k, .int .i64 i, .string s']] w fun e w' => e = .returned (.bool false) ∧ Below w.heap.size w w' := by
      have := rsame_any k i k i s s'
      rwa [show sameB k i s k i s' = false by
        have : s.toList ≠ s'.toList := by
          rw [Lib.toList_data, Lib.toList_data]
          intro e
          have : s = s' := by cases s; cases s'; simp only [ByteArray.mk.injEq]; exact Array.toList_inj.1 e
          have := (cmpS_ok.zero _ _).2 this
          omega
        simp [sameB, this]] at this
    rw [h]
    clear h
    go_enter Tryd.func35, Tryd.ntmps35
    go_wp2_with (go_at_call 46; refine (h15 _).mono ?_; rintro e w' ⟨rfl, hb⟩)
    go_ret
    exact ⟨rfl, (((Below.refl _ _).alloc (Nat.le_refl _) _).alloc (by simp) _).trans (hb.mono (by simp; omega))⟩
theorem rcmp_lt (k k' i i' : Int) (s s' : ByteArray) (w : World) (hk : k < k') :
    Calls Tryd.prog 35 #[.agg #[.int .i64 k, .int .i64 i, .string s], .agg #[.int .i64 k', .int .i64 i', .string s']] w fun e w' => e = .returned (.int .i64 (-1)) ∧ Below w.heap.size w w' := by
  go_enter Tryd.func35, Tryd.ntmps35
  go_wp2_with fail
  go_ret
  exact ⟨rfl, ((Below.refl _ _).alloc (Nat.le_refl _) _).alloc (by simp) _⟩
theorem rcmp_ilt (k i i' : Int) (s s' : ByteArray) (w : World) (hk : i < i') :
    Calls Tryd.prog 35 #[.agg #[.int .i64 k, .int .i64 i, .string s], .agg #[.int .i64 k, .int .i64 i', .string s']] w fun e w' => e = .returned (.int .i64 (-1)) ∧ Below w.heap.size w w' := by
  go_enter Tryd.func35, Tryd.ntmps35
  go_wp2_with fail
  go_ret
  exact ⟨rfl, ((Below.refl _ _).alloc (Nat.le_refl _) _).alloc (by simp) _⟩
theorem rcmp_gt (k k' i i' : Int) (s s' : ByteArray) (w : World) (hk : k' < k) :
    Calls Tryd.prog 35 #[.agg #[.int .i64 k, .int .i64 i, .string s], .agg #[.int .i64 k', .int .i64 i', .string s']] w fun e w' => e = .returned (.int .i64 1) ∧ Below w.heap.size w w' := by
  have h15 : ∀ w, Calls Tryd.prog 46 #[.agg #[.int .i64 k, .int .i64 i, .string s], .agg #[.int .i64 k', .int .i64 i', .string s']] w fun e w' => e = .returned (.bool false) ∧ Below w.heap.size w w' := by
    have := rsame_any k i k' i' s s'
    rwa [show sameB k i s k' i' s' = false by simp [sameB]; omega] at this
  have h0 : (k == k') = false := by simp; omega
  go_enter Tryd.func35, Tryd.ntmps35
  go_wp2_with (go_at_call 46; refine (h15 _).mono ?_; rintro e w' ⟨rfl, hb⟩)
  go_ret
  exact ⟨rfl, (((Below.refl _ _).alloc (Nat.le_refl _) _).alloc (by simp) _).trans (hb.mono (by simp; omega))⟩
theorem rcmp_igt (k i i' : Int) (s s' : ByteArray) (w : World) (hk : i' < i) :
    Calls Tryd.prog 35 #[.agg #[.int .i64 k, .int .i64 i, .string s], .agg #[.int .i64 k, .int .i64 i', .string s']] w fun e w' => e = .returned (.int .i64 1) ∧ Below w.heap.size w w' := by
  have h15 : ∀ w, Calls Tryd.prog 46 #[.agg #[.int .i64 k, .int .i64 i, .string s], .agg #[.int .i64 k, .int .i64 i', .string s']] w fun e w' => e = .returned (.bool false) ∧ Below w.heap.size w w' := by
    have := rsame_any k i k i' s s'
    rwa [show sameB k i s k i' s' = false by simp [sameB]; omega] at this
  have h0 : (i == i') = false := by simp; omega
  go_enter Tryd.func35, Tryd.ntmps35
  go_wp2_with (go_at_call 46; refine (h15 _).mono ?_; rintro e w' ⟨rfl, hb⟩)
  go_ret
  exact ⟨rfl, (((Below.refl _ _).alloc (Nat.le_refl _) _).alloc (by simp) _).trans (hb.mono (by simp; omega))⟩
theorem rcmpV_any (k i k' i' : Int) (s s' : ByteArray) (w : World) :
    Calls Tryd.prog 35 #[.agg #[.int .i64 k, .int .i64 i, .string s], .agg #[.int .i64 k', .int .i64 i', .string s']] w fun e w' => e = .returned (.int .i64 (cmpV k i s k' i' s')) ∧ Below w.heap.size w w' := by
  unfold cmpV
  rcases cmpI_ok.range k k' with h | h | h
  · rw [h, if_neg (by decide)]
    exact rcmp_lt _ _ _ _ _ _ _ (by unfold cmpI at h; split at h <;> (try split at h) <;> omega)
  · obtain rfl := (cmpI_ok.zero _ _).1 h
    rw [if_pos h]
    rcases cmpI_ok.range i i' with h | h | h
    · rw [h, if_neg (by decide)]
      exact rcmp_ilt _ _ _ _ _ _ (by unfold cmpI at h; split at h <;> (try split at h) <;> omega)
    · obtain rfl := (cmpI_ok.zero _ _).1 h
      rw [if_pos h]
      exact rcmp_ii _ _ _ _ _
    · rw [h, if_neg (by decide)]
      exact rcmp_igt _ _ _ _ _ _ (by unfold cmpI at h; split at h <;> (try split at h) <;> omega)
  · rw [h, if_neg (by decide)]
    exact rcmp_gt _ _ _ _ _ _ _ (by unfold cmpI at h; split at h <;> (try split at h) <;> omega)

end Go.Proofs.YtnpemegklndegaaDoor
