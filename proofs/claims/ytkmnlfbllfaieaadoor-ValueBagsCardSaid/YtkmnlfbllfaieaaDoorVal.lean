/- Contracts of Same and Compare, in value and in the reference, of two values, whatever they are; plain functions on a value's three parts say what they answer. No condition. -/
import Derived.Test.YtkmnlfbllfaieaaDoorVal0
import Derived.Test.YtkmnlfbllfaieaaDoorShelf
namespace Go.Proofs.YtkmnlfbllfaieaaDoor
open Go.RowKit
set_option maxHeartbeats 400000 in
theorem same_any (k i k' i': Int) (s s' : ByteArray) (w : World) :
    Calls Tryd.prog 20 #[.agg #[.int .i64 k, .int .i64 i, .string s], .agg #[.int .i64 k', .int .i64 i', .string s']] w fun e w' => e = .returned (.bool (sameB k i s k' i' s')) ∧ Below w.heap.size w w' := by
  go_enter Tryd.func20, Tryd.ntmps20
  go_wp2
  all_goals go_ret
  all_goals refine ⟨?_, ((Below.refl _ _).alloc (Nat.le_refl _) _).alloc (by simp) _⟩
  all_goals (go_light; simp [sameB, *])

set_option maxHeartbeats 400000 in
theorem rsame_any (k i k' i': Int) (s s' : ByteArray) (w : World) :
    Calls Tryd.prog 50 #[.agg #[.int .i64 k, .int .i64 i, .string s], .agg #[.int .i64 k', .int .i64 i', .string s']] w fun e w' => e = .returned (.bool (sameB k i s k' i' s')) ∧ Below w.heap.size w w' := by
  go_enter Tryd.func50, Tryd.ntmps50
  go_wp2
  all_goals go_ret
  all_goals refine ⟨?_, ((Below.refl _ _).alloc (Nat.le_refl _) _).alloc (by simp) _⟩
  all_goals (go_light; simp [sameB, *])

set_option maxHeartbeats 400000 in
theorem cmp64_any (a b : Int) (w : World) :
    Calls Tryd.prog 33 #[.int .i64 a, .int .i64 b] w fun e w' => e = .returned (.int .i64 (cmpI a b)) ∧ w = w' := by
  go_enter Tryd.func33, Tryd.ntmps33
  go_wp2
  all_goals go_ret
  all_goals (go_light; refine ⟨ret_int ?_, rfl⟩; unfold cmpI; repeat' split)
  all_goals omega

set_option maxHeartbeats 400000 in
theorem cmpInt_any (a b : Int) (w : World) :
    Calls Tryd.prog 32 #[.int .i64 a, .int .i64 b] w fun e w' => e = .returned (.int .i64 (cmpI a b)) ∧ w = w' := by
  go_enter Tryd.func32, Tryd.ntmps32
  go_wp2
  all_goals go_ret
  all_goals (go_light; refine ⟨ret_int ?_, rfl⟩; unfold cmpI; repeat' split)
  all_goals omega

set_option maxHeartbeats 400000 in
theorem cmpV_any (k i k' i': Int) (s s' : ByteArray) (w : World) :
    Calls Tryd.prog 17 #[.agg #[.int .i64 k, .int .i64 i, .string s], .agg #[.int .i64 k', .int .i64 i', .string s']] w fun e w' => e = .returned (.int .i64 (cmpV k i s k' i' s')) ∧ Below w.heap.size w w' := by
  have h37 := cmpInt_any k k'
  have h38 := cmp64_any i i'
  have h39 : ∀ w, Calls Tryd.prog 34 #[.string s, .string s'] w fun e w' => e = .returned (.int .i64 (cmpS s s')) ∧ w' = w := fun w => Tryd.strings_Compare s s' w
  unfold cmpV
  by_cases hc1 : cmpI k k' = 0
  · rw [if_pos hc1]
    by_cases hc2 : cmpI i i' = 0
    · rw [if_pos hc2]
      rw [hc1] at h37
      rw [hc2] at h38
      clear hc1 hc2
      generalize cmpS s s' = c3 at *
      go_enter Tryd.func17, Tryd.ntmps17
      go_wp2_with (first | (go_at_call 32; refine (h37 _).mono ?_; rintro e w' ⟨rfl, rfl⟩) | (go_at_call 33; refine (h38 _).mono ?_; rintro e w' ⟨rfl, rfl⟩) | (go_at_call 34; refine (h39 _).mono ?_; rintro e w' ⟨rfl, rfl⟩))
      go_ret
      exact ⟨rfl, ((Below.refl _ _).alloc (Nat.le_refl _) _).alloc (by simp) _⟩
    · rw [if_neg hc2]
      rw [hc1] at h37
      clear hc1
      generalize cmpI i i' = c2 at *
      have hb : (c2 != 0) = true := by simpa using hc2
      clear hc2
      go_enter Tryd.func17, Tryd.ntmps17
      go_wp2_with (first | (go_at_call 32; refine (h37 _).mono ?_; rintro e w' ⟨rfl, rfl⟩) | (go_at_call 33; refine (h38 _).mono ?_; rintro e w' ⟨rfl, rfl⟩) | (go_at_call 34; refine (h39 _).mono ?_; rintro e w' ⟨rfl, rfl⟩))
      go_ret
      exact ⟨rfl, ((Below.refl _ _).alloc (Nat.le_refl _) _).alloc (by simp) _⟩
  · rw [if_neg hc1]
    generalize cmpI k k' = c1 at *
    have hb : (c1 != 0) = true := by simpa using hc1
    clear hc1
    go_enter Tryd.func17, Tryd.ntmps17
    go_wp2_with (first | (go_at_call 32; refine (h37 _).mono ?_; rintro e w' ⟨rfl, rfl⟩) | (go_at_call 33; refine (h38 _).mono ?_; rintro e w' ⟨rfl, rfl⟩) | (go_at_call 34; refine (h39 _).mono ?_; rintro e w' ⟨rfl, rfl⟩))
    go_ret
    exact ⟨rfl, ((Below.refl _ _).alloc (Nat.le_refl _) _).alloc (by simp) _⟩

theorem rcmp_ii (k i : Int) (s s' : ByteArray) (w : World) :
    Calls Tryd.prog 38 #[.agg #[.int .i64 k, .int .i64 i, .string s], .agg #[.int .i64 k, .int .i64 i, .string s']] w fun e w' => e = .returned (.int .i64 (cmpS s s')) ∧ Below w.heap.size w w' := by
  rcases cmpS_ok.range s s' with h | h | h
  · have h1 : Op.bytesLess s.toList s'.toList = true := by rw [bytesLess_cmpS, h]; rfl
    rw [h]
    clear h
    go_enter Tryd.func38, Tryd.ntmps38
    go_wp2_with fail
    go_ret
    exact ⟨rfl, ((Below.refl _ _).alloc (Nat.le_refl _) _).alloc (by simp) _⟩
  · have h1 : Op.bytesLess s.toList s'.toList = false := by rw [bytesLess_cmpS, h]; rfl
    have hs := (cmpS_ok.zero _ _).1 h
    subst hs
    have h15 : ∀ w, Calls Tryd.prog 50 #[.agg #[.int .i64 k, .int .i64 i, .string s], .agg #[.int .i64 k, .int .i64 i, .string s]] w fun e w' => e = .returned (.bool true) ∧ Below w.heap.size w w' := by
      have := rsame_any k i k i s s
      rwa [show sameB k i s k i s = true by simp [sameB]] at this
    rw [h]
    clear h
    go_enter Tryd.func38, Tryd.ntmps38
    go_wp2_with (go_at_call 50; refine (h15 _).mono ?_; rintro e w' ⟨rfl, hb⟩)
    go_ret
    exact ⟨rfl, (((Below.refl _ _).alloc (Nat.le_refl _) _).alloc (by simp) _).trans (hb.mono (by simp; omega))⟩
  · have h1 : Op.bytesLess s.toList s'.toList = false := by rw [bytesLess_cmpS, h]; rfl
    have h15 : ∀ w, Calls Tryd.prog 50 #[.agg #[.int .i64 k, .int .i64 i, .string s], .agg #[.int .i64 k, .int .i64 i, .string s']] w fun e w' => e = .returned (.bool false) ∧ Below w.heap.size w w' := by
      have := rsame_any k i k i s s'
      rwa [show sameB k i s k i s' = false by
        have : s.toList ≠ s'.toList := by
          rw [Lib.toList_data, Lib.toList_data]
          intro e
          have : s = s' := by cases s; cases s'; simp only [ByteArray.mk.injEq]; exact Array.toList_inj.1 e
          have := (cmpS_ok.zero _ _).2 this
          omega
        simp [sameB, this]] at this
    rw [h]
    clear h
    go_enter Tryd.func38, Tryd.ntmps38
    go_wp2_with (go_at_call 50; refine (h15 _).mono ?_; rintro e w' ⟨rfl, hb⟩)
    go_ret
    exact ⟨rfl, (((Below.refl _ _).alloc (Nat.le_refl _) _).alloc (by simp) _).trans (hb.mono (by simp; omega))⟩
theorem rcmp_lt (k k' i i' : Int) (s s' : ByteArray) (w : World) (hk : k < k') :
    Calls Tryd.prog 38 #[.agg #[.int .i64 k, .int .i64 i, .string s], .agg #[.int .i64 k', .int .i64 i', .string s']] w fun e w' => e = .returned (.int .i64 (-1)) ∧ Below w.heap.size w w' := by
  go_enter Tryd.func38, Tryd.ntmps38
  go_wp2_with fail
  go_ret
  exact ⟨rfl, ((Below.refl _ _).alloc (Nat.le_refl _) _).alloc (by simp) _⟩
theorem rcmp_ilt (k i i' : Int) (s s' : ByteArray) (w : World) (hk : i < i') :
    Calls Tryd.prog 38 #[.agg #[.int .i64 k, .int .i64 i, .string s], .agg #[.int .i64 k, .int .i64 i', .string s']] w fun e w' => e = .returned (.int .i64 (-1)) ∧ Below w.heap.size w w' := by
  go_enter Tryd.func38, Tryd.ntmps38
  go_wp2_with fail
  go_ret
  exact ⟨rfl, ((Below.refl _ _).alloc (Nat.le_refl _) _).alloc (by simp) _⟩
theorem rcmp_gt (k k' i i' : Int) (s s' : ByteArray) (w : World) (hk : k' < k) :
    Calls Tryd.prog 38 #[.agg #[.int .i64 k, .int .i64 i, .string s], .agg #[.int .i64 k', .int .i64 i', .string s']] w fun e w' => e = .returned (.int .i64 1) ∧ Below w.heap.size w w' := by
  have h15 : ∀ w, Calls Tryd.prog 50 #[.agg #[.int .i64 k, .int .i64 i, .string s], .agg #[.int .i64 k', .int .i64 i', .string s']] w fun e w' => e = .returned (.bool false) ∧ Below w.heap.size w w' := by
    have := rsame_any k i k' i' s s'
    rwa [show sameB k i s k' i' s' = false by simp [sameB]; omega] at this
  have h0 : (k == k') = false := by simp; omega
  go_enter Tryd.func38, Tryd.ntmps38
  go_wp2_with (go_at_call 50; refine (h15 _).mono ?_; rintro e w' ⟨rfl, hb⟩)
  go_ret
  exact ⟨rfl, (((Below.refl _ _).alloc (Nat.le_refl _) _).alloc (by simp) _).trans (hb.mono (by simp; omega))⟩
theorem rcmp_igt (k i i' : Int) (s s' : ByteArray) (w : World) (hk : i' < i) :
    Calls Tryd.prog 38 #[.agg #[.int .i64 k, .int .i64 i, .string s], .agg #[.int .i64 k, .int .i64 i', .string s']] w fun e w' => e = .returned (.int .i64 1) ∧ Below w.heap.size w w' := by
  have h15 : ∀ w, Calls Tryd.prog 50 #[.agg #[.int .i64 k, .int .i64 i, .string s], .agg #[.int .i64 k, .int .i64 i', .string s']] w fun e w' => e = .returned (.bool false) ∧ Below w.heap.size w w' := by
    have := rsame_any k i k i' s s'
    rwa [show sameB k i s k i' s' = false by simp [sameB]; omega] at this
  have h0 : (i == i') = false := by simp; omega
  go_enter Tryd.func38, Tryd.ntmps38
  go_wp2_with (go_at_call 50; refine (h15 _).mono ?_; rintro e w' ⟨rfl, hb⟩)
  go_ret
  exact ⟨rfl, (((Below.refl _ _).alloc (Nat.le_refl _) _).alloc (by simp) _).trans (hb.mono (by simp; omega))⟩
theorem rcmpV_any (k i k' i' : Int) (s s' : ByteArray) (w : World) :
    Calls Tryd.prog 38 #[.agg #[.int .i64 k, .int .i64 i, .string s], .agg #[.int .i64 k', .int .i64 i', .string s']] w fun e w' => e = .returned (.int .i64 (cmpV k i s k' i' s')) ∧ Below w.heap.size w w' := by
  unfold cmpV
  rcases cmpI_ok.range k k' with h | h | h
  · rw [h, if_neg (by decide)]
    exact rcmp_lt _ _ _ _ _ _ _ (by unfold cmpI at h; split at h <;> (try split at h) <;> omega)
  · obtain rfl := (cmpI_ok.zero _ _).1 h
    rw [if_pos h]
    rcases cmpI_ok.range i i' with h | h | h
    · rw [h, if_neg (by decide)]
      exact rcmp_ilt _ _ _ _ _ _ (by unfold cmpI at h; split at h <;> (try split at h) <;> omega)
    · obtain rfl := (cmpI_ok.zero _ _).1 h
      rw [if_pos h]
      exact rcmp_ii _ _ _ _ _
    · rw [h, if_neg (by decide)]
      exact rcmp_igt _ _ _ _ _ _ (by unfold cmpI at h; split at h <;> (try split at h) <;> omega)
  · rw [h, if_neg (by decide)]
    exact rcmp_gt _ _ _ _ _ _ _ (by unfold cmpI at h; split at h <;> (try split at h) <;> omega)

end Go.Proofs.YtkmnlfbllfaieaaDoor
