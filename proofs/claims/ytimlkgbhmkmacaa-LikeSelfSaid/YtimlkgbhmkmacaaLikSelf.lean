/- The law LikeSelf, walked: it answers true whatever the two texts are. No condition. -/
import Derived.Test.YtimlkgbhmkmacaaLikGuard
namespace Go.Proofs.Ytimlkgbhmkmacaa
open Go.RowKit
theorem size_of_list {s : ByteArray} {n : Nat} (h : s.data.toList.length ≤ n) : s.size ≤ n := by rwa [size_list] at h
theorem rd_self (s : ByteArray) : rd (gdS s).data.toList = some (lits s.data.toList) := by
  have := rd_gd s.data.toList []
  rw [List.append_nil] at this
  rw [gdS_list, this]; simp [rd]
theorem rd_self_all (s : ByteArray) : rd (gdS s ++ ⟨#[37]⟩).data.toList = some (lits s.data.toList ++ [-2]) := by
  rw [ByteArray.data_append, Array.toList_append, gdS_list, rd_gd]
  rfl
theorem preS_self (s : ByteArray) : preS (lits s.data.toList) = s ∧ (pre (lits s.data.toList)).2 = true := by
  unfold preS
  rw [pre_lits]
  exact ⟨by cases s; rfl, rfl⟩
theorem size_app (a b : ByteArray) : (a ++ b).size = a.size + b.size := by simp
theorem self_eq (s t : ByteArray) : (M (lits s.data.toList) t.data.toList == (s.toList == t.toList)) = true := by
  rw [M_lits, Lib.toList_data, Lib.toList_data, beq_iff_eq]
  apply bool_iff
  rw [decide_eq_true_iff, beq_iff_eq]
  exact eq_comm
theorem self_begins (s t : ByteArray) : M (lits s.data.toList ++ [-2]) t.data.toList = (decide (s.size ≤ t.size) && ((t.extract 0 s.size).toList == s.toList)) := by
  rw [M_lits_all, Lib.toList_data, Lib.toList_data]
  apply bool_iff
  rw [List.isPrefixOf_iff_prefix, Bool.and_eq_true, decide_eq_true_iff, beq_iff_eq, ext_list, List.drop_zero, Nat.sub_zero, ← size_list s, ← size_list t]
  constructor
  · rintro ⟨r, hr⟩
    rw [← hr]
    exact ⟨by simp, by simp⟩
  · rintro ⟨_, h⟩
    exact ⟨t.data.toList.drop s.data.toList.length, by have e := List.take_append_drop s.data.toList.length t.data.toList; rwa [h] at e⟩
set_option maxRecDepth 100000 in
set_option maxHeartbeats 4000000 in
theorem self_core (s t : ByteArray) (w : World) : Calls Try.prog 4 #[.string s, .string t] w fun e w' => e = .returned (.bool true) ∧ Below w.heap.size w w' := by
  have HV := Lib.hid live_any
  by_cases hs : s.size ≤ 300
  · by_cases ht : t.size ≤ 300
    · have hg := gdS_size s
      have HG := Lib.hid (fun w => guarded_any s w (by omega))
      have HA := Lib.hid (fun w => like_some s (gdS s) _ w (by omega) (by omega) (rd_self s))
      have HB := Lib.hid (fun w => like_some t (gdS s) _ w (by omega) (by omega) (rd_self s))
      have HC := Lib.hid (fun w => like_some t (gdS s ++ ⟨#[37]⟩) _ w (by omega) (by rw [size_app]; show _ + 1 ≤ _; omega) (rd_self_all s))
      have HP := Lib.hid (fun w => prefix_some (gdS s) _ w (by omega) (rd_self s))
      rw [(preS_self s).1, (preS_self s).2] at HP
      rw [show M (lits s.data.toList) s.data.toList = true by rw [M_lits]; simp] at HA
      rw [self_begins] at HC
      have he := self_eq s t
      by_cases hle : s.size ≤ t.size
      · rw [decide_eq_true hle, Bool.true_and] at HC
        generalize gdS s = g at *
        generalize M (lits s.data.toList) t.data.toList = r at *
        go_enter Try.func4, Try.ntmps4
        go_wp2_with fail
        refine (HV.out _).mono ?_
        rintro e w1 ⟨rfl, b1⟩
        go_wp2_with fail
        refine (HG.out _).mono ?_
        rintro e w2 ⟨rfl, rfl⟩
        go_wp2_with fail
        refine (HA.out _).mono ?_
        rintro e w2 ⟨rfl, b2⟩
        go_wp2_with fail
        refine (HB.out _).mono ?_
        rintro e w3 ⟨rfl, b3⟩
        go_wp2_with fail
        refine (HC.out _).mono ?_
        rintro e w4 ⟨rfl, b4⟩
        go_wp2_with fail
        refine (HP.out _).mono ?_
        rintro e w5 ⟨rfl, b5⟩
        go_wp2_with fail
        go_ret
        exact ⟨rfl, bthen b1 (bthen b2 (bthen b3 (bthen b4 b5)))⟩
      · rw [decide_eq_false hle, Bool.false_and] at HC
        generalize gdS s = g at *
        generalize M (lits s.data.toList) t.data.toList = r at *
        go_enter Try.func4, Try.ntmps4
        go_wp2_with fail
        refine (HV.out _).mono ?_
        rintro e w1 ⟨rfl, b1⟩
        go_wp2_with fail
        refine (HG.out _).mono ?_
        rintro e w2 ⟨rfl, rfl⟩
        go_wp2_with fail
        refine (HA.out _).mono ?_
        rintro e w2 ⟨rfl, b2⟩
        go_wp2_with fail
        refine (HB.out _).mono ?_
        rintro e w3 ⟨rfl, b3⟩
        go_wp2_with fail
        refine (HC.out _).mono ?_
        rintro e w4 ⟨rfl, b4⟩
        go_wp2_with fail
        refine (HP.out _).mono ?_
        rintro e w5 ⟨rfl, b5⟩
        go_wp2_with fail
        go_ret
        exact ⟨rfl, bthen b1 (bthen b2 (bthen b3 (bthen b4 b5)))⟩
    · go_enter Try.func4, Try.ntmps4
      go_wp2_with fail
      refine (HV.out _).mono ?_
      rintro e w1 ⟨rfl, b1⟩
      go_wp2_with fail
      go_ret
      exact ⟨rfl, b1⟩
  · go_enter Try.func4, Try.ntmps4
    go_wp2_with fail
    refine (HV.out _).mono ?_
    rintro e w1 ⟨rfl, b1⟩
    go_wp2_with fail
    go_ret
    exact ⟨rfl, b1⟩
end Go.Proofs.Ytimlkgbhmkmacaa
