/- The law LikeTells, walked: it answers true whatever the text and the pattern are. No condition. -/
import Derived.Test.YtimlkgbhmkmacaaLikRLike
namespace Go.Proofs.Ytimlkgbhmkmacaa
open Go.RowKit
set_option maxRecDepth 100000 in
set_option maxHeartbeats 4000000 in
theorem tells_core (s p : ByteArray) (w : World) : Calls Try.prog 3 #[.string s, .string p] w fun e w' => e = .returned (.bool true) ∧ Below w.heap.size w w' := by
  have HV := Lib.hid live_any
  by_cases hs : s.size ≤ 300 ∧ p.size ≤ 300
  · obtain ⟨hs, hp⟩ := hs
    cases hra : rd p.data.toList with
    | none =>
      have HA := Lib.hid (fun w => like_none s p w (by omega) hra)
      have HB := Lib.hid (fun w => rlike_none s p w (by omega) hra)
      have HP := Lib.hid (fun w => prefix_none p w (by omega) hra)
      have HQ := Lib.hid (fun w => rprefix_none p w (by omega) hra)
      have HC := Lib.hid (fun w => check_none p w (by omega) hra)
      have HD := Lib.hid (fun w => rcheck_none p w (by omega) hra)
      clear hra
      go_enter Try.func3, Try.ntmps3
      go_wp2_with fail
      refine (HV.out _).mono ?_
      rintro e w1 ⟨rfl, b1⟩
      go_wp2_with fail
      refine (HA.out _).mono ?_
      rintro e w2 ⟨rfl, b2⟩
      go_wp2_with fail
      refine (HB.out _).mono ?_
      rintro e w3 ⟨rfl, b3⟩
      go_wp2_with fail
      refine (HP.out _).mono ?_
      rintro e w4 ⟨rfl, b4⟩
      go_wp2_with fail
      refine (HQ.out _).mono ?_
      rintro e w5 ⟨rfl, b5⟩
      go_wp2_with fail
      refine (HC.out _).mono ?_
      rintro e w6 ⟨rfl, b6⟩
      go_wp2_with fail
      refine (HD.out _).mono ?_
      rintro e w7 ⟨rfl, b7⟩
      go_wp2_with fail
      go_ret
      exact ⟨rfl, bthen b1 (bthen b2 (bthen b3 (bthen b4 (bthen b5 (bthen b6 b7)))))⟩
    | some us =>
      have HA := Lib.hid (fun w => like_some s p us w (by omega) (by omega) hra)
      have HB := Lib.hid (fun w => rlike_some s p us w (by omega) (by omega) hra)
      have HP := Lib.hid (fun w => prefix_some p us w (by omega) hra)
      have HQ := Lib.hid (fun w => rprefix_some p us w (by omega) hra)
      have HC := Lib.hid (fun w => check_some p us w (by omega) hra)
      have HD := Lib.hid (fun w => rcheck_some p us w (by omega) hra)
      clear hra
      generalize M us s.data.toList = r at *
      generalize preS us = x at *
      generalize (pre us).2 = x2 at *
      go_enter Try.func3, Try.ntmps3
      go_wp2_with fail
      refine (HV.out _).mono ?_
      rintro e w1 ⟨rfl, b1⟩
      go_wp2_with fail
      refine (HA.out _).mono ?_
      rintro e w2 ⟨rfl, b2⟩
      go_wp2_with fail
      refine (HB.out _).mono ?_
      rintro e w3 ⟨rfl, b3⟩
      go_wp2_with fail
      refine (HP.out _).mono ?_
      rintro e w4 ⟨rfl, b4⟩
      go_wp2_with fail
      refine (HQ.out _).mono ?_
      rintro e w5 ⟨rfl, b5⟩
      go_wp2_with fail
      refine (HC.out _).mono ?_
      rintro e w6 ⟨rfl, b6⟩
      go_wp2_with fail
      refine (HD.out _).mono ?_
      rintro e w7 ⟨rfl, b7⟩
      go_wp2_with fail
      go_ret
      exact ⟨rfl, bthen b1 (bthen b2 (bthen b3 (bthen b4 (bthen b5 (bthen b6 b7)))))⟩
  · have hs' : 300 < s.size ∨ (s.size ≤ 300 ∧ 300 < p.size) := by omega
    clear hs
    go_enter Try.func3, Try.ntmps3
    go_wp2_with fail
    refine (HV.out _).mono ?_
    rintro e w1 ⟨rfl, b1⟩
    rcases hs' with h1 | ⟨h1, h2⟩
    all_goals
      go_wp2_with fail
      go_ret
      exact ⟨rfl, b1⟩
end Go.Proofs.Ytimlkgbhmkmacaa
