/- Contract of live: the chapter's examples go. No condition. -/
import Derived.Test.YtimlkgbhmkmacaaLikPrefix
namespace Go.Proofs.Ytimlkgbhmkmacaa
open Go.RowKit
set_option maxRecDepth 100000 in
set_option maxHeartbeats 4000000 in
theorem live_any (w : World) : Calls Try.prog 7 #[] w fun e w' => e = .returned (.bool true) ∧ Below w.heap.size w w' := by
  have HA := Lib.hid (fun w => like_some ⟨#[97, 98, 99]⟩ ⟨#[95, 98, 37]⟩ [-1, 98, -2] w (by decide) (by decide) (by decide))
  have HB := Lib.hid (fun w => like_some ⟨#[97, 98, 99]⟩ ⟨#[97, 95]⟩ [97, -1] w (by decide) (by decide) (by decide))
  have HC := Lib.hid (fun w => like_some ⟨#[53, 48, 37]⟩ ⟨#[53, 48, 92, 37]⟩ [53, 48, 37] w (by decide) (by decide) (by decide))
  have HP := Lib.hid (fun w => prefix_some ⟨#[97, 92, 37, 98, 37]⟩ [97, 37, 98, -2] w (by decide) (by decide))
  have HK := Lib.hid (fun w => check_none ⟨#[92, 97]⟩ w (by decide) (by decide))
  rw [show M [-1, 98, -2] (⟨#[97, 98, 99]⟩ : ByteArray).data.toList = true by decide] at HA
  rw [show M [97, -1] (⟨#[97, 98, 99]⟩ : ByteArray).data.toList = false by decide] at HB
  rw [show M [53, 48, 37] (⟨#[53, 48, 37]⟩ : ByteArray).data.toList = true by decide] at HC
  rw [show preS [97, 37, 98, -2] = ⟨#[97, 37, 98]⟩ by rfl, show (pre [97, 37, 98, -2]).2 = false by rfl] at HP
  go_enter Try.func7, Try.ntmps7
  go_wp2_with fail
  refine (HA.out _).mono ?_
  rintro e w1 ⟨rfl, b1⟩
  go_wp2_with fail
  refine (HB.out _).mono ?_
  rintro e w2 ⟨rfl, b2⟩
  go_wp2_with fail
  refine (HC.out _).mono ?_
  rintro e w3 ⟨rfl, b3⟩
  go_wp2_with fail
  refine (HP.out _).mono ?_
  rintro e w4 ⟨rfl, b4⟩
  go_wp2_with fail
  refine (HK.out _).mono ?_
  rintro e w5 ⟨rfl, b5⟩
  go_wp2_with fail
  go_ret
  exact ⟨rfl, bthen b1 (bthen b2 (bthen b3 (bthen b4 b5)))⟩
end Go.Proofs.Ytimlkgbhmkmacaa
