/- Contract of slices.Index at units: where the first unit for any bytes stands. Condition: there are at most 2000 units. -/
import Derived.Test.YtimlkgbhmkmacaaLikKit
namespace Go.Proofs.Ytimlkgbhmkmacaa
open Go.RowKit
theorem no_step {us : List Int} {k : Nat} (hk : k < us.length) (h : ∀ j (hj : j < us.length), j < k → us[j] ≠ -2) (h0 : us[k] ≠ -2) : ∀ j (hj : j < us.length), j < k + 1 → us[j] ≠ -2 := by
  intro j hj hjk
  by_cases e : j = k
  · subst e; exact h0
  · exact h j hj (by omega)
theorem fmI_at {us : List Int} {k : Nat} (hk : k < us.length) (h : us[k] = -2) (h2 : ∀ j (hj : j < us.length), j < k → us[j] ≠ -2) : (k : Int) = fmI us := by
  unfold fmI; rw [fm_at hk h h2]
theorem fmI_no {us : List Int} {k : Nat} (hk : k = us.length) (h2 : ∀ j (hj : j < us.length), j < k → us[j] ≠ -2) : (-1 : Int) = fmI us := by
  unfold fmI; rw [fm_no (fun j hj => h2 j hj (by omega))]
set_option maxHeartbeats 1000000 in
theorem index_any (us : List Int) (A : Option Addr) (c : Nat) (w : World) (h : UAt w A us) (hm : us.length ≤ 2000) :
    Calls Try.prog 21 #[.slice A us.length c, .int .i16 (-2)] w fun e w' => e = .returned (.int .i64 (fmI us)) ∧ w = w' := by
  obtain ⟨n, hn⟩ : ∃ n, n = us.length := ⟨_, rfl⟩
  have HN := Lib.hid hn
  rw [← hn] at hm ⊢
  clear hn
  have HU := Lib.hid h
  clear h
  go_enter Try.func21, Try.ntmps21
  go_wp2_with fail
  go_loop [8] (fun i => ∃ k : Nat, k ≤ n ∧ i = .int .i64 k ∧ Hid (∀ j (hj : j < us.length), j < k → us[j] ≠ -2)) (fun i => n - (intOf i).toNat)
  case atStart => exact ⟨0, Nat.zero_le _, rfl, fun j hj hjk => by omega⟩
  case round =>
    obtain ⟨k, hk, rfl, HJ⟩ := hrel
    by_cases hlt : k < n
    · have hkx : k < us.length := by rw [← HN.out]; exact hlt
      obtain ⟨b, off, hA, hbl, hc⟩ := HU.out (by omega)
      subst hA
      have d1 := hc k hkx
      clear hc
      by_cases h0 : us[k] = -2
      · have H0 := Lib.hid h0
        rw [h0] at d1
        clear h0
        go_wp2_with fail
        go_ret
        exact ⟨ret_int (fmI_at hkx H0.out HJ.out), rfl⟩
      · have H0 := Lib.hid h0
        have h1 : ((-2 : Int) == us[k]) = false := by simpa using fun e => h0 e.symm
        clear h0
        generalize us[k] = u at d1 h1
        go_wp2_with fail
        go_round
        case rel => exact ⟨k + 1, by omega, by go_num, no_step hkx HJ.out H0.out⟩
        case measure => simp [intOf]; omega
    · obtain rfl : k = n := by omega
      go_wp2_with fail
      go_ret
      exact ⟨ret_int (fmI_no HN.out HJ.out), rfl⟩
end Go.Proofs.Ytimlkgbhmkmacaa
