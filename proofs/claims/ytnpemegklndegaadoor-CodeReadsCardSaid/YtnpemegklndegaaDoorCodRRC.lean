/- Contract of the reference's CheckRow. Condition: no row is longer than the greatest int. -/
import Derived.Test.YtnpemegklndegaaDoorCodRow
import Derived.Test.YtnpemegklndegaaDoorCodVRC
namespace Go.Proofs.YtnpemegklndegaaDoor
open Go.RowKit
set_option maxHeartbeats 400000 in
theorem rcheckRow_any (xs : List V) (A : Option Addr) (c : Nat) (w : World) (hr : RowAt w w.heap.size A xs) (hm : xs.length ≤ 9223372036854775807) :
    Calls Tryd.prog 29 #[.slice A xs.length c] w fun e w' => e = .returned (.int .i64 (chkR xs)) ∧ Below w.heap.size w w' := by
  obtain ⟨n, hn⟩ : ∃ n, n = xs.length := ⟨_, rfl⟩
  have HN := Lib.hid hn
  rw [← hn] at hm ⊢
  clear hn
  have HR := Lib.hid hr
  clear hr
  go_enter Tryd.func29, Tryd.ntmps29
  go_wp2_with fail
  go_loopw [8] (fun i wr => ∃ k : Nat, k ≤ n ∧ i = .int .i64 k ∧ Below w.heap.size w wr ∧ Hid (allOk (xs.take k) = true)) (fun i _ => n - (intOf i).toNat)
  case atStart => exact ⟨0, Nat.zero_le _, rfl, Below.refl _ _, rfl⟩
  case round =>
    obtain ⟨k, hk, rfl, hb, hall⟩ := hrel
    by_cases hlt : k < n
    · have hkx : k < xs.length := by rw [← HN.out]; exact hlt
      obtain ⟨b, off, hA, hbl, hc⟩ := HR.out (by omega)
      subst hA
      obtain ⟨c1, c2, c3⟩ := hc k hkx
      have d1 := (hb.cell (p := ⟨b, _, none⟩) hbl).trans c1
      have d2 := (hb.cell (p := ⟨b, _, none⟩) hbl).trans c2
      have d3 := (hb.cell (p := ⟨b, _, none⟩) hbl).trans c3
      clear c1 c2 c3 hc
      have hcall := rcheck_any xs[k].k xs[k].i xs[k].s
      obtain ⟨r, hr⟩ : ∃ r, r = chkI xs[k].k xs[k].i xs[k].s := ⟨_, rfl⟩
      rw [← hr] at hcall
      have HX : Hid (xs[k].chk = r) := hr.symm
      clear hr
      generalize xs[k].k = vk at *
      generalize xs[k].i = vi at *
      generalize xs[k].s = vs at *
      by_cases h0 : r = 0
      · subst h0
        go_wp2_with (go_at_call 40; refine (hcall _).mono ?_; rintro e w1 ⟨rfl, hb1⟩)
        go_roundw
        case rel => exact ⟨k + 1, by omega, by go_num, (hb.alloc hb.size _).trans (hb1.mono (by have := hb.size; simp; omega)), allOk_snoc hkx HX.out hall.out⟩
        case measure => simp [intOf]; omega
      · have h1 : (r != 0) = true := by simpa using h0
        have H0 := Lib.hid h0
        clear h0
        go_wp2_with (go_at_call 40; refine (hcall _).mono ?_; rintro e w1 ⟨rfl, hb1⟩)
        go_ret
        exact ⟨ret_int (chkR_bad hkx HX.out H0.out), (hb.alloc hb.size _).trans (hb1.mono (by have := hb.size; simp; omega))⟩
    · obtain rfl : k = n := by omega
      go_wp2_with fail
      all_goals go_ret
      all_goals exact ⟨ret_int (chkR_good HN.out hall.out (by omega)), hb⟩
end Go.Proofs.YtnpemegklndegaaDoor
