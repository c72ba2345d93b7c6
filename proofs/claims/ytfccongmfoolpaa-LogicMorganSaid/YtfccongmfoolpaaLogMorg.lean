/- The walk of the law LogicMorgan: it answers true, whatever list of values and number. Conditions: the list and each text shorter than 2 to the 47. -/
import Derived.Test.YtfccongmfoolpaaLogMorg1
import Derived.Test.YtfccongmfoolpaaLogRels
namespace Go.Proofs.Ytfccongmfoolpaa
open Go.RowKit
set_option maxRecDepth 100000 in
set_option maxHeartbeats 4000000 in
theorem morg_core (r : R) (k : Int) (w : World) (hr : RowAt w w.heap.size r.A r.xs) (sr : RowSmall r.xs) (hcap : r.xs.length ≤ r.c) (hcap2 : r.c ≤ 140737488355328) (hk : -9223372036854775808 ≤ k ∧ k ≤ 9223372036854775807) :
    Calls Try.prog 5 #[r.val, .int .i64 k] w fun e w' => e = .returned (.bool true) ∧ Below w.heap.size w w' := by
  have HBIG := Lib.hid (fun w' (h : Below w.heap.size w w') => big_any r w' (hr.later h) sr)
  cases hbg : bigL r
  · rw [hbg] at HBIG
    have hlen := big_len hbg
    by_cases h0 : 0 < r.xs.length
    · exact morg_in r.A r.c r.xs k w _ rfl h0 hlen hcap hcap2 hk hr HBIG.out
    · have hx : r.xs.length = 0 := by omega
      unfold R.val at *
      rw [hx] at HBIG ⊢
      clear hr sr hcap hcap2 hbg hlen h0 hx
      go_enter Try.func5, Try.ntmps5
      go_wp2_with fail
      refine (live_any _).mono ?_
      rintro e w1 ⟨rfl, b1⟩
      go_wp2_with fail
      refine (HBIG.out w1 b1).mono ?_
      rintro e w2 ⟨rfl, b2⟩
      go_wp2_with fail
      go_ret
      exact ⟨rfl, bthen b1 b2⟩
  · rw [hbg] at HBIG
    unfold R.val at *
    generalize r.xs.length = n at *
    clear hr sr hcap hcap2 hbg
    go_enter Try.func5, Try.ntmps5
    go_wp2_with fail
    refine (live_any _).mono ?_
    rintro e w1 ⟨rfl, b1⟩
    go_wp2_with fail
    refine (HBIG.out w1 b1).mono ?_
    rintro e w2 ⟨rfl, b2⟩
    go_wp2_with fail
    go_ret
    exact ⟨rfl, bthen b1 b2⟩
end Go.Proofs.Ytfccongmfoolpaa
