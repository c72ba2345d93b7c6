/- The law TokenCuts, walked: it answers true whatever the statement is. Condition: the listed variables hold what they hold. -/
import Derived.Test.YtjnecobamobieaaDoorTokRef9
import Derived.Test.YtjnecobamobieaaDoorTokJoins
namespace Go.Proofs.YtjnecobamobieaaDoor
open Go.RowKit
theorem same_nil (w : World) : Calls Tryd.prog 12 #[.slice none 0 0, .slice none 0 0] w fun e w' => e = .returned (.bool true) ∧ Below w.heap.size w w' :=
  same_any [] [] none none 0 0 w (TAt.nil _ _ _) (TAt.nil _ _ _) (by decide) (by decide)
set_option maxRecDepth 100000 in
set_option maxHeartbeats 4000000 in
theorem cuts6_core (s : ByteArray) (w : World) (hE : Env w) : Calls Tryd.prog 3 #[.string s] w fun e w' => e = .returned (.bool true) ∧ Below w.heap.size w w' := by
  have HE := Lib.hid hE
  have HL := Lib.hid live_any
  have HN := Lib.hid same_nil
  clear hE
  by_cases hs : s.size ≤ 4096
  · have HC := Lib.hid (fun w hE => cut_any s w hE hs)
    have HR := Lib.hid (fun w => rCut_any s w hs)
    cases hc : cutP 0 s.data.toList with
    | error q =>
      have HCC := Lib.hid hc
      clear hc
      go_enter Tryd.func3, Tryd.ntmps3
      go_wp2_with fail
      refine (HL.out _ HE.out).mono ?_
      rintro e w1 ⟨rfl, b1⟩
      go_wp2_with fail
      refine (HC.out _ (HE.out.later b1)).mono ?_
      intro e w2 h2
      obtain ⟨rfl, b2⟩ := h2.err HCC.out
      clear h2
      go_wp2_with fail
      refine (HR.out _).mono ?_
      intro e w3 h3
      obtain ⟨rfl, b3⟩ := h3.err HCC.out
      clear h3
      go_wp2_with fail
      refine (HN.out _).mono ?_
      rintro e w4 ⟨rfl, b4⟩
      go_wp2_with fail
      go_ret
      exact ⟨rfl, bthen b1 (bthen b2 (bthen b3 b4))⟩
    | ok ts =>
      have hmb := cut_len _ _ _ hc
      rw [size_list] at hmb
      have HCC := Lib.hid hc
      obtain ⟨n, hn⟩ : ∃ n, n = ts.length := ⟨_, rfl⟩
      have HNN := Lib.hid hn
      rw [← hn] at hmb
      clear hc hn
      go_enter Tryd.func3, Tryd.ntmps3
      go_wp2_with fail
      refine (HL.out _ HE.out).mono ?_
      rintro e w1 ⟨rfl, b1⟩
      go_wp2_with fail
      refine (HC.out _ (HE.out.later b1)).mono ?_
      intro e w2 h2
      obtain ⟨⟨A2, c2, he2, -, t2⟩, b2⟩ := h2.ok HCC.out
      rw [← HNN.out] at he2
      subst he2
      go_wp2_with fail
      refine (HR.out _).mono ?_
      intro e w3 h3
      obtain ⟨⟨A3, c3, he3, -, t3⟩, b3⟩ := h3.ok HCC.out
      rw [← HNN.out] at he3
      subst he3
      have HS : Hid (Calls Tryd.prog 12 #[.slice A2 n c2, .slice A3 n c3] w3 fun e w' => e = .returned (.bool true) ∧ Below w3.heap.size w3 w') := by
        have := same_any ts ts A2 A3 c2 c3 w3 (t2.later b3) t3 (by rw [← HNN.out]; omega) (by rw [← HNN.out]; omega)
        rw [← HNN.out, sameT_self] at this
        exact this
      clear t2 t3
      go_wp2_with fail
      refine HS.out.mono ?_
      rintro e w4 ⟨rfl, b4⟩
      go_wp2_with fail
      go_ret
      exact ⟨rfl, bthen b1 (bthen b2 (bthen b3 b4))⟩
  · have HC := Lib.hid (fun w => cut_long s w (by omega))
    have HR := Lib.hid (fun w => rCut_long s w (by omega))
    go_enter Tryd.func3, Tryd.ntmps3
    go_wp2_with fail
    refine (HL.out _ HE.out).mono ?_
    rintro e w1 ⟨rfl, b1⟩
    go_wp2_with fail
    refine (HC.out _).mono ?_
    rintro e w2 ⟨rfl, rfl⟩
    go_wp2_with fail
    refine (HR.out _).mono ?_
    rintro e w3 ⟨rfl, rfl⟩
    go_wp2_with fail
    refine (HN.out _).mono ?_
    rintro e w4 ⟨rfl, b4⟩
    go_wp2_with fail
    go_ret
    exact ⟨rfl, bthen b1 b4⟩
end Go.Proofs.YtjnecobamobieaaDoor
