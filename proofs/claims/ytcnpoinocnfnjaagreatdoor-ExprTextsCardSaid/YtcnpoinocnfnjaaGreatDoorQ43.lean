/- Contracts of the reference Text and RowText, whatever the value or row. Conditions: texts of no more than a million bytes, numbers of 64 bits, rows no longer than the greatest int. -/
import Derived.Test.YtcnpoinocnfnjaaGreatDoorQ42
import Derived.Test.YtcnpoinocnfnjaaGreatDoorQ40
import Derived.Deep.RegionHeld3
namespace Go.Proofs.YtcnpoinocnfnjaaGreatDoor.BV
open Go.RowKit
set_option maxRecDepth 100000 in
set_option maxHeartbeats 1000000 in
theorem rtext0 (i : Int) (s : ByteArray) (w : World) :
    Calls Tryz.prog 128 #[.agg #[.int .i64 0, .int .i64 i, .string s]] w fun e w' => e = .returned (.string ⟨#[78, 85, 76, 76]⟩) ∧ Below w.heap.size w w' := by
  go_enter Tryz.func128, Tryz.ntmps128
  go_wp2_with fail
  go_ret
  exact ⟨rfl, (Below.refl _ w).alloc (Nat.le_refl _) _⟩
set_option maxRecDepth 100000 in
set_option maxHeartbeats 1000000 in
theorem rtext1 (i : Int) (s : ByteArray) (w : World) :
    Calls Tryz.prog 128 #[.agg #[.int .i64 1, .int .i64 i, .string s]] w fun e w' => e = .returned (.string (if i = 1 then ⟨#[84, 82, 85, 69]⟩ else ⟨#[70, 65, 76, 83, 69]⟩)) ∧ Below w.heap.size w w' := by
  by_cases h : i = 1
  · subst h
    go_enter Tryz.func128, Tryz.ntmps128
    go_wp2_with fail
    go_ret
    exact ⟨rfl, (Below.refl _ w).alloc (Nat.le_refl _) _⟩
  · have hb : (i == 1) = false := by simpa using h
    rw [if_neg h]
    clear h
    go_enter Tryz.func128, Tryz.ntmps128
    go_wp2_with fail
    go_ret
    exact ⟨rfl, (Below.refl _ w).alloc (Nat.le_refl _) _⟩
set_option maxRecDepth 100000 in
set_option maxHeartbeats 1000000 in
theorem rtext2 (i : Int) (s : ByteArray) (h0 : -9223372036854775808 ≤ i) (h1 : i ≤ 9223372036854775807) (w : World) :
    Calls Tryz.prog 128 #[.agg #[.int .i64 2, .int .i64 i, .string s]] w fun e w' => e = .returned (.string ⟨(Lib.itoa i).toArray⟩) ∧ Below w.heap.size w w' := by
  have h := digits_any i h0 h1
  generalize (Lib.itoa i).toArray = t at *
  go_enter Tryz.func128, Tryz.ntmps128
  go_wp2_with (go_at_call 159; refine (h _).mono ?_; rintro e w1 ⟨rfl, hb⟩)
  go_ret
  exact ⟨rfl, ((Below.refl _ w).alloc (Nat.le_refl _) _).trans (hb.mono (by simp))⟩
theorem rtext_any (k i : Int) (s : ByteArray) (hm : mayB k i s = true) (hs : s.size ≤ 1000000) (h0 : -9223372036854775808 ≤ i) (h1 : i ≤ 9223372036854775807) (w : World) :
    Calls Tryz.prog 128 #[.agg #[.int .i64 k, .int .i64 i, .string s]] w fun e w' => e = .returned (.string ⟨(txt k i s).toArray⟩) ∧ Below w.heap.size w w' := by
  rcases may_cases hm with ⟨rfl, rfl, _⟩ | ⟨rfl, hi, _⟩ | ⟨rfl, _⟩ | ⟨rfl, rfl⟩ | ⟨rfl, rfl⟩
  · exact rtext0 0 s w
  · have h := rtext1 i s w
    rcases hi with rfl | rfl
    · exact h
    · exact h
  · exact rtext2 i s h0 h1 w
  · exact rtext3 0 s hs w
  · exact rtext4 0 s hs w
set_option maxRecDepth 100000 in
set_option maxHeartbeats 1000000 in
theorem rText_ok (k i : Int) (s : ByteArray) (w : World) (hm : mayB k i s = true) (hs : s.size ≤ 1000000) (h0 : -9223372036854775808 ≤ i) (h1 : i ≤ 9223372036854775807) :
    Calls Tryz.prog 84 #[.agg #[.int .i64 k, .int .i64 i, .string s]] w fun e w' => e = .returned (.tuple #[.string ⟨(txt k i s).toArray⟩, .int .i64 0]) ∧ Below w.heap.size w w' := by
  have hc := rcheck_any k i s
  rw [show chkI k i s = 0 by unfold chkI; rw [hm]; rfl] at hc
  have ht := rtext_any k i s hm hs h0 h1
  generalize (txt k i s).toArray = t at *
  clear hm
  go_enter Tryz.func84, Tryz.ntmps84
  go_wp2_with (go_at_call 126; go_must (refine (hc _).mono ?_); rintro e w1 ⟨rfl, hb1⟩; obtain ⟨-, ⟨e0, e1, e2⟩, hb, hz⟩ := box3 hb1; clear hb1)
  refine (ht _).mono ?_
  rintro e w2 ⟨rfl, hb2⟩
  go_wp2_with fail
  go_ret2
  exact ⟨rfl, bthen hb hb2⟩
set_option maxRecDepth 100000 in
set_option maxHeartbeats 1000000 in
theorem rText_bad (k i : Int) (s : ByteArray) (w : World) (hm : mayB k i s = false) :
    Calls Tryz.prog 84 #[.agg #[.int .i64 k, .int .i64 i, .string s]] w fun e w' => e = .returned (.tuple #[.string ⟨#[]⟩, .int .i64 1]) ∧ Below w.heap.size w w' := by
  have hc := rcheck_any k i s
  rw [show chkI k i s = 1 by unfold chkI; rw [hm]; rfl] at hc
  clear hm
  go_enter Tryz.func84, Tryz.ntmps84
  go_wp2_with (go_at_call 126; go_must (refine (hc _).mono ?_); rintro e w1 ⟨rfl, hb1⟩)
  go_ret2
  exact ⟨rfl, ((Below.refl _ w).alloc (Nat.le_refl _) _).trans (hb1.mono (by simp))⟩
end Go.Proofs.YtcnpoinocnfnjaaGreatDoor.BV
