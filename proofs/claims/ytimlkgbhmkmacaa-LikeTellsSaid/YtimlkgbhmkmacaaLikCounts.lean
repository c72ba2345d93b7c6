/- The law LikeCounts, walked: it answers true whatever the text and the numbers are. No condition. -/
import Derived.Test.YtimlkgbhmkmacaaLikSelf
namespace Go.Proofs.Ytimlkgbhmkmacaa
open Go.RowKit
theorem tmod_in (n m : Int) (hm : 0 < m) : -m < n.tmod m ∧ n.tmod m < m := by
  have h := Int.tmod_lt_of_pos n hm
  refine ⟨?_, h⟩
  have h2 := Int.tmod_lt_of_pos (-n) hm
  rw [Int.neg_tmod] at h2
  omega
theorem dec_eq {a b : Nat} : decide (a = b) = ((a : Int) == (b : Int)) := by
  apply bool_iff
  rw [decide_eq_true_iff, beq_iff_eq]
  omega
/-- The second pattern behind i rounds. -/
def qL (i K : Nat) : List UInt8 := if i ≤ K then List.replicate i 95 else List.replicate K 95 ++ 37 :: List.replicate (i - K) 95
def Two (i K : Nat) (p q : ByteArray) : Prop := p.data.toList = List.replicate i 95 ∧ q.data.toList = qL i K
theorem app_list (a b : ByteArray) : (a ++ b).data.toList = a.data.toList ++ b.data.toList := by simp
theorem rep_snoc (i : Nat) : List.replicate i (95 : UInt8) ++ [95] = List.replicate (i + 1) 95 := by rw [List.replicate_succ']
theorem Two.plain {i K : Nat} {p q : ByteArray} (h : Two i K p q) (hi : i ≠ K) : Two (i + 1) K (p ++ ⟨#[95]⟩) (q ++ ⟨#[95]⟩) := by
  refine ⟨by rw [app_list, h.1]; exact rep_snoc i, ?_⟩
  rw [app_list, h.2]
  unfold qL
  by_cases e : i ≤ K
  · rw [if_pos e, if_pos (by omega)]; exact rep_snoc i
  · rw [if_neg e, if_neg (by omega), List.append_assoc, List.cons_append, show i + 1 - K = i - K + 1 by omega, ← rep_snoc (i - K)]
theorem Two.there {i K : Nat} {p q : ByteArray} (h : Two i K p q) (hi : i = K) : Two (i + 1) K (p ++ ⟨#[95]⟩) (q ++ ⟨#[37]⟩ ++ ⟨#[95]⟩) := by
  refine ⟨by rw [app_list, h.1]; exact rep_snoc i, ?_⟩
  rw [app_list, app_list, h.2]
  unfold qL
  rw [if_pos (by omega), if_neg (by omega), List.append_assoc, show i + 1 - K = 1 by omega, hi]
  rfl
theorem Two.size {i K : Nat} {p q : ByteArray} (h : Two i K p q) : p.size = i ∧ q.size ≤ i + 1 := by
  rw [← size_list p, ← size_list q, h.1, h.2]
  unfold qL
  refine ⟨by simp, ?_⟩
  split
  · simp
  · simp; omega
theorem Two.one {i K : Nat} {p q : ByteArray} (h : Two i K p q) : rd p.data.toList = some (List.replicate i (-1)) := by rw [h.1]; exact rd_count i
theorem Two.late {i K : Nat} {p q : ByteArray} (h : Two i K p q) (hi : K < i) : rd q.data.toList = some (List.replicate K (-1) ++ -2 :: List.replicate (i - K) (-1)) := by
  rw [h.2]
  unfold qL
  rw [if_neg (by omega)]
  exact rd_count_all i K
theorem Two.last {i K : Nat} {p q : ByteArray} (h : Two i K p q) (hi : K = i) : rd (q ++ ⟨#[37]⟩).data.toList = some (List.replicate K (-1) ++ -2 :: List.replicate (i - K) (-1)) := by
  rw [app_list, h.2]
  unfold qL
  rw [if_pos (by omega), ← rd_count_all i K, hi, Nat.sub_self]
  rfl
set_option maxRecDepth 100000 in
set_option maxHeartbeats 4000000 in
theorem counts_core (s : ByteArray) (n k : Int) (w : World) : Calls Try.prog 6 #[.string s, .int .i64 n, .int .i64 k] w fun e w' => e = .returned (.bool true) ∧ Below w.heap.size w w' := by
  have HV := Lib.hid live_any
  by_cases hs : s.size ≤ 300
  · obtain ⟨a, ha⟩ : ∃ a, n.tmod 20 = a := ⟨_, rfl⟩
    have ha2 : -20 < a ∧ a < 20 := ha ▸ tmod_in n 20 (by decide)
    obtain ⟨ha2, ha3⟩ := ha2
    obtain ⟨N, hN⟩ : ∃ N : Nat, (a + 20) % 20 = N := ⟨((a + 20) % 20).toNat, by omega⟩
    have hN2 : a % 20 = N := by omega
    have hN3 : N < 20 := by omega
    obtain ⟨c, hc⟩ : ∃ c, k.tmod ((N : Int) + 1) = c := ⟨_, rfl⟩
    have hc2 : -((N : Int) + 1) < c ∧ c < (N : Int) + 1 := hc ▸ tmod_in k _ (by omega)
    obtain ⟨hc2, hc3⟩ := hc2
    have hc4 : 0 ≤ c + (N : Int) + 1 := by omega
    obtain ⟨K, hK⟩ : ∃ K : Nat, (c + (N : Int) + 1) % ((N : Int) + 1) = K := ⟨((c + (N : Int) + 1) % ((N : Int) + 1)).toNat, by have := Int.emod_nonneg (c + (N : Int) + 1) (show (N : Int) + 1 ≠ 0 by omega); omega⟩
    have hK3 : K ≤ N := by have := Int.emod_lt_of_pos (c + (N : Int) + 1) (show (0 : Int) < (N : Int) + 1 by omega); omega
    have hK2 : (c + (N : Int) + 1).tmod ((N : Int) + 1) = K := by rw [Int.tmod_eq_emod_of_nonneg hc4]; exact hK
    have hz : ¬ ((N : Int) + 1 = 0) := by omega
    go_enter Try.func6, Try.ntmps6
    go_wp2_with fail
    refine (HV.out _).mono ?_
    rintro e w1 ⟨rfl, b1⟩
    go_wp2_with fail
    rw [hN]
    clear ha hN hN2 hc hK hK2 hc4 hz hc2 hc3 ha2 ha3
    go_loopg [8, 9, 35] N (fun g s8 s9 s35 wx => ∃ (i : Nat) (p q : ByteArray), i + g = N ∧ s35 = .int .i64 i ∧ s8 = .string p ∧ s9 = .string q ∧ p.size = i ∧ q.size ≤ i + 1 ∧ Hid (Two i K p q) ∧ w1 = wx)
    case atStart => exact ⟨0, ⟨#[]⟩, ⟨#[]⟩, by omega, rfl, rfl, rfl, rfl, Nat.zero_le _, ⟨rfl, by unfold qL; rw [if_pos (Nat.zero_le _)]; rfl⟩, rfl⟩
    case round =>
      obtain ⟨i, p, q, hig, rfl, rfl, rfl, hps, hqs, HT, rfl⟩ := hrel
      cases gk with
      | zero =>
        have hiz : ¬ ((i : Int) < (N : Int)) := by omega
        obtain rfl : i = N := by omega
        by_cases hKi : K = i
        · have e1 : ((K : Int) == (i : Int)) = true := by rw [beq_iff_eq]; omega
          have HA := Lib.hid (fun w => like_some s p _ w (by omega) (by omega) HT.out.one)
          have HB := Lib.hid (fun w => like_some s (q ++ ⟨#[37]⟩) _ w (by omega) (by rw [size_app]; show _ + 1 ≤ _; omega) (HT.out.last hKi))
          rw [M_count, size_list, dec_eq] at HA
          rw [M_count_all i K (by omega), size_list] at HB
          clear hKi
          go_wp2_with fail
          refine (HA.out _).mono ?_
          rintro e w2 ⟨rfl, b2⟩
          go_wp2_with fail
          refine (HB.out _).mono ?_
          rintro e w3 ⟨rfl, b3⟩
          go_wp2_with fail
          go_ret
          exact ⟨rfl, bthen b1 (bthen b2 b3)⟩
        · have e1 : ((K : Int) == (i : Int)) = false := by rw [beq_eq_false_iff_ne]; omega
          have HA := Lib.hid (fun w => like_some s p _ w (by omega) (by omega) HT.out.one)
          have HB := Lib.hid (fun w => like_some s q _ w (by omega) (by omega) (HT.out.late (by omega)))
          rw [M_count, size_list, dec_eq] at HA
          rw [M_count_all i K (by omega), size_list] at HB
          clear hKi
          go_wp2_with fail
          refine (HA.out _).mono ?_
          rintro e w2 ⟨rfl, b2⟩
          go_wp2_with fail
          refine (HB.out _).mono ?_
          rintro e w3 ⟨rfl, b3⟩
          go_wp2_with fail
          go_ret
          exact ⟨rfl, bthen b1 (bthen b2 b3)⟩
      | succ g =>
        have hiz : (i : Int) < (N : Int) := by omega
        by_cases hKi : i = K
        · have e1 : ((i : Int) == (K : Int)) = true := by rw [beq_iff_eq]; omega
          have HN := Lib.hid (HT.out.there hKi)
          have HZ := Lib.hid HN.out.size
          clear hKi
          go_wp2_with fail
          go_roundg g
          case measure => omega
          case rel => exact ⟨i + 1, _, _, by omega, by go_num, rfl, rfl, HZ.out.1, HZ.out.2, HN.out, rfl⟩
        · have e1 : ((i : Int) == (K : Int)) = false := by rw [beq_eq_false_iff_ne]; omega
          have HN := Lib.hid (HT.out.plain hKi)
          have HZ := Lib.hid HN.out.size
          clear hKi
          go_wp2_with fail
          go_roundg g
          case measure => omega
          case rel => exact ⟨i + 1, _, _, by omega, by go_num, rfl, rfl, HZ.out.1, HZ.out.2, HN.out, rfl⟩
  · go_enter Try.func6, Try.ntmps6
    go_wp2_with fail
    refine (HV.out _).mono ?_
    rintro e w1 ⟨rfl, b1⟩
    go_wp2_with fail
    go_ret
    exact ⟨rfl, b1⟩
end Go.Proofs.Ytimlkgbhmkmacaa
