/- The law LikeCuts, walked: it answers true whatever the text and the two patterns are. No condition. -/
import Derived.Test.YtimlkgbhmkmacaaLikCounts
namespace Go.Proofs.Ytimlkgbhmkmacaa
open Go.RowKit
/-- Whether one of the first i places cuts the text so that both have their part. -/
def cB (a b : List Int) (l : List UInt8) (i : Nat) : Bool := (List.range i).any fun j => M a (l.take j) && M b (l.drop j)
theorem cB_step (a b : List Int) (l : List UInt8) (i : Nat) : cB a b l (i + 1) = (cB a b l i || (M a (l.take i) && M b (l.drop i))) := by
  unfold cB
  rw [List.range_succ, List.any_append]
  simp
theorem cB_all (a b : List Int) (l : List UInt8) : M (a ++ b) l = cB a b l (l.length + 1) := by
  apply bool_iff
  rw [M_append]
  unfold cB
  rw [List.any_eq_true]
  constructor
  · rintro ⟨k, hk, h1, h2⟩; exact ⟨k, by rw [List.mem_range]; omega, by rw [h1, h2]; rfl⟩
  · rintro ⟨k, hk, h⟩
    rw [Bool.and_eq_true] at h
    rw [List.mem_range] at hk
    exact ⟨k, by omega, h.1, h.2⟩
theorem ext_begin (s : ByteArray) (i : Nat) : (s.extract 0 i).data.toList = s.data.toList.take i := by rw [ext_list, List.drop_zero, Nat.sub_zero]
theorem rd_both {p q : ByteArray} {a b : List Int} (hp : rd p.data.toList = some a) (hq : rd q.data.toList = some b) : rd (p ++ q).data.toList = some (a ++ b) := by
  rw [app_list, rd_append _ _ _ _ (Nat.le_refl _) hp, hq]; rfl
theorem pre_begins {s : ByteArray} {a : List Int} (hu : ∀ u ∈ a, Unit1 u) (h : M a s.data.toList = true) : (preS a).size ≤ s.size ∧ ((s.extract 0 (preS a).size).toList == (preS a).toList) = true := by
  obtain ⟨r, hr⟩ := M_pre a _ hu h
  have e : (preS a).data.toList = (pre a).1 := by unfold preS; simp
  have hl : (preS a).size = (pre a).1.length := by rw [← size_list, e]
  refine ⟨by rw [hl, ← size_list, ← hr]; simp, ?_⟩
  rw [Lib.toList_data, Lib.toList_data, ext_begin, e, hl, ← hr, beq_iff_eq]
  simp
set_option maxRecDepth 100000 in
set_option maxHeartbeats 4000000 in
theorem cuts_core (s p q : ByteArray) (w : World) : Calls Try.prog 5 #[.string s, .string p, .string q] w fun e w' => e = .returned (.bool true) ∧ Below w.heap.size w w' := by
  have HV := Lib.hid live_any
  by_cases hs : s.size ≤ 40 ∧ p.size ≤ 40 ∧ q.size ≤ 40
  · obtain ⟨hs, hp, hq⟩ := hs
    cases hra : rd p.data.toList with
    | none =>
      have HC := Lib.hid (fun w => check_none p w (by omega) hra)
      clear hra
      go_enter Try.func5, Try.ntmps5
      go_wp2_with fail
      refine (HV.out _).mono ?_
      rintro e w1 ⟨rfl, b1⟩
      go_wp2_with fail
      refine (HC.out _).mono ?_
      rintro e w2 ⟨rfl, b2⟩
      go_wp2_with fail
      go_ret
      exact ⟨rfl, bthen b1 b2⟩
    | some a =>
      have HC := Lib.hid (fun w => check_some p a w (by omega) hra)
      cases hrb : rd q.data.toList with
      | none =>
        have HC2 := Lib.hid (fun w => check_none q w (by omega) hrb)
        clear hra hrb
        go_enter Try.func5, Try.ntmps5
        go_wp2_with fail
        refine (HV.out _).mono ?_
        rintro e w1 ⟨rfl, b1⟩
        go_wp2_with fail
        refine (HC.out _).mono ?_
        rintro e w2 ⟨rfl, b2⟩
        go_wp2_with fail
        refine (HC2.out _).mono ?_
        rintro e w3 ⟨rfl, b3⟩
        go_wp2_with fail
        go_ret
        exact ⟨rfl, bthen b1 (bthen b2 b3)⟩
      | some b =>
        have HC2 := Lib.hid (fun w => check_some q b w (by omega) hrb)
        have HA := Lib.hid (fun w i => like_some (s.extract 0 i) p a w (by rw [ByteArray.size_extract]; omega) (by omega) hra)
        have HB := Lib.hid (fun w i => like_some (s.extract i s.size) q b w (by rw [ByteArray.size_extract]; omega) (by omega) hrb)
        have HI := Lib.hid (fun w => like_some s (p ++ q) _ w (by omega) (by rw [size_app]; omega) (rd_both hra hrb))
        rw [cB_all, size_list] at HI
        simp only [ext_begin] at HA
        simp only [ext_end] at HB
        have HP := Lib.hid (fun w => prefix_some p a w (by omega) hra)
        have HO := Lib.hid (fun w => like_some s p a w (by omega) (by omega) hra)
        have hb := @pre_begins s a (rd_units _ _ _ (Nat.le_refl _) hra).2
        have HW := Lib.hid hb
        clear hra hrb hb
        generalize preS a = x at *
        generalize (pre a).2 = x2 at *
        go_enter Try.func5, Try.ntmps5
        go_wp2_with fail
        refine (HV.out _).mono ?_
        rintro e w1 ⟨rfl, b1⟩
        go_wp2_with fail
        refine (HC.out _).mono ?_
        rintro e w2 ⟨rfl, b2⟩
        go_wp2_with fail
        refine (HC2.out _).mono ?_
        rintro e w3 ⟨rfl, b3⟩
        go_wp2_with fail
        have hb3 := bthen b1 (bthen b2 b3)
        clear b1 b2 b3
        go_loopg [8, 47] (s.size + 1) (fun g s8 s47 wx => ∃ (i : Nat) (c : Bool), i + g = s.size + 1 ∧ s47 = .int .i64 i ∧ s8 = .bool c ∧ Hid (c = cB a b s.data.toList i) ∧ Below w.heap.size w wx)
        case atStart => exact ⟨0, false, by omega, rfl, rfl, rfl, hb3⟩
        case round =>
          obtain ⟨i, c, hig, rfl, rfl, HK, hbr⟩ := hrel
          cases gk with
          | zero =>
            have hiz : ¬ ((i : Int) < (s.size : Int) + 1) := by omega
            go_wp2_with fail
            refine (HI.out _).mono ?_
            rintro e w5 ⟨rfl, b5⟩
            go_wp2_with fail
            refine (HP.out _).mono ?_
            rintro e w6 ⟨rfl, b6⟩
            go_wp2_with fail
            refine (HO.out _).mono ?_
            rintro e w7 ⟨rfl, b7⟩
            have hi2 : i = s.size + 1 := by omega
            rw [← hi2, ← HK.out]
            clear hi2
            cases hm : M a s.data.toList
            · clear hm
              go_wp2_with fail
              go_ret
              exact ⟨rfl, bthen hbr (bthen b5 (bthen b6 b7))⟩
            · obtain ⟨h1, h2⟩ := HW.out hm
              clear hm
              go_wp2_with fail
              go_ret
              exact ⟨rfl, bthen hbr (bthen b5 (bthen b6 b7))⟩
          | succ g =>
            have hiz : (i : Int) < (s.size : Int) + 1 := by omega
            go_wp2_with fail
            refine (HA.out _ i).mono ?_
            rintro e w5 ⟨rfl, b5⟩
            go_wp2_with fail
            refine (HB.out _ i).mono ?_
            rintro e w6 ⟨rfl, b6⟩
            go_wp2_with fail
            all_goals
              go_roundg g
              case measure => omega
              case rel => exact ⟨i + 1, _, by omega, by go_num, rfl, by show _ = _; rw [cB_step, ← HK.out]; simp [*], bthen hbr (bthen b5 b6)⟩
  · go_enter Try.func5, Try.ntmps5
    go_wp2_with fail
    refine (HV.out _).mono ?_
    rintro e w1 ⟨rfl, b1⟩
    have hs' : 40 < s.size ∨ (s.size ≤ 40 ∧ 40 < p.size) ∨ (s.size ≤ 40 ∧ p.size ≤ 40 ∧ 40 < q.size) := by omega
    clear hs
    rcases hs' with h1 | ⟨h1, h2⟩ | ⟨h1, h2, h3⟩
    all_goals
      go_wp2_with fail
      go_ret
      exact ⟨rfl, b1⟩
end Go.Proofs.Ytimlkgbhmkmacaa
