/- Contracts of token's and of the reference's functions of one byte, and of the reference's at (the byte at a place). No condition. -/
import Derived.Test.YtjnecobamobieaaDoorTokKit
namespace Go.Proofs.YtjnecobamobieaaDoor
open Go.RowKit
set_option maxRecDepth 100000 in
set_option maxHeartbeats 1000000 in
theorem isBlank_any (c : UInt8) (w : World) : Calls Tryd.prog 19 #[.int .u8 c.toNat] w fun e w' => e = .returned (.bool (isWs c)) ∧ w' = w := by
  rw [isWs_eq]
  have h := u8_lt c
  generalize c.toNat = n at *
  have hn : (n : Int) = 32 ∨ ((n : Int) ≠ 32 ∧ (n : Int) = 9) ∨ ((n : Int) ≠ 32 ∧ (n : Int) ≠ 9 ∧ (n : Int) = 10) ∨ ((n : Int) ≠ 32 ∧ (n : Int) ≠ 9 ∧ (n : Int) ≠ 10 ∧ (n : Int) = 13) ∨ ((n : Int) ≠ 32 ∧ (n : Int) ≠ 9 ∧ (n : Int) ≠ 10 ∧ (n : Int) ≠ 13) := by omega
  rcases hn with h1 | ⟨h0, h1⟩ | ⟨h0, h1, h2⟩ | ⟨h0, h1, h2, h3⟩ | ⟨h0, h1, h2, h3⟩
  all_goals
    go_enter Tryd.func19, Tryd.ntmps19
    go_wp2_with fail
    go_ret
    refine ⟨ret_bool ?_, rfl⟩
    first | (exact (decide_eq_true (by omega)).symm) | (exact (decide_eq_false (by omega)).symm) | (refine bool_iff ?_; simp; omega)
set_option maxRecDepth 100000 in
set_option maxHeartbeats 1000000 in
theorem isDigit_any (c : UInt8) (w : World) : Calls Tryd.prog 24 #[.int .u8 c.toNat] w fun e w' => e = .returned (.bool (isDig c)) ∧ w' = w := by
  rw [isDig_eq]
  have h := u8_lt c
  generalize c.toNat = n at *
  have hn : (n : Int) < 48 ∨ ((48 : Int) ≤ n ∧ (n : Int) ≤ 57) ∨ ((48 : Int) ≤ n ∧ (57 : Int) < n) := by omega
  rcases hn with h1 | ⟨h0, h1⟩ | ⟨h0, h1⟩
  all_goals
    go_enter Tryd.func24, Tryd.ntmps24
    go_wp2_with fail
    go_ret
    refine ⟨ret_bool ?_, rfl⟩
    first | (exact (decide_eq_true (by omega)).symm) | (exact (decide_eq_false (by omega)).symm) | (refine bool_iff ?_; simp; omega)
set_option maxRecDepth 100000 in
set_option maxHeartbeats 1000000 in
theorem isLetter_any (c : UInt8) (w : World) : Calls Tryd.prog 22 #[.int .u8 c.toNat] w fun e w' => e = .returned (.bool (isLet c)) ∧ w' = w := by
  rw [isLet_eq]
  have h := u8_lt c
  generalize c.toNat = n at *
  have hn : (n : Int) < 65 ∨ ((65 : Int) ≤ n ∧ (n : Int) ≤ 90) ∨ ((90 : Int) < n ∧ (n : Int) < 97 ∧ (n : Int) ≠ 95) ∨ (n : Int) = 95 ∨ ((97 : Int) ≤ n ∧ (n : Int) ≤ 122) ∨ ((122 : Int) < n) := by omega
  rcases hn with h1 | ⟨h0, h1⟩ | ⟨h0, h1, h2⟩ | h1 | ⟨h0, h1⟩ | h1
  all_goals
    go_enter Tryd.func22, Tryd.ntmps22
    go_wp2_with fail
    go_ret
    refine ⟨ret_bool ?_, rfl⟩
    first | (exact (decide_eq_true (by omega)).symm) | (exact (decide_eq_false (by omega)).symm) | (refine bool_iff ?_; simp; omega)
set_option maxRecDepth 100000 in
set_option maxHeartbeats 1000000 in
theorem isWordByte_any (c : UInt8) (w : World) : Calls Tryd.prog 37 #[.int .u8 c.toNat] w fun e w' => e = .returned (.bool (isWch c)) ∧ w' = w := by
  have h1 := isLetter_any c w
  have h2 := isDigit_any c w
  unfold isWch
  generalize isLet c = a at *
  generalize isDig c = b at *
  go_enter Tryd.func37, Tryd.ntmps37
  go_wp2_with (first | (go_at_call 22; refine h1.mono ?_; rintro e w' ⟨rfl, rfl⟩) | (go_at_call 24; refine h2.mono ?_; rintro e w' ⟨rfl, rfl⟩))
  all_goals go_ret
  all_goals exact ⟨by simp [*], rfl⟩
set_option maxRecDepth 100000 in
set_option maxHeartbeats 1000000 in
theorem digit_any (c : UInt8) (w : World) : Calls Tryd.prog 30 #[.int .u8 c.toNat] w fun e w' => e = .returned (.bool (isDig c)) ∧ w' = w := by
  rw [isDig_eq]
  have h := u8_lt c
  generalize c.toNat = n at *
  have hn : (n : Int) < 48 ∨ ((48 : Int) ≤ n ∧ (n : Int) ≤ 57) ∨ ((48 : Int) ≤ n ∧ (57 : Int) < n) := by omega
  rcases hn with h1 | ⟨h0, h1⟩ | ⟨h0, h1⟩
  all_goals
    go_enter Tryd.func30, Tryd.ntmps30
    go_wp2_with fail
    go_ret
    refine ⟨ret_bool ?_, rfl⟩
    first | (exact (decide_eq_true (by omega)).symm) | (exact (decide_eq_false (by omega)).symm) | (refine bool_iff ?_; simp; omega)
set_option maxRecDepth 100000 in
set_option maxHeartbeats 1000000 in
theorem letter_any (c : UInt8) (w : World) : Calls Tryd.prog 31 #[.int .u8 c.toNat] w fun e w' => e = .returned (.bool (isLet c)) ∧ w' = w := by
  rw [isLet_eq]
  have h := u8_lt c
  generalize c.toNat = n at *
  have hn : (n : Int) < 65 ∨ ((65 : Int) ≤ n ∧ (n : Int) ≤ 90) ∨ ((90 : Int) < n ∧ (n : Int) < 97 ∧ (n : Int) ≠ 95) ∨ (n : Int) = 95 ∨ ((97 : Int) ≤ n ∧ (n : Int) ≤ 122) ∨ ((122 : Int) < n) := by omega
  rcases hn with h1 | ⟨h0, h1⟩ | ⟨h0, h1, h2⟩ | h1 | ⟨h0, h1⟩ | h1
  all_goals
    go_enter Tryd.func31, Tryd.ntmps31
    go_wp2_with fail
    go_ret
    refine ⟨ret_bool ?_, rfl⟩
    first | (exact (decide_eq_true (by omega)).symm) | (exact (decide_eq_false (by omega)).symm) | (refine bool_iff ?_; simp; omega)
def hexI (c : UInt8) : Int := match hexV c with | none => -1 | some h => h
theorem hexV_eq (c : UInt8) : hexV c = if 48 ≤ c.toNat ∧ c.toNat ≤ 57 then some (c.toNat - 48) else if 97 ≤ c.toNat ∧ c.toNat ≤ 102 then some (c.toNat - 87) else if 65 ≤ c.toNat ∧ c.toNat ≤ 70 then some (c.toNat - 55) else none := by
  unfold hexV
  simp only [isDig_iff, Bool.and_eq_true, decide_eq_true_iff, UInt8.le_iff_toNat_le]
  rfl
theorem hexV_lt {c : UInt8} {h : Nat} (e : hexV c = some h) : h < 16 := by
  rw [hexV_eq] at e
  split at e
  · injection e; omega
  · split at e
    · injection e; omega
    · split at e
      · injection e; omega
      · cases e
set_option maxRecDepth 100000 in
set_option maxHeartbeats 1000000 in
theorem hex_any (c : UInt8) (w : World) : Calls Tryd.prog 52 #[.int .u8 c.toNat] w fun e w' => e = .returned (.int .i64 (hexI c)) ∧ w' = w := by
  have h1 := digit_any c w
  rw [isDig_eq] at h1
  unfold hexI
  rw [hexV_eq]
  have h := u8_lt c
  generalize c.toNat = n at *
  have hn : (n : Int) < 48 ∨ ((48 : Int) ≤ n ∧ (n : Int) ≤ 57) ∨ ((57 : Int) < n ∧ (n : Int) < 65) ∨ ((65 : Int) ≤ n ∧ (n : Int) ≤ 70) ∨ ((70 : Int) < n ∧ (n : Int) < 97) ∨ ((97 : Int) ≤ n ∧ (n : Int) ≤ 102) ∨ (102 : Int) < n := by omega
  rcases hn with h2 | ⟨h2, h3⟩ | ⟨h2, h3⟩ | ⟨h2, h3⟩ | ⟨h2, h3⟩ | ⟨h2, h3⟩ | h2
  all_goals
    first
    | rw [decide_eq_true (show 48 ≤ n ∧ n ≤ 57 by omega)] at h1
    | rw [decide_eq_false (show ¬ (48 ≤ n ∧ n ≤ 57) by omega)] at h1
    go_enter Tryd.func52, Tryd.ntmps52
    go_wp2_with (go_at_call 30; refine h1.mono ?_; rintro e w' ⟨rfl, rfl⟩)
    go_ret
    refine ⟨ret_int ?_, rfl⟩
    first
    | rfl
    | omega
    | (rw [if_pos (by omega)]; simp only; omega)
    | (rw [if_neg (by omega), if_pos (by omega)]; simp only; omega)
    | (rw [if_neg (by omega), if_neg (by omega), if_pos (by omega)]; simp only; omega)
    | (rw [if_neg (by omega), if_neg (by omega), if_neg (by omega)])
/-- The byte at a place; 0, where there is none. -/
def byteAt (l : List UInt8) (i : Nat) : UInt8 := l.getD i 0
set_option maxRecDepth 100000 in
set_option maxHeartbeats 1000000 in
theorem at_any (s : ByteArray) (i : Nat) (w : World) : Calls Tryd.prog 39 #[.string s, .int .i64 i] w fun e w' => e = .returned (.int .u8 (byteAt s.data.toList i).toNat) ∧ w' = w := by
  by_cases hi : i < s.size
  · have hb : byteAt s.data.toList i = s[i] := by
      have hl : i < s.data.toList.length := by rw [size_list]; exact hi
      unfold byteAt
      rw [List.getD_eq_getElem?_getD, List.getElem?_eq_getElem hl]
      simp
      rfl
    rw [hb]
    go_enter Tryd.func39, Tryd.ntmps39
    go_wp2_with fail
    all_goals go_ret
    all_goals first | exact ⟨rfl, rfl⟩ | (exfalso; omega)
  · have hb : byteAt s.data.toList i = 0 := by
      unfold byteAt
      rw [List.getD_eq_getElem?_getD, List.getElem?_eq_none (by rw [size_list]; omega)]
      rfl
    rw [hb]
    go_enter Tryd.func39, Tryd.ntmps39
    go_wp2_with fail
    all_goals go_ret
    all_goals first | exact ⟨rfl, rfl⟩ | (exfalso; omega)
end Go.Proofs.YtjnecobamobieaaDoor
