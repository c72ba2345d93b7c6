/- Contract of token's span: how many bytes at a text's beginning are a word's, or digits. Condition: no text longer than 2 to the 47. -/
import Derived.Test.YtjnecobamobieaaDoorTokByte
namespace Go.Proofs.YtjnecobamobieaaDoor
open Go.RowKit
theorem tw_get {p : UInt8 → Bool} {l : List UInt8} {k : Nat} (hk : k ≤ (l.takeWhile p).length) (hl : k < l.length) : p l[k] = decide (k < (l.takeWhile p).length) := by
  induction l generalizing k with
  | nil => simp at hl
  | cons c r ih =>
    by_cases hc : p c = true
    · rw [List.takeWhile_cons_of_pos hc] at hk ⊢
      cases k with
      | zero => simp [hc]
      | succ k =>
        simp only [List.length_cons, List.getElem_cons_succ] at hk ⊢
        rw [ih (by omega) (by simpa using hl)]
        apply bool_iff
        simp
    · rw [List.takeWhile_cons_of_neg hc] at hk ⊢
      have : k = 0 := by simpa using hk
      subst this
      simpa using hc
theorem tw_le (p : UInt8 → Bool) (l : List UInt8) : (l.takeWhile p).length ≤ l.length := (List.takeWhile_sublist (p := p) (l := l)).length_le
theorem list_get {s : ByteArray} {k : Nat} (hk : k < s.size) : s.data.toList[k]'(by rw [size_list]; exact hk) = s[k] := by simp; rfl
set_option maxRecDepth 100000 in
set_option maxHeartbeats 1000000 in
theorem spanW (s : ByteArray) (w : World) (hs : s.size ≤ 140737488355328) : Calls Tryd.prog 36 #[.string s, .func (.func 37) #[] #[]] w fun e w' => e = .returned (.int .i64 ((s.data.toList.takeWhile isWch).length : Nat)) ∧ w' = w := by
  have HB := Lib.hid isWordByte_any
  obtain ⟨m, hm⟩ : ∃ m, m = (s.data.toList.takeWhile isWch).length := ⟨_, rfl⟩
  have hmn : m ≤ s.size := by rw [hm, ← size_list]; exact tw_le _ _
  have HG : Hid (∀ k (h : k < s.size), k ≤ m → isWch s[k] = decide (k < m)) := fun k h hk => by
    rw [← list_get h, hm]
    exact tw_get (by omega) (by rw [size_list]; exact h)
  rw [← hm]
  clear hm
  go_enter Tryd.func36, Tryd.ntmps36
  go_wp2_with fail
  go_loopw [5] (fun i wr => ∃ k : Nat, k ≤ m ∧ i = .int .i64 k ∧ wr = w) (fun i _ => m - (intOf i).toNat)
  case atStart => exact ⟨0, Nat.zero_le _, rfl, rfl⟩
  case round =>
    obtain ⟨k, hk, rfl, rfl⟩ := hrel
    by_cases hlt : k < s.size
    · have hg := HG.out k hlt hk
      have hc := fun w => HB.out s[k] w
      simp only [hg] at hc
      clear hg
      by_cases hkm : k < m
      · simp only [decide_eq_true hkm] at hc
        go_wp2_with (go_at_call 37; refine (hc _).mono ?_; rintro e w' ⟨rfl, rfl⟩)
        go_roundw
        case measure => simp [intOf]; omega
        case rel => exact ⟨k + 1, by omega, by go_num, trivial⟩
      · simp only [decide_eq_false hkm] at hc
        have : k = m := by omega
        subst this
        go_wp2_with (go_at_call 37; refine (hc _).mono ?_; rintro e w' ⟨rfl, rfl⟩)
        go_ret
        exact ⟨rfl, rfl⟩
    · have : k = m := by omega
      subst this
      go_wp2_with fail
      go_ret
      exact ⟨rfl, rfl⟩
set_option maxRecDepth 100000 in
set_option maxHeartbeats 1000000 in
theorem spanD (s : ByteArray) (w : World) (hs : s.size ≤ 140737488355328) : Calls Tryd.prog 36 #[.string s, .func (.func 24) #[] #[]] w fun e w' => e = .returned (.int .i64 ((s.data.toList.takeWhile isDig).length : Nat)) ∧ w' = w := by
  have HB := Lib.hid isDigit_any
  obtain ⟨m, hm⟩ : ∃ m, m = (s.data.toList.takeWhile isDig).length := ⟨_, rfl⟩
  have hmn : m ≤ s.size := by rw [hm, ← size_list]; exact tw_le _ _
  have HG : Hid (∀ k (h : k < s.size), k ≤ m → isDig s[k] = decide (k < m)) := fun k h hk => by
    rw [← list_get h, hm]
    exact tw_get (by omega) (by rw [size_list]; exact h)
  rw [← hm]
  clear hm
  go_enter Tryd.func36, Tryd.ntmps36
  go_wp2_with fail
  go_loopw [5] (fun i wr => ∃ k : Nat, k ≤ m ∧ i = .int .i64 k ∧ wr = w) (fun i _ => m - (intOf i).toNat)
  case atStart => exact ⟨0, Nat.zero_le _, rfl, rfl⟩
  case round =>
    obtain ⟨k, hk, rfl, rfl⟩ := hrel
    by_cases hlt : k < s.size
    · have hg := HG.out k hlt hk
      have hc := fun w => HB.out s[k] w
      simp only [hg] at hc
      clear hg
      by_cases hkm : k < m
      · simp only [decide_eq_true hkm] at hc
        go_wp2_with (go_at_call 24; refine (hc _).mono ?_; rintro e w' ⟨rfl, rfl⟩)
        go_roundw
        case measure => simp [intOf]; omega
        case rel => exact ⟨k + 1, by omega, by go_num, trivial⟩
      · simp only [decide_eq_false hkm] at hc
        have : k = m := by omega
        subst this
        go_wp2_with (go_at_call 24; refine (hc _).mono ?_; rintro e w' ⟨rfl, rfl⟩)
        go_ret
        exact ⟨rfl, rfl⟩
    · have : k = m := by omega
      subst this
      go_wp2_with fail
      go_ret
      exact ⟨rfl, rfl⟩

end Go.Proofs.YtjnecobamobieaaDoor
