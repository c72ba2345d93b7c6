/- Contracts of the reference's small and word. Condition: no text longer than 4096. -/
import Derived.Test.YtjnecobamobieaaDoorTokRef1
namespace Go.Proofs.YtjnecobamobieaaDoor
open Go.RowKit
set_option maxRecDepth 100000 in
theorem one_str (x : UInt8) (v : Int) (hv : v = x.toNat) (w : World) : (convert 34 9 (.slice (some ⟨w.heap.size, 0, none⟩) 1 1)).run Tryd.prog (w.alloc (.cells #[.int .u8 v] 5)) = .ok (.string (str [x])) (w.alloc (.cells #[.int .u8 v] 5)) := by
  subst hv
  exact conv_at (c := 1) (laid_at w [x] _ 5 rfl)
theorem low_cap {c : UInt8} (h : isCap c = true) : ((low c).toNat : Int) = (c.toNat : Int) + 32 := by
  have h2 := h
  rw [isCap_eq, decide_eq_true_iff] at h2
  unfold isCap at h
  unfold low
  rw [if_pos h, UInt8.toNat_add]
  change (((c.toNat + 32) % 256 : Nat) : Int) = _
  omega
theorem low_not {c : UInt8} (h : isCap c = false) : low c = c := (low_same c).2 h
set_option maxRecDepth 100000 in
set_option maxHeartbeats 4000000 in
theorem small_any (s : ByteArray) (w : World) (hs : s.size ≤ 4096) : Calls Tryd.prog 53 #[.string s] w fun e w' => e = .returned (.string (str (s.data.toList.map low))) ∧ Below w.heap.size w w' := by
  go_enter Tryd.func53, Tryd.ntmps53
  go_wp2_with fail
  go_loopw [4, 3] (fun iv ov wr => ∃ (k : Nat) (x : ByteArray), k ≤ s.size ∧ iv = .int .i64 k ∧ ov = .string x ∧ x.size = k ∧ Hid (x.data.toList = (s.data.toList.take k).map low) ∧ Hid (Below w.heap.size w wr)) (fun iv _ _ => s.size - (intOf iv).toNat)
  case atStart => exact ⟨0, ⟨#[]⟩, Nat.zero_le _, rfl, rfl, rfl, rfl, Below.refl _ _⟩
  case round =>
    obtain ⟨k, x, hk, rfl, rfl, hxz, HX, HB⟩ := hrel
    have hwz := HB.out.size
    by_cases hlt : k < s.size
    · have hkz : (k : Int) < (s.size : Int) := by omega
      have htk : s.data.toList.take (k + 1) = s.data.toList.take k ++ [s[k]] := by rw [List.take_succ_eq_append_getElem (by rw [size_list]; exact hlt), list_get hlt]
      have HX2 : Hid ((x ++ str [low s[k]]).data.toList = (s.data.toList.take (k + 1)).map low) := by
        show _ = _
        rw [app_list, HX.out, htk, List.map_append, str_list]
        rfl
      have hzs : (str [low s[k]]).size = 1 := rfl
      have HB2 := Lib.hid (fun o => HB.out.alloc hwz o)
      have hcap := isCap_eq s[k]
      cases hc : isCap s[k]
      · have hM := one_str (low s[k]) s[k].toNat (by rw [low_not hc]) wr
        rw [hc] at hcap
        have hr := of_decide_eq_false hcap.symm
        have hr2 : (s[k].toNat : Int) < 65 ∨ ((65 : Int) ≤ s[k].toNat ∧ (90 : Int) < s[k].toNat) := by omega
        clear hcap hc htk HX HB hr
        generalize str [low s[k]] = z at *
        have hcat : ¬ (9223372036854775807 < x.size + z.size) := by omega
        rcases hr2 with h1 | ⟨h1, h2⟩
        all_goals
          go_wp2_with fail
          go_roundw
          case measure => simp [intOf]; omega
          case rel => exact ⟨k + 1, x ++ z, by omega, by go_num, rfl, by rw [size_app]; omega, HX2, HB2.out _⟩
      · have hM := one_str (low s[k]) ((s[k].toNat : Int) + 32) (low_cap hc).symm wr
        rw [hc] at hcap
        have hr := of_decide_eq_true hcap.symm
        have h1 : (65 : Int) ≤ s[k].toNat := by omega
        have h2 : (s[k].toNat : Int) ≤ 90 := by omega
        have hw : IntKind.u8.wrap ((s[k].toNat : Int) + 32) = (s[k].toNat : Int) + 32 := by rw [IntKind.wrap_u8]; omega
        clear hcap hc htk HX HB hr
        generalize str [low s[k]] = z at *
        have hcat : ¬ (9223372036854775807 < x.size + z.size) := by omega
        go_wp2_with fail
        go_roundw
        case measure => simp [intOf]; omega
        case rel => exact ⟨k + 1, x ++ z, by omega, by go_num, rfl, by rw [size_app]; omega, HX2, HB2.out _⟩
    · have hkn : k = s.size := by omega
      have hx := HX.out
      rw [hkn, List.take_of_length_le (by rw [size_list]; exact Nat.le_refl _)] at hx
      have HE : Hid (x = str (s.data.toList.map low)) := by
        show _ = _
        rw [← hx, list_str]
      have hkz : ¬ ((k : Int) < (s.size : Int)) := by omega
      clear hx HX
      go_wp2_with fail
      go_ret
      exact ⟨by rw [HE.out]; rfl, HB.out⟩
end Go.Proofs.YtjnecobamobieaaDoor
