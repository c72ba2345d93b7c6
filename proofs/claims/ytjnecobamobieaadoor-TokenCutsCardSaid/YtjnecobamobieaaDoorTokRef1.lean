/- Contracts of the reference's blanks and small: the place behind blanks; a text in small letters. Condition: no text longer than 4096. -/
import Derived.Test.YtjnecobamobieaaDoorTokLive
namespace Go.Proofs.YtjnecobamobieaaDoor
open Go.RowKit
theorem byteAt_lt {s : ByteArray} {k : Nat} (hk : k < s.size) : byteAt s.data.toList k = s[k] := by
  unfold byteAt
  rw [List.getD_eq_getElem?_getD, List.getElem?_eq_getElem (by rw [size_list]; exact hk)]
  exact list_get hk
theorem byteAt_ge {s : ByteArray} {k : Nat} (hk : s.size ≤ k) : byteAt s.data.toList k = 0 := by
  unfold byteAt
  rw [List.getD_eq_getElem?_getD, List.getElem?_eq_none (by rw [size_list]; exact hk)]
  rfl
theorem drop_cons {s : ByteArray} {k : Nat} (hk : k < s.size) : s.data.toList.drop k = s[k] :: s.data.toList.drop (k + 1) := by
  rw [← list_get hk]
  exact List.drop_eq_getElem_cons (by rw [size_list]; exact hk)
theorem head_at {s : ByteArray} {k : Nat} (c : UInt8) (h0 : c ≠ 0) : (s.data.toList.drop k).head? = some c ↔ byteAt s.data.toList k = c := by
  rcases Nat.lt_or_ge k s.size with h | h
  · rw [drop_cons h, byteAt_lt h]
    simp
  · rw [List.drop_eq_nil_of_le (by rw [size_list]; exact h), byteAt_ge h]
    simp [Ne.symm h0]
theorem u8_eq {c : UInt8} {n : Nat} (h : c.toNat = n) : (((c.toNat : Nat) : Int) == (n : Int)) = true := by
  rw [beq_iff_eq, h]
theorem u8_ne {c : UInt8} {n : Nat} (h : c.toNat ≠ n) : (((c.toNat : Nat) : Int) == (n : Int)) = false := by
  rw [beq_eq_false_iff_ne]
  omega
/-- Where the blanks' reading stands: what is left is as many bytes further on. -/
def BlkAt (l : List UInt8) (i : Nat) (b : Bool) (k : Nat) : Prop := i + bl false (l.drop i) = k + bl b (l.drop k)
theorem BlkAt.ws {s : ByteArray} {i k : Nat} (h : BlkAt s.data.toList i false k) (hk : k < s.size) (hw : isWs s[k] = true) : BlkAt s.data.toList i false (k + 1) := by
  unfold BlkAt at *
  rw [h, drop_cons hk, bl_ws hw]
  omega
theorem BlkAt.rem {s : ByteArray} {i k : Nat} (h : BlkAt s.data.toList i false k) (hk : k < s.size) (h1 : s[k] = 45) (h2 : byteAt s.data.toList (k + 1) = 45) : BlkAt s.data.toList i true k := by
  unfold BlkAt at *
  rw [h]
  have h3 := (head_at (s := s) (k := k + 1) 45 (by decide)).2 h2
  rw [drop_cons hk, h1]
  cases hd : s.data.toList.drop (k + 1) with
  | nil => rw [hd] at h3; simp at h3
  | cons d r =>
    rw [hd] at h3
    rw [show d = 45 by simpa using h3, bl_dash]
theorem BlkAt.step {s : ByteArray} {i k : Nat} (h : BlkAt s.data.toList i true k) (hk : k < s.size) (h1 : s[k] ≠ 10) : BlkAt s.data.toList i true (k + 1) := by
  unfold BlkAt at *
  rw [h, drop_cons hk]
  simp only [bl]
  rw [if_neg h1]
  omega
theorem BlkAt.line {s : ByteArray} {i k : Nat} (h : BlkAt s.data.toList i true k) (hk : k < s.size) (h1 : s[k] = 10) : BlkAt s.data.toList i false k := by
  unfold BlkAt at *
  rw [h, drop_cons hk, h1]
  simp [bl, isWs]
theorem BlkAt.past {s : ByteArray} {i k : Nat} {b : Bool} (h : BlkAt s.data.toList i b k) (hk : s.size ≤ k) : i + bl false (s.data.toList.drop i) = k := by
  unfold BlkAt at *
  rw [h, List.drop_eq_nil_of_le (by rw [size_list]; exact hk)]
  cases b <;> rfl
theorem BlkAt.stop {s : ByteArray} {i k : Nat} (h : BlkAt s.data.toList i false k) (hk : k < s.size) (hw : isWs s[k] = false) (h2 : ¬ (s[k] = 45 ∧ byteAt s.data.toList (k + 1) = 45)) : i + bl false (s.data.toList.drop i) = k := by
  unfold BlkAt at *
  rw [h, drop_cons hk, bl_none hw (fun h3 => h2 ⟨h3.1, (head_at 45 (by decide)).1 h3.2⟩)]
  rfl
set_option maxRecDepth 100000 in
set_option maxHeartbeats 4000000 in
theorem rblanks_any (s : ByteArray) (i : Nat) (w : World) (hs : s.size ≤ 4096) (hi : i ≤ s.size) : Calls Tryd.prog 28 #[.string s, .int .i64 i] w fun e w' => e = .returned (.int .i64 (i + bl false (s.data.toList.drop i) : Nat)) ∧ w' = w := by
  obtain ⟨res, hres⟩ : ∃ res, res = i + bl false (s.data.toList.drop i) := ⟨_, rfl⟩
  have HR := Lib.hid hres
  rw [← hres]
  clear hres
  go_enter Tryd.func28, Tryd.ntmps28
  go_wp2_with fail
  go_loopw [1] (fun iv wr => ∃ k : Nat, k ≤ s.size ∧ iv = .int .i64 k ∧ wr = w ∧ Hid (BlkAt s.data.toList i false k)) (fun iv _ => s.size - (intOf iv).toNat)
  case atStart => exact ⟨i, hi, rfl, rfl, rfl⟩
  case round =>
    obtain ⟨k, hk, rfl, rfl, HB⟩ := hrel
    by_cases hlt : k < s.size
    · have hkz : (k : Int) < (s.size : Int) := by omega
      have hw := isWs_eq s[k]
      by_cases hws : s[k].toNat = 32 ∨ s[k].toNat = 9 ∨ s[k].toNat = 10 ∨ s[k].toNat = 13
      · have HN := Lib.hid (HB.out.ws hlt (by rw [hw]; exact decide_eq_true hws))
        clear HB hw
        have hcs : (s[k].toNat = 32) ∨ (s[k].toNat ≠ 32 ∧ s[k].toNat = 9) ∨ (s[k].toNat ≠ 32 ∧ s[k].toNat ≠ 9 ∧ s[k].toNat = 10) ∨ (s[k].toNat ≠ 32 ∧ s[k].toNat ≠ 9 ∧ s[k].toNat ≠ 10 ∧ s[k].toNat = 13) := by omega
        clear hws
        rcases hcs with h | ⟨h1, h⟩ | ⟨h1, h2, h⟩ | ⟨h1, h2, h3, h⟩
        · have a0 : (((s[k].toNat : Nat) : Int) == 32) = true := by rw [beq_iff_eq]; omega
          clear h
          go_wp2_with fail
          go_roundw
          case measure => simp [intOf]; omega
          case rel => exact ⟨k + 1, by omega, by go_num, trivial, HN⟩
        · have a0 : (((s[k].toNat : Nat) : Int) == 9) = true := by rw [beq_iff_eq]; omega
          have a1 : (((s[k].toNat : Nat) : Int) == 32) = false := by rw [beq_eq_false_iff_ne]; omega
          clear h h1
          go_wp2_with fail
          go_roundw
          case measure => simp [intOf]; omega
          case rel => exact ⟨k + 1, by omega, by go_num, trivial, HN⟩
        · have a0 : (((s[k].toNat : Nat) : Int) == 10) = true := by rw [beq_iff_eq]; omega
          have a1 : (((s[k].toNat : Nat) : Int) == 32) = false := by rw [beq_eq_false_iff_ne]; omega
          have a2 : (((s[k].toNat : Nat) : Int) == 9) = false := by rw [beq_eq_false_iff_ne]; omega
          clear h h1 h2
          go_wp2_with fail
          go_roundw
          case measure => simp [intOf]; omega
          case rel => exact ⟨k + 1, by omega, by go_num, trivial, HN⟩
        · have a0 : (((s[k].toNat : Nat) : Int) == 13) = true := by rw [beq_iff_eq]; omega
          have a1 : (((s[k].toNat : Nat) : Int) == 32) = false := by rw [beq_eq_false_iff_ne]; omega
          have a2 : (((s[k].toNat : Nat) : Int) == 9) = false := by rw [beq_eq_false_iff_ne]; omega
          have a3 : (((s[k].toNat : Nat) : Int) == 10) = false := by rw [beq_eq_false_iff_ne]; omega
          clear h h1 h2 h3
          go_wp2_with fail
          go_roundw
          case measure => simp [intOf]; omega
          case rel => exact ⟨k + 1, by omega, by go_num, trivial, HN⟩
      · have hwf : isWs s[k] = false := by rw [hw]; exact decide_eq_false hws
        have a0 : (((s[k].toNat : Nat) : Int) == 32) = false := by rw [beq_eq_false_iff_ne]; omega
        have a1 : (((s[k].toNat : Nat) : Int) == 9) = false := by rw [beq_eq_false_iff_ne]; omega
        have a2 : (((s[k].toNat : Nat) : Int) == 10) = false := by rw [beq_eq_false_iff_ne]; omega
        have a3 : (((s[k].toNat : Nat) : Int) == 13) = false := by rw [beq_eq_false_iff_ne]; omega
        have hn10 : s[k] ≠ 10 := fun h => hws (by rw [h]; decide)
        clear hws hw
        have HT : Hid (∀ w, Calls Tryd.prog 39 #[.string s, .int .i64 ((k : Int) + 1)] w fun e w' => e = .returned (.int .u8 (byteAt s.data.toList (k + 1)).toNat) ∧ w' = w) := fun w => at_any s (k + 1) w
        by_cases h45 : s[k] = 45
        · have b0 : (((s[k].toNat : Nat) : Int) == 45) = true := by rw [h45]; rfl
          by_cases h46 : byteAt s.data.toList (k + 1) = 45
          · have HN := Lib.hid (HB.out.rem hlt h45 h46)
            rw [h46, show ((45 : UInt8).toNat : Int) = 45 from rfl] at HT
            clear HB h45 hwf h46
            go_wp2_with fail
            refine (HT.out _).mono ?_
            rintro e w2 ⟨rfl, rfl⟩
            go_wp2_with fail
            go_loopw [1] (fun iv wr => ∃ j : Nat, k ≤ j ∧ j ≤ s.size ∧ iv = .int .i64 j ∧ wr = w2 ∧ Hid (BlkAt s.data.toList i true j)) (fun iv _ => s.size - (intOf iv).toNat)
            case atStart => exact ⟨k, Nat.le_refl _, hk, rfl, rfl, HN.out⟩
            case round =>
              obtain ⟨j, hkj, hj, rfl, rfl, HJ⟩ := hrel
              by_cases hjl : j < s.size
              · have hjz : (j : Int) < (s.size : Int) := by omega
                by_cases hj10 : s[j] = 10
                · have c0 : (((s[j].toNat : Nat) : Int) == 10) = true := by rw [hj10]; rfl
                  have HM := Lib.hid (HJ.out.line hjl hj10)
                  have hne : j ≠ k := fun e => by subst e; exact hn10 hj10
                  clear HJ hj10 a0 a1 a2 a3 b0
                  go_wp2_with fail
                  go_roundw
                  case measure => simp [intOf]; omega
                  case rel => exact ⟨j, hj, by go_num, trivial, HM⟩
                · have c0 : (((s[j].toNat : Nat) : Int) == 10) = false := by
                    rw [beq_eq_false_iff_ne]
                    intro h
                    exact hj10 (UInt8.toNat_inj.1 (by show s[j].toNat = 10; omega))
                  have HM := Lib.hid (HJ.out.step hjl hj10)
                  clear HJ hj10 a0 a1 a2 a3 b0
                  go_wp2_with fail
                  go_roundw
                  case measure => simp [intOf]; omega
                  case rel => exact ⟨j + 1, by omega, by omega, by go_num, trivial, HM⟩
              · have hjn : j = s.size := by omega
                have HM : Hid (BlkAt s.data.toList i false j) := by
                  have h1 := HJ.out.past (by omega)
                  show _ = _
                  rw [h1, List.drop_eq_nil_of_le (by rw [size_list]; omega)]
                  rfl
                have hjz : ¬ ((j : Int) < (s.size : Int)) := by omega
                clear HJ a0 a1 a2 a3 b0
                go_wp2_with fail
                go_roundw
                case measure => simp [intOf]; omega
                case rel => exact ⟨j, hj, by go_num, trivial, HM⟩
          · have HD := Lib.hid (HB.out.stop hlt hwf (fun h => h46 h.2))
            have HK : Hid (res = k) := HR.out.trans HD.out
            have b1 : (((byteAt s.data.toList (k + 1)).toNat : Int) == 45) = false := by
              rw [beq_eq_false_iff_ne]
              intro h
              exact h46 (UInt8.toNat_inj.1 (by show (byteAt s.data.toList (k + 1)).toNat = 45; omega))
            clear HB h45 h46 hwf hn10
            generalize byteAt s.data.toList (k + 1) = bb at *
            go_wp2_with fail
            refine (HT.out _).mono ?_
            rintro e w2 ⟨rfl, rfl⟩
            go_wp2_with fail
            go_ret
            exact ⟨by rw [HK.out]; rfl, rfl⟩
        · have HD := Lib.hid (HB.out.stop hlt hwf (fun h => h45 h.1))
          have HK : Hid (res = k) := HR.out.trans HD.out
          have b0 : (((s[k].toNat : Nat) : Int) == 45) = false := by
            rw [beq_eq_false_iff_ne]
            intro h
            exact h45 (UInt8.toNat_inj.1 (by show s[k].toNat = 45; omega))
          clear HB h45 hwf hn10 HT
          go_wp2_with fail
          go_ret
          exact ⟨by rw [HK.out]; rfl, rfl⟩
    · have HD := Lib.hid (HB.out.past (by omega))
      have HK : Hid (res = k) := HR.out.trans HD.out
      have hkz : ¬ ((k : Int) < (s.size : Int)) := by omega
      clear HB
      go_wp2_with fail
      go_ret
      exact ⟨by rw [HK.out]; rfl, rfl⟩
end Go.Proofs.YtjnecobamobieaaDoor
