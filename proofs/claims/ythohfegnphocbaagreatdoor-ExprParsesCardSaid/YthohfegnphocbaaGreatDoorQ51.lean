/- Contracts of the reference's blanks and small: the place behind blanks; a text in small letters. Condition: no text longer than 4096. -/
import Derived.Test.YthohfegnphocbaaGreatDoorQ11
namespace Go.Proofs.YthohfegnphocbaaGreatDoor
open Go.RowKit
theorem byteAt_lt {s : ByteArray} {k : Nat} (hk : k < s.size) : byteAt s.data.toList k = s[k] := by
  unfold byteAt
  rw [List.getD_eq_getElem?_getD, List.getElem?_eq_getElem (by rw [size_list]; exact hk)]
  exact list_get hk
theorem byteAt_ge {s : ByteArray} {k : Nat} (hk : s.size ≤ k) : byteAt s.data.toList k = 0 := by
  unfold byteAt
  rw [List.getD_eq_getElem?_getD, List.getElem?_eq_none (by rw [size_list]; exact hk)]
  rfl
theorem drop_cons {s : ByteArray} {k : Nat} (hk : k < s.size) : s.data.toList.drop k = s[k] :: s.data.toList.drop (k + 1) := by
  rw [← list_get hk]
  exact List.drop_eq_getElem_cons (by rw [size_list]; exact hk)
theorem head_at {s : ByteArray} {k : Nat} (c : UInt8) (h0 : c ≠ 0) : (s.data.toList.drop k).head? = some c ↔ byteAt s.data.toList k = c := by
  rcases Nat.lt_or_ge k s.size with h | h
  · rw [drop_cons h, byteAt_lt h]
    simp
  · rw [List.drop_eq_nil_of_le (by rw [size_list]; exact h), byteAt_ge h]
    simp [Ne.symm h0]
def BlkAt (l : List UInt8) (i : Nat) (b : Bool) (k : Nat) : Prop := i + bl false (l.drop i) = k + bl b (l.drop k)
theorem BlkAt.ws {s : ByteArray} {i k : Nat} (h : BlkAt s.data.toList i false k) (hk : k < s.size) (hw : isWs s[k] = true) : BlkAt s.data.toList i false (k + 1) := by
  unfold BlkAt at *
  rw [h, drop_cons hk, bl_ws hw]
  omega
theorem BlkAt.rem {s : ByteArray} {i k : Nat} (h : BlkAt s.data.toList i false k) (hk : k < s.size) (h1 : s[k] = 45) (h2 : byteAt s.data.toList (k + 1) = 45) : BlkAt s.data.toList i true k := by
  unfold BlkAt at *
  rw [h]
  have h3 := (head_at (s := s) (k := k + 1) 45 (by decide)).2 h2
  rw [drop_cons hk, h1]
  cases hd : s.data.toList.drop (k + 1) with
  | nil => rw [hd] at h3; simp at h3
  | cons d r =>
    rw [hd] at h3
    rw [show d = 45 by simpa using h3, bl_dash]
theorem BlkAt.step {s : ByteArray} {i k : Nat} (h : BlkAt s.data.toList i true k) (hk : k < s.size) (h1 : s[k] ≠ 10) : BlkAt s.data.toList i true (k + 1) := by
  unfold BlkAt at *
  rw [h, drop_cons hk]
  simp only [bl]
  rw [if_neg h1]
  omega
theorem BlkAt.line {s : ByteArray} {i k : Nat} (h : BlkAt s.data.toList i true k) (hk : k < s.size) (h1 : s[k] = 10) : BlkAt s.data.toList i false k := by
  unfold BlkAt at *
  rw [h, drop_cons hk, h1]
  simp [bl, isWs]
theorem BlkAt.past {s : ByteArray} {i k : Nat} {b : Bool} (h : BlkAt s.data.toList i b k) (hk : s.size ≤ k) : i + bl false (s.data.toList.drop i) = k := by
  unfold BlkAt at *
  rw [h, List.drop_eq_nil_of_le (by rw [size_list]; exact hk)]
  cases b <;> rfl
theorem BlkAt.stop {s : ByteArray} {i k : Nat} (h : BlkAt s.data.toList i false k) (hk : k < s.size) (hw : isWs s[k] = false) (h2 : ¬ (s[k] = 45 ∧ byteAt s.data.toList (k + 1) = 45)) : i + bl false (s.data.toList.drop i) = k := by
  unfold BlkAt at *
  rw [h, drop_cons hk, bl_none hw (fun h3 => h2 ⟨h3.1, (head_at 45 (by decide)).1 h3.2⟩)]
  rfl
set_option maxRecDepth 100000 in
set_option maxHeartbeats 4000000 in
theorem rblanks_any (s : ByteArray) (i : Nat) (w : World) (hs : s.size ≤ 4096) (hi : i ≤ s.size) : Calls Tryz.prog 31 #[.string s, .int .i64 i] w fun e w' => e = .returned (.int .i64 (i + bl false (s.data.toList.drop i) : Nat)) ∧ w' = w := by
  obtain ⟨res, hres⟩ : ∃ res, res = i + bl false (s.data.toList.drop i) := ⟨_, rfl⟩
  have HR := Lib.hid hres
  rw [← hres]
  clear hres
  go_enter Tryz.func31, Tryz.ntmps31
  go_wp2_with fail
  go_loopw [1] (fun iv wr => ∃ k : Nat, k ≤ s.size ∧ iv = .int .i64 k ∧ wr = w ∧ Hid (BlkAt s.data.toList i false k)) (fun iv _ => s.size - (intOf iv).toNat)
  case atStart => exact ⟨i, hi, rfl, rfl, rfl⟩
  case round =>
    obtain ⟨k, hk, rfl, rfl, HB⟩ := hrel
    by_cases hlt : k < s.size
    · have hkz : (k : Int) < (s.size : Int) := by omega
      have hw := isWs_eq s[k]
      by_cases hws : s[k].toNat = 32 ∨ s[k].toNat = 9 ∨ s[k].toNat = 10 ∨ s[k].toNat = 13
      · have HN := Lib.hid (HB.out.ws hlt (by rw [hw]; exact decide_eq_true hws))
        clear HB hw
        have hcs : (s[k].toNat = 32) ∨ (s[k].toNat ≠ 32 ∧ s[k].toNat = 9) ∨ (s[k].toNat ≠ 32 ∧ s[k].toNat ≠ 9 ∧ s[k].toNat = 10) ∨ (s[k].toNat ≠ 32 ∧ s[k].toNat ≠ 9 ∧ s[k].toNat ≠ 10 ∧ s[k].toNat = 13) := by omega
        clear hws
        rcases hcs with h | ⟨h1, h⟩ | ⟨h1, h2, h⟩ | ⟨h1, h2, h3, h⟩
        · have a0 : (((s[k].toNat : Nat) : Int) == 32) = true := by rw [beq_iff_eq]; omega
          clear h
          go_wp2_with fail
          go_roundw
          case measure => simp [intOf]; omega
          case rel => exact ⟨k + 1, by omega, by go_num, trivial, HN⟩
        · have a0 : (((s[k].toNat : Nat) : Int) == 9) = true := by rw [beq_iff_eq]; omega
          have a1 : (((s[k].toNat : Nat) : Int) == 32) = false := by rw [beq_eq_false_iff_ne]; omega
          clear h h1
          go_wp2_with fail
          go_roundw
          case measure => simp [intOf]; omega
          case rel => exact ⟨k + 1, by omega, by go_num, trivial, HN⟩
        · have a0 : (((s[k].toNat : Nat) : Int) == 10) = true := by rw [beq_iff_eq]; omega
          have a1 : (((s[k].toNat : Nat) : Int) == 32) = false := by rw [beq_eq_false_iff_ne]; omega
          have a2 : (((s[k].toNat : Nat) : Int) == 9) = false := by rw [beq_eq_false_iff_ne]; omega
          clear h h1 h2
          go_wp2_with fail
          go_roundw
          case measure => simp [intOf]; omega
          case rel => exact ⟨k + 1, by omega, by go_num, trivial, HN⟩
        · have a0 : (((s[k].toNat : Nat) : Int) == 13) = true := by rw [beq_iff_eq]; omega
          have a1 : (((s[k].toNat : Nat) : Int) == 32) = false := by rw [beq_eq_false_iff_ne]; omega
          have a2 : (((s[k].toNat : Nat) : Int) == 9) = false := by rw [beq_eq_false_iff_ne]; omega
          have a3 : (((s[k].toNat : Nat) : Int) == 10) = false := by rw [beq_eq_false_iff_ne]; omega
          clear h h1 h2 h3
          go_wp2_with fail
          go_roundw
          case measure => simp [intOf]; omega
          case rel => exact ⟨k + 1, by omega, by go_num, trivial, HN⟩
      · have hwf : isWs s[k] = false := by rw [hw]; exact decide_eq_false hws
        have a0 : (((s[k].toNat : Nat) : Int) == 32) = false := by rw [beq_eq_false_iff_ne]; omega
        have a1 : (((s[k].toNat : Nat) : Int) == 9) = false := by rw [beq_eq_false_iff_ne]; omega
        have a2 : (((s[k].toNat : Nat) : Int) == 10) = false := by rw [beq_eq_false_iff_ne]; omega
        have a3 : (((s[k].toNat : Nat) : Int) == 13) = false := by rw [beq_eq_false_iff_ne]; omega
        have hn10 : s[k] ≠ 10 := fun h => hws (by rw [h]; decide)
        clear hws hw
        have HT : Hid (∀ w, Calls Tryz.prog 57 #[.string s, .int .i64 ((k : Int) + 1)] w fun e w' => e = .returned (.int .u8 (byteAt s.data.toList (k + 1)).toNat) ∧ w' = w) := fun w => at_any s (k + 1) w
        by_cases h45 : s[k] = 45
        · have b0 : (((s[k].toNat : Nat) : Int) == 45) = true := by rw [h45]; rfl
          by_cases h46 : byteAt s.data.toList (k + 1) = 45
          · have HN := Lib.hid (HB.out.rem hlt h45 h46)
            rw [h46, show ((45 : UInt8).toNat : Int) = 45 from rfl] at HT
            clear HB h45 hwf h46
            go_wp2_with fail
            refine (HT.out _).mono ?_
            rintro e w2 ⟨rfl, rfl⟩
            go_wp2_with fail
            go_loopw [1] (fun iv wr => ∃ j : Nat, k ≤ j ∧ j ≤ s.size ∧ iv = .int .i64 j ∧ wr = w2 ∧ Hid (BlkAt s.data.toList i true j)) (fun iv _ => s.size - (intOf iv).toNat)
            case atStart => exact ⟨k, Nat.le_refl _, hk, rfl, rfl, HN.out⟩
            case round =>
              obtain ⟨j, hkj, hj, rfl, rfl, HJ⟩ := hrel
              by_cases hjl : j < s.size
              · have hjz : (j : Int) < (s.size : Int) := by omega
                by_cases hj10 : s[j] = 10
                · have c0 : (((s[j].toNat : Nat) : Int) == 10) = true := by rw [hj10]; rfl
                  have HM := Lib.hid (HJ.out.line hjl hj10)
                  have hne : j ≠ k := fun e => by subst e; exact hn10 hj10
                  clear HJ hj10 a0 a1 a2 a3 b0
                  go_wp2_with fail
                  go_roundw
                  case measure => simp [intOf]; omega
                  case rel => exact ⟨j, hj, by go_num, trivial, HM⟩
                · have c0 : (((s[j].toNat : Nat) : Int) == 10) = false := by
                    rw [beq_eq_false_iff_ne]
                    intro h
                    exact hj10 (UInt8.toNat_inj.1 (by show s[j].toNat = 10; omega))
                  have HM := Lib.hid (HJ.out.step hjl hj10)
                  clear HJ hj10 a0 a1 a2 a3 b0
                  go_wp2_with fail
                  go_roundw
                  case measure => simp [intOf]; omega
                  case rel => exact ⟨j + 1, by omega, by omega, by go_num, trivial, HM⟩
              · have hjn : j = s.size := by omega
                have HM : Hid (BlkAt s.data.toList i false j) := by
                  have h1 := HJ.out.past (by omega)
                  show _ = _
                  rw [h1, List.drop_eq_nil_of_le (by rw [size_list]; omega)]
                  rfl
                have hjz : ¬ ((j : Int) < (s.size : Int)) := by omega
                clear HJ a0 a1 a2 a3 b0
                go_wp2_with fail
                go_roundw
                case measure => simp [intOf]; omega
                case rel => exact ⟨j, hj, by go_num, trivial, HM⟩
          · have HD := Lib.hid (HB.out.stop hlt hwf (fun h => h46 h.2))
            have HK : Hid (res = k) := HR.out.trans HD.out
            have b1 : (((byteAt s.data.toList (k + 1)).toNat : Int) == 45) = false := by
              rw [beq_eq_false_iff_ne]
              intro h
              exact h46 (UInt8.toNat_inj.1 (by show (byteAt s.data.toList (k + 1)).toNat = 45; omega))
            clear HB h45 h46 hwf hn10
            generalize byteAt s.data.toList (k + 1) = bb at *
            go_wp2_with fail
            refine (HT.out _).mono ?_
            rintro e w2 ⟨rfl, rfl⟩
            go_wp2_with fail
            go_ret
            exact ⟨by rw [HK.out]; rfl, rfl⟩
        · have HD := Lib.hid (HB.out.stop hlt hwf (fun h => h45 h.1))
          have HK : Hid (res = k) := HR.out.trans HD.out
          have b0 : (((s[k].toNat : Nat) : Int) == 45) = false := by
            rw [beq_eq_false_iff_ne]
            intro h
            exact h45 (UInt8.toNat_inj.1 (by show s[k].toNat = 45; omega))
          clear HB h45 hwf hn10 HT
          go_wp2_with fail
          go_ret
          exact ⟨by rw [HK.out]; rfl, rfl⟩
    · have HD := Lib.hid (HB.out.past (by omega))
      have HK : Hid (res = k) := HR.out.trans HD.out
      have hkz : ¬ ((k : Int) < (s.size : Int)) := by omega
      clear HB
      go_wp2_with fail
      go_ret
      exact ⟨by rw [HK.out]; rfl, rfl⟩
end Go.Proofs.YthohfegnphocbaaGreatDoor
namespace Go.Proofs.YthohfegnphocbaaGreatDoor
open Go.RowKit
set_option maxRecDepth 100000 in
theorem one_str (x : UInt8) (v : Int) (hv : v = x.toNat) (w : World) : (convert 67 9 (.slice (some ⟨w.heap.size, 0, none⟩) 1 1)).run Tryz.prog (w.alloc (.cells #[.int .u8 v] 5)) = .ok (.string (str [x])) (w.alloc (.cells #[.int .u8 v] 5)) := by
  subst hv
  exact conv_at (c := 1) (laid_at w [x] _ 5 rfl)
theorem low_cap {c : UInt8} (h : isCap c = true) : ((low c).toNat : Int) = (c.toNat : Int) + 32 := by
  have h2 := h
  rw [isCap_eq, decide_eq_true_iff] at h2
  unfold isCap at h
  unfold low
  rw [if_pos h, UInt8.toNat_add]
  change (((c.toNat + 32) % 256 : Nat) : Int) = _
  omega
theorem low_not {c : UInt8} (h : isCap c = false) : low c = c := (low_same c).2 h
set_option maxRecDepth 100000 in
set_option maxHeartbeats 4000000 in
theorem small_any (s : ByteArray) (w : World) (hs : s.size ≤ 4096) : Calls Tryz.prog 103 #[.string s] w fun e w' => e = .returned (.string (str (s.data.toList.map low))) ∧ Below w.heap.size w w' := by
  go_enter Tryz.func103, Tryz.ntmps103
  go_wp2_with fail
  go_loopw [4, 3] (fun iv ov wr => ∃ (k : Nat) (x : ByteArray), k ≤ s.size ∧ iv = .int .i64 k ∧ ov = .string x ∧ x.size = k ∧ Hid (x.data.toList = (s.data.toList.take k).map low) ∧ Hid (Below w.heap.size w wr)) (fun iv _ _ => s.size - (intOf iv).toNat)
  case atStart => exact ⟨0, ⟨#[]⟩, Nat.zero_le _, rfl, rfl, rfl, rfl, Below.refl _ _⟩
  case round =>
    obtain ⟨k, x, hk, rfl, rfl, hxz, HX, HB⟩ := hrel
    have hwz := HB.out.size
    by_cases hlt : k < s.size
    · have hkz : (k : Int) < (s.size : Int) := by omega
      have htk : s.data.toList.take (k + 1) = s.data.toList.take k ++ [s[k]] := by rw [List.take_succ_eq_append_getElem (by rw [size_list]; exact hlt), list_get hlt]
      have HX2 : Hid ((x ++ str [low s[k]]).data.toList = (s.data.toList.take (k + 1)).map low) := by
        show _ = _
        rw [app_list, HX.out, htk, List.map_append, str_list]
        rfl
      have hzs : (str [low s[k]]).size = 1 := rfl
      have HB2 := Lib.hid (fun o => HB.out.alloc hwz o)
      have hcap := isCap_eq s[k]
      cases hc : isCap s[k]
      · have hM := one_str (low s[k]) s[k].toNat (by rw [low_not hc]) wr
        rw [hc] at hcap
        have hr := of_decide_eq_false hcap.symm
        have hr2 : (s[k].toNat : Int) < 65 ∨ ((65 : Int) ≤ s[k].toNat ∧ (90 : Int) < s[k].toNat) := by omega
        clear hcap hc htk HX HB hr
        generalize str [low s[k]] = z at *
        have hcat : ¬ (9223372036854775807 < x.size + z.size) := by omega
        rcases hr2 with h1 | ⟨h1, h2⟩
        all_goals
          go_wp2_with fail
          go_roundw
          case measure => simp [intOf]; omega
          case rel => exact ⟨k + 1, x ++ z, by omega, by go_num, rfl, by rw [size_app]; omega, HX2, HB2.out _⟩
      · have hM := one_str (low s[k]) ((s[k].toNat : Int) + 32) (low_cap hc).symm wr
        rw [hc] at hcap
        have hr := of_decide_eq_true hcap.symm
        have h1 : (65 : Int) ≤ s[k].toNat := by omega
        have h2 : (s[k].toNat : Int) ≤ 90 := by omega
        have hw : IntKind.u8.wrap ((s[k].toNat : Int) + 32) = (s[k].toNat : Int) + 32 := by rw [IntKind.wrap_u8]; omega
        clear hcap hc htk HX HB hr
        generalize str [low s[k]] = z at *
        have hcat : ¬ (9223372036854775807 < x.size + z.size) := by omega
        go_wp2_with fail
        go_roundw
        case measure => simp [intOf]; omega
        case rel => exact ⟨k + 1, x ++ z, by omega, by go_num, rfl, by rw [size_app]; omega, HX2, HB2.out _⟩
    · have hkn : k = s.size := by omega
      have hx := HX.out
      rw [hkn, List.take_of_length_le (by rw [size_list]; exact Nat.le_refl _)] at hx
      have HE : Hid (x = str (s.data.toList.map low)) := by
        show _ = _
        rw [← hx, list_str]
      have hkz : ¬ ((k : Int) < (s.size : Int)) := by omega
      clear hx HX
      go_wp2_with fail
      go_ret
      exact ⟨by rw [HE.out]; rfl, HB.out⟩
end Go.Proofs.YthohfegnphocbaaGreatDoor
namespace Go.Proofs.YthohfegnphocbaaGreatDoor
open Go.RowKit
theorem byteAt_drop (s : ByteArray) (i k : Nat) : byteAt s.data.toList (i + k) = (s.data.toList.drop i).getD k 0 := by
  unfold byteAt
  rw [List.getD_eq_getElem?_getD, List.getD_eq_getElem?_getD, List.getElem?_drop]
theorem word_next (d : List UInt8) (m : Nat) (hm : m ≤ wLen d) : isWch (d.getD m 0) = decide (m < wLen d) := by
  have hle := tw_le isWch d
  by_cases h : m < d.length
  · rw [List.getD_eq_getElem?_getD, List.getElem?_eq_getElem h]
    exact tw_get hm h
  · rw [List.getD_eq_getElem?_getD, List.getElem?_eq_none (by omega)]
    have : ¬ m < wLen d := fun h2 => by unfold wLen at h2; omega
    rw [decide_eq_false this]
    rfl
theorem told_no {o : Option Tk} {i : Nat} (h : o = none) (u : T) (y : Int) : Told o i (.tuple #[u.val, .int .i64 y, .bool false]) := by
  subst h
  exact ⟨u, y, rfl⟩
theorem told_yes {o : Option Tk} {i k : Nat} {t : Tk} (h : o = some t) (hk : k = i + t.n) : Told o i (.tuple #[.agg #[.int .i64 t.k, .string (str t.s), .int .i64 t.i, .int .i64 i], .int .i64 k, .bool true]) := by
  subst h
  subst hk
  rfl
set_option maxRecDepth 100000 in
set_option maxHeartbeats 4000000 in
theorem rword_any (s : ByteArray) (i : Nat) (w : World) (hs : s.size ≤ 4096) (hi : i ≤ s.size) : Calls Tryz.prog 60 #[.string s, .int .i64 i] w fun e w' => (∃ v, e = .returned v ∧ Told (wordO (s.data.toList.drop i)) i v) ∧ Below w.heap.size w w' := by
  have HA := Lib.hid (fun k w => at_any s k w)
  have HL := Lib.hid letter_any
  have HD := Lib.hid digit_any
  have hle := tw_le isWch (s.data.toList.drop i)
  rw [List.length_drop, size_list] at hle
  change wLen (s.data.toList.drop i) ≤ _ at hle
  have HG : Hid (∀ k, i ≤ k → k ≤ i + wLen (s.data.toList.drop i) → isWch (byteAt s.data.toList k) = decide (k < i + wLen (s.data.toList.drop i))) := fun k h1 h2 => by
    have := word_next (s.data.toList.drop i) (k - i) (by omega)
    rw [← byteAt_drop, show i + (k - i) = k by omega] at this
    rw [this]
    apply bool_iff
    rw [decide_eq_true_iff, decide_eq_true_iff]
    omega
  have HO : Hid (wordO (s.data.toList.drop i) = if wLen (s.data.toList.drop i) ≤ 32 then some ⟨1, ((s.data.toList.drop i).take (wLen (s.data.toList.drop i))).map low, 0, wLen (s.data.toList.drop i)⟩ else none) := rfl
  have HX : Hid ((s.extract i (i + wLen (s.data.toList.drop i))).data.toList = (s.data.toList.drop i).take (wLen (s.data.toList.drop i))) := by
    show _ = _
    rw [ext_list, show i + wLen (s.data.toList.drop i) - i = wLen (s.data.toList.drop i) by omega]
  generalize wLen (s.data.toList.drop i) = m at *
  generalize wordO (s.data.toList.drop i) = o at *
  have bz := zbox w
  have hb0 := (Below.refl w.heap.size w).alloc (Nat.le_refl _) (.cells #[.int .i64 0, .string ⟨#[]⟩, .int .i64 0, .int .i64 0] 51)
  go_enter Tryz.func60, Tryz.ntmps60
  go_wp2_with fail
  generalize w.alloc (.cells #[.int .i64 0, .string ⟨#[]⟩, .int .i64 0, .int .i64 0] 51) = W1 at *
  go_loopw [7] (fun iv wr => ∃ k : Nat, i ≤ k ∧ k ≤ i + m ∧ iv = .int .i64 k ∧ wr = W1) (fun iv _ => i + m - (intOf iv).toNat)
  case atStart => exact ⟨i, Nat.le_refl _, by omega, rfl, rfl⟩
  case round =>
    obtain ⟨k, hik, hk, rfl, rfl⟩ := hrel
    have hg := HG.out k hik hk
    have HA1 := Lib.hid (fun w => HA.out k w)
    unfold isWch at hg
    generalize byteAt s.data.toList k = c at *
    have HL1 := Lib.hid (fun w => HL.out c w)
    have HD1 := Lib.hid (fun w => HD.out c w)
    by_cases hkm : k < i + m
    · rw [decide_eq_true hkm] at hg
      cases hl : isLet c
      · rw [hl] at hg HL1
        rw [show isDig c = true by simpa using hg] at HD1
        clear hg hl
        go_wp2_with fail
        refine (HA1.out _).mono ?_
        rintro e w2 ⟨rfl, rfl⟩
        go_wp2_with fail
        refine (HL1.out _).mono ?_
        rintro e w2 ⟨rfl, rfl⟩
        go_wp2_with fail
        refine (HA1.out _).mono ?_
        rintro e w2 ⟨rfl, rfl⟩
        go_wp2_with fail
        refine (HD1.out _).mono ?_
        rintro e w2 ⟨rfl, rfl⟩
        go_wp2_with fail
        go_roundw
        case measure => simp [intOf]; omega
        case rel => exact ⟨k + 1, by omega, by omega, by go_num, trivial⟩
      · rw [hl] at HL1
        clear hg hl
        go_wp2_with fail
        refine (HA1.out _).mono ?_
        rintro e w2 ⟨rfl, rfl⟩
        go_wp2_with fail
        refine (HL1.out _).mono ?_
        rintro e w2 ⟨rfl, rfl⟩
        go_wp2_with fail
        go_roundw
        case measure => simp [intOf]; omega
        case rel => exact ⟨k + 1, by omega, by omega, by go_num, trivial⟩
    · have hke : k = i + m := by omega
      rw [decide_eq_false hkm] at hg
      rw [Bool.or_eq_false_iff] at hg
      rw [hg.1] at HL1
      rw [hg.2] at HD1
      have HKE := Lib.hid hke
      have hmi : k - i = m := by omega
      have HX1 : Hid ((s.extract i k).data.toList = (s.data.toList.drop i).take m) := by rw [hke]; exact HX.out
      have HS := Lib.hid (fun w => small_any (s.extract i k) w (by rw [ByteArray.size_extract]; omega))
      rw [HX1.out] at HS
      have hks : k ≤ s.size := by omega
      clear hg hke hmi
      go_wp2_with fail
      refine (HA1.out _).mono ?_
      rintro e w2 ⟨rfl, rfl⟩
      go_wp2_with fail
      refine (HL1.out _).mono ?_
      rintro e w2 ⟨rfl, rfl⟩
      go_wp2_with fail
      refine (HA1.out _).mono ?_
      rintro e w2 ⟨rfl, rfl⟩
      go_wp2_with fail
      refine (HD1.out _).mono ?_
      rintro e w2 ⟨rfl, rfl⟩
      go_wp2_with fail
      refine (HS.out _).mono ?_
      rintro e w3 ⟨rfl, b3⟩
      have B3 := Lib.hid (hb0.trans (b3.mono hb0.size))
      obtain ⟨c0, c1, c2, c3⟩ := (bz.later b3).zcells
      obtain ⟨f0, f1, f2, f3⟩ := (bz.later b3).free
      have hz : (k : Int) - (i : Int) = ((k - i : Nat) : Int) := by omega
      by_cases h32 : m ≤ 32
      · have h32z : (k : Int) - (i : Int) ≤ 32 := by have := HKE.out; omega
        have HT := Lib.hid (told_yes (o := o) (i := i) (k := k) (HO.out.trans (if_pos h32)) HKE.out)
        generalize ((s.data.toList.drop i).take m).map low = bs at *
        clear hz bz b3
        go_wp2_with fail
        exact bodyPost_ret (v := .tuple #[.agg #[.int .i64 1, .string (str bs), .int .i64 0, .int .i64 i], .int .i64 k, .bool true]) (by simp [results, Tryz.results60, go_sem, c0, c1, c2, c3]) rfl ⟨⟨_, rfl, HT.out⟩, Below.set4 B3.out (Nat.le_refl _) _ _ _ _⟩
      · have h32z : (32 : Int) < (k : Int) - (i : Int) := by have := HKE.out; omega
        have HT := Lib.hid (told_no (i := i) (HO.out.trans (if_neg h32)) ⟨1, ((s.data.toList.drop i).take m).map low, 0, i⟩ k)
        generalize ((s.data.toList.drop i).take m).map low = bs at *
        clear hz bz b3
        go_wp2_with fail
        exact bodyPost_ret (v := .tuple #[.agg #[.int .i64 1, .string (str bs), .int .i64 0, .int .i64 i], .int .i64 k, .bool false]) (by simp [results, Tryz.results60, go_sem, c0, c1, c2, c3]; exact h32z) rfl ⟨⟨_, rfl, HT.out⟩, Below.set4 B3.out (Nat.le_refl _) _ _ _ _⟩
end Go.Proofs.YthohfegnphocbaaGreatDoor
namespace Go.Proofs.YthohfegnphocbaaGreatDoor
open Go.RowKit
theorem ext_one {s : ByteArray} {k : Nat} (hk : k < s.size) : (s.extract k (k + 1)).data.toList = [s[k]] := by
  rw [ext_list, drop_cons hk, show k + 1 - k = 1 by omega]
  rfl
theorem drop_get {s : ByteArray} {i m : Nat} (h : i + m < s.size) : (s.data.toList.drop i)[m]'(by rw [List.length_drop, size_list]; omega) = s[i + m] := by
  rw [List.getElem_drop]
  exact list_get h
theorem textO_some {l acc : List UInt8} {k : Nat} (h : txtR (l.drop 1) = some (acc, k)) : textO l = some ⟨3, acc, 0, k + 1⟩ := by
  unfold textO
  rw [h]
  rfl
theorem textO_no {l : List UInt8} (h : txtR (l.drop 1) = none) : textO l = none := by
  unfold textO
  rw [h]
  rfl
set_option maxRecDepth 100000 in
set_option maxHeartbeats 4000000 in
theorem rtext_any (s : ByteArray) (i : Nat) (w : World) (hs : s.size ≤ 4096) (hi : i < s.size) : Calls Tryz.prog 63 #[.string s, .int .i64 i] w fun e w' => (∃ v, e = .returned v ∧ Told (textO (s.data.toList.drop i)) i v) ∧ Below w.heap.size w w' := by
  have HA : Hid (∀ (k : Nat) (w : World), Calls Tryz.prog 57 #[.string s, .int .i64 ((k : Int) + 1)] w fun e w' => e = .returned (.int .u8 (byteAt s.data.toList (k + 1)).toNat) ∧ w' = w) := fun k w => at_any s (k + 1) w
  have hdl : (s.data.toList.drop i).length = s.size - i := by rw [List.length_drop, size_list]
  have HDL := Lib.hid hdl
  have HGT : Hid (∀ m (h : i + m < s.size) (h2 : m < (s.data.toList.drop i).length), (s.data.toList.drop i)[m] = s[i + m]) := fun m h _ => drop_get h
  have HTS := Lib.hid (fun acc k h => textO_some (l := s.data.toList.drop i) (acc := acc) (k := k) h)
  have HTN := Lib.hid (fun h => textO_no (l := s.data.toList.drop i) h)
  have HST := Lib.hid (TxtAt.start (s.data.toList.drop i))
  clear hdl
  generalize s.data.toList.drop i = D at *
  have bz := zbox w
  have hb0 := (Below.refl w.heap.size w).alloc (Nat.le_refl _) (.cells #[.int .i64 0, .string ⟨#[]⟩, .int .i64 0, .int .i64 0] 51)
  go_enter Tryz.func63, Tryz.ntmps63
  go_wp2_with fail
  generalize w.alloc (.cells #[.int .i64 0, .string ⟨#[]⟩, .int .i64 0, .int .i64 0] 51) = W1 at *
  obtain ⟨c0, c1, c2, c3⟩ := bz.zcells
  obtain ⟨f0, f1, f2, f3⟩ := bz.free
  have HB0 := Lib.hid hb0
  clear bz hb0
  go_loopw [8, 7] (fun iv ov wr => ∃ (k : Nat) (x : ByteArray), i + 1 ≤ k ∧ k ≤ s.size + 1 ∧ iv = .int .i64 k ∧ ov = .string x ∧ x.size ≤ k ∧ wr = W1 ∧ Hid (TxtAt D x.data.toList (k - i))) (fun iv _ _ => s.size + 1 - (intOf iv).toNat)
  case atStart => exact ⟨i + 1, ⟨#[]⟩, Nat.le_refl _, by omega, by simp, rfl, Nat.zero_le _, rfl, (by show TxtAt _ _ _; rw [show i + 1 - i = 1 by omega]; exact HST.out)⟩
  case round =>
    obtain ⟨k, x, hik, hk, rfl, rfl, hxz, rfl, HT⟩ := hrel
    by_cases hlt : k < s.size
    · have hkd : k - i < D.length := by rw [HDL.out]; omega
      have hgk := HGT.out (k - i) (by omega) hkd
      simp only [show i + (k - i) = k by omega] at hgk
      have hkz : (k : Int) < (s.size : Int) := by omega
      by_cases hq : s[k] = 39
      · have hq1 : (((s[k].toNat : Nat) : Int) != 39) = false := by rw [hq]; rfl
        have HA1 := Lib.hid (fun w => HA.out k w)
        by_cases hq2 : byteAt s.data.toList (k + 1) = 39
        · have hk2 : k + 1 < s.size := by
            rcases Nat.lt_or_ge (k + 1) s.size with h | h
            · exact h
            · rw [byteAt_ge h] at hq2
              cases hq2
          have hgk2 := HGT.out (k - i + 1) (by omega) (by rw [HDL.out]; omega)
          simp only [show i + (k - i + 1) = k + 1 by omega] at hgk2
          have HD := HT.out.two (by omega) (by rw [HDL.out]; omega) (hgk.trans hq) (hgk2.trans (by rw [← byteAt_lt hk2]; exact hq2))
          have HD2 : Hid (TxtAt D (x ++ ⟨#[39]⟩).data.toList (k + 2 - i)) := by
            show TxtAt _ _ _
            rw [app_list, show k + 2 - i = k - i + 2 by omega]
            exact HD
          rw [hq2, show ((39 : UInt8).toNat : Int) = 39 from rfl] at HA1
          have hcat : ¬ (9223372036854775807 < x.size + 1) := by omega
          clear hq hq2 HD hgk hgk2 HT
          go_wp2_with fail
          refine (HA1.out _).mono ?_
          rintro e w2 ⟨rfl, rfl⟩
          go_wp2_with fail
          go_roundw
          case measure => simp [intOf]; omega
          case rel => exact ⟨k + 2, x ++ ⟨#[39]⟩, by omega, by omega, by go_num, rfl, by rw [size_app, show (⟨#[39]⟩ : ByteArray).size = 1 from rfl]; omega, trivial, HD2⟩
        · have hq3 : (((byteAt s.data.toList (k + 1)).toNat : Int) != 39) = true := by
            rw [bne_iff_ne]
            intro h
            exact hq2 (UInt8.toNat_inj.1 (by show (byteAt s.data.toList (k + 1)).toNat = 39; omega))
          have HD := Lib.hid (told_yes (i := i) (k := k + 1) (HTS.out _ _ (HT.out.done (by omega) hkd (hgk.trans hq) (fun h => by
            rw [HDL.out] at h
            have hk2 : k + 1 < s.size := by omega
            have hgk2 := HGT.out (k - i + 1) (by omega) (by rw [HDL.out]; omega)
            simp only [show i + (k - i + 1) = k + 1 by omega] at hgk2
            rw [hgk2, ← byteAt_lt hk2]
            exact hq2))) (by show k + 1 = i + (k - i + 1); omega))
          rw [Int.natCast_add, list_str] at HD
          clear hq hq2 hgk HT
          generalize byteAt s.data.toList (k + 1) = bb at *
          go_wp2_with fail
          refine (HA1.out _).mono ?_
          rintro e w2 ⟨rfl, rfl⟩
          go_wp2_with fail
          exact bodyPost_ret (v := .tuple #[.agg #[.int .i64 3, .string x, .int .i64 0, .int .i64 i], .int .i64 ((k : Int) + 1), .bool true]) (by simp [results, Tryz.results63, go_sem, c0, c1, c2, c3]) rfl ⟨⟨_, rfl, HD.out⟩, Below.set4 HB0.out (Nat.le_refl _) _ _ _ _⟩
      · have hq1 : (((s[k].toNat : Nat) : Int) != 39) = true := by
          rw [bne_iff_ne]
          intro h
          exact hq (UInt8.toNat_inj.1 (by show s[k].toNat = 39; omega))
        have HD := HT.out.other (by omega) hkd (by rw [hgk]; exact hq)
        rw [hgk] at HD
        have HD2 : Hid (TxtAt D (x ++ s.extract k (k + 1)).data.toList (k + 1 - i)) := by
          show TxtAt _ _ _
          rw [app_list, ext_one hlt, show k + 1 - i = k - i + 1 by omega]
          exact HD
        have hes : (s.extract k (k + 1)).size = 1 := by rw [← size_list, ext_one hlt]; rfl
        have hcat : ¬ (9223372036854775807 < x.size + (s.extract k (k + 1)).size) := by omega
        have HES := Lib.hid hes
        clear hq HD hgk HT hes
        go_wp2_with fail
        go_roundw
        case measure => simp [intOf]; omega
        case rel => exact ⟨k + 1, x ++ s.extract k (k + 1), by omega, by omega, by go_num, rfl, by rw [size_app, HES.out]; omega, trivial, HD2⟩
    · have HD := Lib.hid (told_no (i := i) (HTN.out (HT.out.none (by rw [HDL.out]; omega))) zT 0)
      have hkz : ¬ ((k : Int) < (s.size : Int)) := by omega
      clear HT
      go_wp2_with fail
      exact bodyPost_ret (v := .tuple #[.agg #[.int .i64 0, .string ⟨#[]⟩, .int .i64 0, .int .i64 0], .int .i64 0, .bool false]) (by simp [results, Tryz.results63, go_sem, c0, c1, c2, c3]) rfl ⟨⟨_, rfl, HD.out⟩, Below.set4 HB0.out (Nat.le_refl _) _ _ _ _⟩
end Go.Proofs.YthohfegnphocbaaGreatDoor
namespace Go.Proofs.YthohfegnphocbaaGreatDoor
open Go.RowKit
def NumAt (d : List UInt8) (acc m : Nat) : Prop := numV 0 d = (numV acc (d.drop m)).map fun p => (p.1, p.2 + m)
theorem NumAt.start (d : List UInt8) : NumAt d 0 0 := by
  unfold NumAt
  rw [List.drop_zero]
  cases numV 0 d <;> rfl
theorem numV_dig {acc : Nat} {c : UInt8} {r : List UInt8} (h : isDig c = true) : numV acc (c :: r) = if 9223372036854775808 < 10 * acc + (c.toNat - 48) then none else (numV (10 * acc + (c.toNat - 48)) r).map fun p => (p.1, p.2 + 1) := by
  conv => lhs; unfold numV
  rw [if_pos h]
theorem NumAt.over {d : List UInt8} {acc m : Nat} (h : NumAt d acc m) (hm : m < d.length) (hd : isDig d[m] = true) (ho : 9223372036854775808 < 10 * acc + (d[m].toNat - 48)) : numV 0 d = none := by
  unfold NumAt at h
  rw [h, List.drop_eq_getElem_cons hm, numV_dig hd, if_pos ho]
  rfl
theorem NumAt.next {d : List UInt8} {acc m : Nat} (h : NumAt d acc m) (hm : m < d.length) (hd : isDig d[m] = true) (ho : ¬ 9223372036854775808 < 10 * acc + (d[m].toNat - 48)) : NumAt d (10 * acc + (d[m].toNat - 48)) (m + 1) := by
  unfold NumAt at *
  rw [h, List.drop_eq_getElem_cons hm, numV_dig hd, if_neg ho]
  cases numV (10 * acc + (d[m].toNat - 48)) (d.drop (m + 1)) <;> simp
  omega
theorem NumAt.done {d : List UInt8} {acc m : Nat} (h : NumAt d acc m) (hd : isDig (d.getD m 0) = false) : numV 0 d = some (acc, m) := by
  unfold NumAt at h
  rw [h]
  by_cases hm : m < d.length
  · rw [List.getD_eq_getElem?_getD, List.getElem?_eq_getElem hm] at hd
    rw [List.drop_eq_getElem_cons hm]
    unfold numV
    rw [if_neg (by rw [show isDig d[m] = false from hd]; simp)]
    simp
  · rw [List.drop_eq_nil_of_le (by omega)]
    simp [numV]
def numR (d : List UInt8) : Option Tk := (numV 0 d).bind fun p => if headIs (d.drop p.2) isLet then none else some ⟨2, [], i64Of p.1, p.2⟩
theorem numR_none {d : List UInt8} (h : numV 0 d = none) : numR d = none := by
  unfold numR
  rw [h]
  rfl
theorem head_let (d : List UInt8) (m : Nat) : headIs (d.drop m) isLet = isLet (d.getD m 0) := by
  by_cases hm : m < d.length
  · rw [List.drop_eq_getElem_cons hm, List.getD_eq_getElem?_getD, List.getElem?_eq_getElem hm]
    rfl
  · rw [List.drop_eq_nil_of_le (by omega), List.getD_eq_getElem?_getD, List.getElem?_eq_none (by omega)]
    rfl
theorem numR_let {d : List UInt8} {acc m : Nat} (h : numV 0 d = some (acc, m)) (hl : isLet (d.getD m 0) = true) : numR d = none := by
  unfold numR
  rw [h]
  simp only [Option.bind_some]
  rw [head_let, if_pos hl]
theorem numR_some {d : List UInt8} {acc m : Nat} (h : numV 0 d = some (acc, m)) (hl : isLet (d.getD m 0) = false) : numR d = some ⟨2, [], i64Of acc, m⟩ := by
  unfold numR
  rw [h]
  simp only [Option.bind_some]
  rw [head_let, if_neg (by rw [hl]; decide)]
set_option maxRecDepth 100000 in
set_option maxHeartbeats 4000000 in
theorem rnumber_any (s : ByteArray) (i : Nat) (w : World) (hs : s.size ≤ 4096) (hi : i < s.size) : Calls Tryz.prog 62 #[.string s, .int .i64 i] w fun e w' => (∃ v, e = .returned v ∧ Told (numR (s.data.toList.drop i)) i v) ∧ Below w.heap.size w w' := by
  have HA := Lib.hid (fun k w => at_any s k w)
  have HDg := Lib.hid digit_any
  have HLt := Lib.hid letter_any
  have hdl : (s.data.toList.drop i).length = s.size - i := by rw [List.length_drop, size_list]
  have HDL := Lib.hid hdl
  have HGT : Hid (∀ m (h : i + m < s.size) (h2 : m < (s.data.toList.drop i).length), (s.data.toList.drop i)[m] = s[i + m]) := fun m h _ => drop_get h
  have HBD := Lib.hid (fun k => byteAt_drop s i k)
  clear hdl
  generalize s.data.toList.drop i = D at *
  have bz := zbox w
  have hb0 := (Below.refl w.heap.size w).alloc (Nat.le_refl _) (.cells #[.int .i64 0, .string ⟨#[]⟩, .int .i64 0, .int .i64 0] 51)
  go_enter Tryz.func62, Tryz.ntmps62
  go_wp2_with fail
  generalize w.alloc (.cells #[.int .i64 0, .string ⟨#[]⟩, .int .i64 0, .int .i64 0] 51) = W1 at *
  obtain ⟨c0, c1, c2, c3⟩ := bz.zcells
  obtain ⟨f0, f1, f2, f3⟩ := bz.free
  have HB0 := Lib.hid hb0
  clear bz hb0
  go_loopw [8, 7] (fun iv nv wr => ∃ (k : Nat) (n : Int), i ≤ k ∧ k ≤ s.size ∧ iv = .int .i64 k ∧ nv = .int .u64 n ∧ wr = W1 ∧ 0 ≤ n ∧ n ≤ 9223372036854775808 ∧ Hid (∃ acc : Nat, n = acc ∧ NumAt D acc (k - i))) (fun iv _ _ => s.size - (intOf iv).toNat)
  case atStart => exact ⟨i, 0, Nat.le_refl _, by omega, rfl, rfl, rfl, by omega, by omega, 0, rfl, (by rw [Nat.sub_self]; exact NumAt.start D)⟩
  case round =>
    obtain ⟨k, n, hik, hk, rfl, rfl, rfl, hn0, hn1, HN⟩ := hrel
    obtain ⟨acc, hna, hnum⟩ := HN.out
    have hbd := HBD.out (k - i)
    rw [show i + (k - i) = k by omega] at hbd
    have HA1 := Lib.hid (fun w => HA.out k w)
    by_cases hdig : isDig (byteAt s.data.toList k) = true
    · have hks : k < s.size := by
        rcases Nat.lt_or_ge k s.size with h | h
        · exact h
        · rw [byteAt_ge h] at hdig
          cases hdig
      rw [byteAt_lt hks] at HA1 hdig
      have HD1 := Lib.hid (fun w => HDg.out s[k] w)
      rw [hdig] at HD1
      have hkd : k - i < D.length := by rw [HDL.out]; omega
      have hgk := HGT.out (k - i) (by omega) hkd
      simp only [show i + (k - i) = k by omega] at hgk
      have hr := hdig
      rw [isDig_iff] at hr
      have w1 : IntKind.u8.wrap ((s[k].toNat : Int) - 48) = (s[k].toNat : Int) - 48 := by rw [IntKind.wrap_u8]; omega
      have w2 : IntKind.u64.wrap (9223372036854775808 - ((s[k].toNat : Int) - 48)) = 9223372036854775808 - ((s[k].toNat : Int) - 48) := by rw [IntKind.wrap_u64]; omega
      have w5 : IntKind.u64.wrap ((s[k].toNat : Int) - 48) = (s[k].toNat : Int) - 48 := by rw [IntKind.wrap_u64]; omega
      have w6 : IntKind.u64.wrap ((9223372036854775808 - ((s[k].toNat : Int) - 48)) / 10) = (9223372036854775808 - ((s[k].toNat : Int) - 48)) / 10 := by rw [IntKind.wrap_u64]; omega
      have w7 : (9223372036854775808 - ((s[k].toNat : Int) - 48)).tdiv 10 = (9223372036854775808 - ((s[k].toNat : Int) - 48)) / 10 := Int.tdiv_eq_ediv_of_nonneg (by omega)
      by_cases ho : 9223372036854775808 < 10 * acc + (s[k].toNat - 48)
      · have HT := Lib.hid (told_no (i := i) (numR_none (hnum.over hkd (by rw [hgk]; exact hdig) (by rw [hgk]; exact ho))) zT 0)
        have hgt : (9223372036854775808 - ((s[k].toNat : Int) - 48)) / 10 < n := by omega
        clear hnum hna HN hgk hbd hdig ho hr
        go_wp2_with fail
        refine (HA1.out _).mono ?_
        rintro e w2 ⟨rfl, rfl⟩
        go_wp2_with fail
        refine (HD1.out _).mono ?_
        rintro e w2 ⟨rfl, rfl⟩
        go_wp2_with fail
        exact bodyPost_ret (v := .tuple #[.agg #[.int .i64 0, .string ⟨#[]⟩, .int .i64 0, .int .i64 0], .int .i64 0, .bool false]) (by simp [results, Tryz.results62, go_sem, c0, c1, c2, c3]) rfl ⟨⟨_, rfl, HT.out⟩, Below.set4 HB0.out (Nat.le_refl _) _ _ _ _⟩
      · have HM : Hid (∃ acc : Nat, 10 * n + ((s[k].toNat : Int) - 48) = acc ∧ NumAt D acc (k + 1 - i)) := by
          have := hnum.next hkd (by rw [hgk]; exact hdig) (by rw [hgk]; exact ho)
          rw [hgk] at this
          exact ⟨10 * acc + (s[k].toNat - 48), by omega, by rw [show k + 1 - i = k - i + 1 by omega]; exact this⟩
        have hle : ¬ ((9223372036854775808 - ((s[k].toNat : Int) - 48)) / 10 < n) := by omega
        have hb1 : 0 ≤ 10 * n + ((s[k].toNat : Int) - 48) := by omega
        have hb2 : 10 * n + ((s[k].toNat : Int) - 48) ≤ 9223372036854775808 := by omega
        have w3 : IntKind.u64.wrap (10 * n) = 10 * n := by rw [IntKind.wrap_u64]; omega
        have w4 : IntKind.u64.wrap (10 * n + ((s[k].toNat : Int) - 48)) = 10 * n + ((s[k].toNat : Int) - 48) := by rw [IntKind.wrap_u64]; omega
        clear hnum hna HN hgk hbd hdig ho hr
        go_wp2_with fail
        refine (HA1.out _).mono ?_
        rintro e w2 ⟨rfl, rfl⟩
        go_wp2_with fail
        refine (HD1.out _).mono ?_
        rintro e w2 ⟨rfl, rfl⟩
        go_wp2_with fail
        go_roundw
        case measure => simp [intOf]; omega
        case rel => exact ⟨k + 1, 10 * n + ((s[k].toNat : Int) - 48), by omega, by omega, by go_num, rfl, trivial, hb1, hb2, HM⟩
    · have hdf : isDig (byteAt s.data.toList k) = false := by simpa using hdig
      have hnv := hnum.done (by rw [← hbd]; exact hdf)
      have HD1 := Lib.hid (fun w => HDg.out (byteAt s.data.toList k) w)
      rw [hdf] at HD1
      have HL1 := Lib.hid (fun w => HLt.out (byteAt s.data.toList k) w)
      have hw : IntKind.i64.wrap n = i64Of acc := by rw [hna]; exact wrap_i64 (by omega)
      cases hl : isLet (byteAt s.data.toList k)
      · have HT := told_yes (i := i) (k := k) (numR_some hnv (by rw [← hbd]; exact hl)) (by show k = i + (k - i); omega)
        simp only [show str [] = ⟨#[]⟩ from rfl] at HT
        have HT := Lib.hid HT
        rw [hl] at HL1
        clear hnum hna HN hbd hdig hdf hnv hl
        generalize byteAt s.data.toList k = cc at *
        generalize i64Of acc = v at *
        go_wp2_with fail
        refine (HA1.out _).mono ?_
        rintro e w2 ⟨rfl, rfl⟩
        go_wp2_with fail
        refine (HD1.out _).mono ?_
        rintro e w2 ⟨rfl, rfl⟩
        go_wp2_with fail
        refine (HA1.out _).mono ?_
        rintro e w2 ⟨rfl, rfl⟩
        go_wp2_with fail
        refine (HL1.out _).mono ?_
        rintro e w2 ⟨rfl, rfl⟩
        go_wp2_with fail
        exact bodyPost_ret (v := .tuple #[.agg #[.int .i64 2, .string ⟨#[]⟩, .int .i64 v, .int .i64 i], .int .i64 k, .bool true]) (by simp [results, Tryz.results62, go_sem, c0, c1, c2, c3]) rfl ⟨⟨_, rfl, HT.out⟩, Below.set4 HB0.out (Nat.le_refl _) _ _ _ _⟩
      · have HT := Lib.hid (told_no (i := i) (numR_let hnv (by rw [← hbd]; exact hl)) ⟨2, [], i64Of acc, i⟩ k)
        unfold T.val at HT
        simp only [show str [] = ⟨#[]⟩ from rfl] at HT
        rw [hl] at HL1
        clear hnum hna HN hbd hdig hdf hnv hl
        generalize byteAt s.data.toList k = cc at *
        generalize i64Of acc = v at *
        go_wp2_with fail
        refine (HA1.out _).mono ?_
        rintro e w2 ⟨rfl, rfl⟩
        go_wp2_with fail
        refine (HD1.out _).mono ?_
        rintro e w2 ⟨rfl, rfl⟩
        go_wp2_with fail
        refine (HA1.out _).mono ?_
        rintro e w2 ⟨rfl, rfl⟩
        go_wp2_with fail
        refine (HL1.out _).mono ?_
        rintro e w2 ⟨rfl, rfl⟩
        go_wp2_with fail
        exact bodyPost_ret (v := .tuple #[.agg #[.int .i64 2, .string ⟨#[]⟩, .int .i64 v, .int .i64 i], .int .i64 k, .bool false]) (by simp [results, Tryz.results62, go_sem, c0, c1, c2, c3]) rfl ⟨⟨_, rfl, HT.out⟩, Below.set4 HB0.out (Nat.le_refl _) _ _ _ _⟩
end Go.Proofs.YthohfegnphocbaaGreatDoor
namespace Go.Proofs.YthohfegnphocbaaGreatDoor
open Go.RowKit
def BlbAt (d acc : List UInt8) (m : Nat) : Prop := blbR (d.drop 2) = (blbR (d.drop m)).map fun p => (acc ++ p.1, p.2 + (m - 2))
theorem BlbAt.start (d : List UInt8) : BlbAt d [] 2 := by
  unfold BlbAt
  cases blbR (d.drop 2) <;> rfl
theorem blbR_cons {c : UInt8} {r : List UInt8} (h : c ≠ 39) : blbR (c :: r) = match r with
  | [] => none
  | d :: r' => (hexV c).bind fun h => (hexV d).bind fun g => (blbR r').map fun p => (UInt8.ofNat (16 * h + g) :: p.1, p.2 + 2) := by
  cases r with
  | nil => simp [blbR, h]
  | cons d r' =>
    conv => lhs; unfold blbR
    rw [if_neg h]
theorem BlbAt.done {d acc : List UInt8} {m : Nat} (h : BlbAt d acc m) (h2 : 2 ≤ m) (hm : m < d.length) (hc : d[m] = 39) : blbR (d.drop 2) = some (acc, m - 1) := by
  unfold BlbAt at h
  rw [h, List.drop_eq_getElem_cons hm, hc]
  have : blbR (39 :: d.drop (m + 1)) = some ([], 1) := by
    cases d.drop (m + 1) <;> simp [blbR]
  rw [this]
  simp
  omega
theorem BlbAt.over {d acc : List UInt8} {m : Nat} (h : BlbAt d acc m) (hm : d.length ≤ m) : blbR (d.drop 2) = none := by
  unfold BlbAt at h
  rw [h, List.drop_eq_nil_of_le hm]
  rfl
theorem BlbAt.bad {d acc : List UInt8} {m : Nat} (h : BlbAt d acc m) (hm : m < d.length) (hc : d[m] ≠ 39) (hb : hexV d[m] = none ∨ hexV (d.getD (m + 1) 0) = none) : blbR (d.drop 2) = none := by
  unfold BlbAt at h
  rw [h, List.drop_eq_getElem_cons hm, blbR_cons hc]
  by_cases hm2 : m + 1 < d.length
  · rw [List.drop_eq_getElem_cons hm2]
    rw [List.getD_eq_getElem?_getD, List.getElem?_eq_getElem hm2] at hb
    simp only
    rcases hb with hb | hb
    · rw [hb]
      rfl
    · rw [show hexV d[m + 1] = none from hb]
      cases hexV d[m] <;> rfl
  · rw [List.drop_eq_nil_of_le (by omega)]
    rfl
theorem BlbAt.next {d acc : List UInt8} {m a b : Nat} (h : BlbAt d acc m) (h2 : 2 ≤ m) (hm : m < d.length) (hc : d[m] ≠ 39) (ha : hexV d[m] = some a) (hb : hexV (d.getD (m + 1) 0) = some b) : BlbAt d (acc ++ [UInt8.ofNat (16 * a + b)]) (m + 2) := by
  unfold BlbAt at *
  have hm2 : m + 1 < d.length := by
    rcases Nat.lt_or_ge (m + 1) d.length with h1 | h1
    · exact h1
    · rw [List.getD_eq_getElem?_getD, List.getElem?_eq_none h1] at hb
      cases hb
  rw [List.getD_eq_getElem?_getD, List.getElem?_eq_getElem hm2] at hb
  rw [h, List.drop_eq_getElem_cons hm, blbR_cons hc, List.drop_eq_getElem_cons hm2]
  simp only
  rw [ha, show hexV d[m + 1] = some b from hb]
  simp only [Option.bind_some]
  rw [show m + 1 + 1 = m + 2 from rfl]
  cases blbR (d.drop (m + 2)) <;> simp
  omega
theorem hexI_none {c : UInt8} (h : hexV c = none) : hexI c = -1 := by unfold hexI; rw [h]
theorem hexI_some {c : UInt8} {a : Nat} (h : hexV c = some a) : hexI c = a := by unfold hexI; rw [h]
theorem blobO_yes {l acc : List UInt8} {k : Nat} (h : blbR (l.drop 2) = some (acc, k)) : blobO l = some ⟨4, acc, 0, k + 2⟩ := by
  unfold blobO
  rw [h]
  rfl
theorem blobO_no {l : List UInt8} (h : blbR (l.drop 2) = none) : blobO l = none := by
  unfold blobO
  rw [h]
  rfl
set_option maxRecDepth 100000 in
set_option maxHeartbeats 4000000 in
theorem rblob_any (s : ByteArray) (i : Nat) (w : World) (hs : s.size ≤ 4096) (hi : i + 2 ≤ s.size) : Calls Tryz.prog 58 #[.string s, .int .i64 i] w fun e w' => (∃ v, e = .returned v ∧ Told (blobO (s.data.toList.drop i)) i v) ∧ Below w.heap.size w w' := by
  have HA : Hid (∀ (k : Nat) (w : World), Calls Tryz.prog 57 #[.string s, .int .i64 ((k : Int) + 1)] w fun e w' => e = .returned (.int .u8 (byteAt s.data.toList (k + 1)).toNat) ∧ w' = w) := fun k w => at_any s (k + 1) w
  have HH := Lib.hid hex_any
  have hdl : (s.data.toList.drop i).length = s.size - i := by rw [List.length_drop, size_list]
  have HDL := Lib.hid hdl
  have HGT : Hid (∀ m (h : i + m < s.size) (h2 : m < (s.data.toList.drop i).length), (s.data.toList.drop i)[m] = s[i + m]) := fun m h _ => drop_get h
  have HBD := Lib.hid (fun k => byteAt_drop s i k)
  have HBY := Lib.hid (fun acc k h => blobO_yes (l := s.data.toList.drop i) (acc := acc) (k := k) h)
  have HBN := Lib.hid (fun h => blobO_no (l := s.data.toList.drop i) h)
  have HST := Lib.hid (BlbAt.start (s.data.toList.drop i))
  clear hdl
  generalize s.data.toList.drop i = D at *
  have bz := zbox w
  have hb0 := (Below.refl w.heap.size w).alloc (Nat.le_refl _) (.cells #[.int .i64 0, .string ⟨#[]⟩, .int .i64 0, .int .i64 0] 51)
  go_enter Tryz.func58, Tryz.ntmps58
  go_wp2_with fail
  generalize w.alloc (.cells #[.int .i64 0, .string ⟨#[]⟩, .int .i64 0, .int .i64 0] 51) = W1 at *
  have HB0 := Lib.hid hb0
  have HZ := Lib.hid bz
  clear bz hb0
  go_loopw [8, 7] (fun iv ov wr => ∃ (k : Nat) (x : ByteArray), i + 2 ≤ k ∧ k ≤ s.size + 1 ∧ iv = .int .i64 k ∧ ov = .string x ∧ x.size ≤ k ∧ Hid (Below W1.heap.size W1 wr) ∧ Hid (BlbAt D x.data.toList (k - i))) (fun iv _ _ => s.size + 2 - (intOf iv).toNat)
  case atStart => exact ⟨i + 2, ⟨#[]⟩, Nat.le_refl _, by omega, by simp, rfl, Nat.zero_le _, Below.refl _ _, (by show BlbAt _ _ _; rw [show i + 2 - i = 2 by omega]; exact HST.out)⟩
  case round =>
    obtain ⟨k, x, hik, hk, rfl, rfl, hxz, HB, HT⟩ := hrel
    have bzr := HZ.out.later HB.out
    have hB1 := HB0.out.trans (HB.out.mono HB0.out.size)
    have hwz := HB.out.size
    by_cases hlt : k < s.size
    · have hkd : k - i < D.length := by rw [HDL.out]; omega
      have hgk := HGT.out (k - i) (by omega) hkd
      simp only [show i + (k - i) = k by omega] at hgk
      have hkz : (k : Int) < (s.size : Int) := by omega
      by_cases hq : s[k] = 39
      · have hq1 : (((s[k].toNat : Nat) : Int) == 39) = true := by rw [hq]; rfl
        have HD := told_yes (i := i) (k := k + 1) (HBY.out _ _ (HT.out.done (by omega) hkd (hgk.trans hq))) (by show k + 1 = i + (k - i - 1 + 2); omega)
        rw [Int.natCast_add, list_str] at HD
        have HD := Lib.hid HD
        obtain ⟨c0, c1, c2, c3⟩ := bzr.zcells
        obtain ⟨f0, f1, f2, f3⟩ := bzr.free
        have HB1 := Lib.hid hB1
        clear hq hgk HT bzr HB hB1
        go_wp2_with fail
        exact bodyPost_ret (v := .tuple #[.agg #[.int .i64 4, .string x, .int .i64 0, .int .i64 i], .int .i64 ((k : Int) + 1), .bool true]) (by simp [results, Tryz.results58, go_sem, c0, c1, c2, c3]) rfl ⟨⟨_, rfl, HD.out⟩, Below.set4 HB1.out (Nat.le_refl _) _ _ _ _⟩
      · have hq1 : (((s[k].toNat : Nat) : Int) == 39) = false := by
          rw [beq_eq_false_iff_ne]
          intro h
          exact hq (UInt8.toNat_inj.1 (by show s[k].toNat = 39; omega))
        have hbd := HBD.out (k - i + 1)
        rw [show i + (k - i + 1) = k + 1 by omega] at hbd
        have HA1 := Lib.hid (fun w => HA.out k w)
        have HH1 := Lib.hid (fun w => HH.out s[k] w)
        have HH2 := Lib.hid (fun w => HH.out (byteAt s.data.toList (k + 1)) w)
        by_cases hbad : hexV s[k] = none ∨ hexV (byteAt s.data.toList (k + 1)) = none
        · have HD := Lib.hid (told_no (i := i) (HBN.out (HT.out.bad hkd (by rw [hgk]; exact hq) (by rw [hgk, ← hbd]; exact hbad))) zT 0)
          have hneg : hexI s[k] < 0 ∨ (0 ≤ hexI s[k] ∧ hexI (byteAt s.data.toList (k + 1)) < 0) := by
            cases h1 : hexV s[k] with
            | none => exact Or.inl (by rw [hexI_none h1]; omega)
            | some a =>
              rcases hbad with h2 | h2
              · rw [h1] at h2; cases h2
              · exact Or.inr ⟨by rw [hexI_some h1]; omega, by rw [hexI_none h2]; omega⟩
          obtain ⟨c0, c1, c2, c3⟩ := bzr.zcells
          obtain ⟨f0, f1, f2, f3⟩ := bzr.free
          have HB1 := Lib.hid hB1
          clear hq hgk HT bzr HB hB1 hbad hbd
          generalize hexI s[k] = y1 at *
          generalize hexI (byteAt s.data.toList (k + 1)) = y2 at *
          generalize byteAt s.data.toList (k + 1) = bb at *
          rcases hneg with hneg | ⟨hp, hneg⟩
          all_goals
            go_wp2_with fail
            refine (HH1.out _).mono ?_
            rintro e w2 ⟨rfl, rfl⟩
            go_wp2_with fail
            refine (HA1.out _).mono ?_
            rintro e w2 ⟨rfl, rfl⟩
            go_wp2_with fail
            refine (HH2.out _).mono ?_
            rintro e w2 ⟨rfl, rfl⟩
            go_wp2_with fail
            exact bodyPost_ret (v := .tuple #[.agg #[.int .i64 0, .string ⟨#[]⟩, .int .i64 0, .int .i64 0], .int .i64 0, .bool false]) (by simp [results, Tryz.results58, go_sem, c0, c1, c2, c3]) rfl ⟨⟨_, rfl, HD.out⟩, Below.set4 HB1.out (Nat.le_refl _) _ _ _ _⟩
        · obtain ⟨a, ha⟩ : ∃ a, hexV s[k] = some a := Option.ne_none_iff_exists'.1 (fun h => hbad (Or.inl h))
          obtain ⟨b, hb⟩ : ∃ b, hexV (byteAt s.data.toList (k + 1)) = some b := Option.ne_none_iff_exists'.1 (fun h => hbad (Or.inr h))
          have ha16 := hexV_lt ha
          have hb16 := hexV_lt hb
          have hk2 : k + 1 < s.size := by
            rcases Nat.lt_or_ge (k + 1) s.size with h | h
            · exact h
            · rw [byteAt_ge h] at hb
              cases hb
          have HD := HT.out.next (by omega) hkd (by rw [hgk]; exact hq) (by rw [hgk]; exact ha) (by rw [← hbd]; exact hb)
          have HD2 : Hid (BlbAt D (x ++ str [UInt8.ofNat (16 * a + b)]).data.toList (k + 2 - i)) := by
            show BlbAt _ _ _
            rw [app_list, str_list, show k + 2 - i = k - i + 2 by omega]
            exact HD
          rw [hexI_some ha] at HH1
          rw [hexI_some hb] at HH2
          have hw : IntKind.u8.wrap (16 * (a : Int) + (b : Int)) = 16 * (a : Int) + (b : Int) := by rw [IntKind.wrap_u8]; omega
          have hM := one_str (UInt8.ofNat (16 * a + b)) (16 * (a : Int) + (b : Int)) (by simp; omega) wr
          have hzs : (str [UInt8.ofNat (16 * a + b)]).size = 1 := rfl
          have HBA := Lib.hid (fun o => HB.out.alloc hwz o)
          have hp1 : (0 : Int) ≤ (a : Int) := by omega
          have hp2 : (0 : Int) ≤ (b : Int) := by omega
          clear hq hgk HT HD bzr HB hB1 hbad hbd ha hb
          generalize str [UInt8.ofNat (16 * a + b)] = z at *
          generalize byteAt s.data.toList (k + 1) = bb at *
          have hcat : ¬ (9223372036854775807 < x.size + z.size) := by omega
          go_wp2_with fail
          refine (HH1.out _).mono ?_
          rintro e w2 ⟨rfl, rfl⟩
          go_wp2_with fail
          refine (HA1.out _).mono ?_
          rintro e w2 ⟨rfl, rfl⟩
          go_wp2_with fail
          refine (HH2.out _).mono ?_
          rintro e w2 ⟨rfl, rfl⟩
          go_wp2_with fail
          go_roundw
          case measure => simp [intOf]; omega
          case rel => exact ⟨k + 2, x ++ z, by omega, by omega, by go_num, rfl, by rw [size_app]; omega, HBA.out _, HD2⟩
    · have HD := Lib.hid (told_no (i := i) (HBN.out (HT.out.over (by rw [HDL.out]; omega))) zT 0)
      have hkz : ¬ ((k : Int) < (s.size : Int)) := by omega
      obtain ⟨c0, c1, c2, c3⟩ := bzr.zcells
      obtain ⟨f0, f1, f2, f3⟩ := bzr.free
      have HB1 := Lib.hid hB1
      clear HT bzr HB hB1
      go_wp2_with fail
      exact bodyPost_ret (v := .tuple #[.agg #[.int .i64 0, .string ⟨#[]⟩, .int .i64 0, .int .i64 0], .int .i64 0, .bool false]) (by simp [results, Tryz.results58, go_sem, c0, c1, c2, c3]) rfl ⟨⟨_, rfl, HD.out⟩, Below.set4 HB1.out (Nat.le_refl _) _ _ _ _⟩
end Go.Proofs.YthohfegnphocbaaGreatDoor
namespace Go.Proofs.YthohfegnphocbaaGreatDoor
open Go.RowKit
theorem sig_cell (w : World) (k : Nat) (h : k < signs.length) : (w.alloc (.cells sigV 9)).cell? ⟨w.heap.size, k, none⟩ = some (.string (str signs[k])) := by
  have hn : (w.alloc (.cells sigV 9)).heap[w.heap.size]? = some (.cells sigV 9 (0, 0)) := heap_alloc_new w _
  rw [Lib.cell_of_heap hn]
  exact sigV_get k h
theorem prefix_at (s : ByteArray) (i : Nat) (x : List UInt8) (hi : i ≤ s.size) : x.isPrefixOf (s.data.toList.drop i) = true ↔ i + x.length ≤ s.size ∧ (s.extract i (i + x.length)).data.toList = x := by
  rw [List.isPrefixOf_iff_prefix, List.prefix_iff_eq_take, ext_list, show i + x.length - i = x.length by omega]
  constructor
  · intro h
    have := congrArg List.length h
    rw [List.length_take, List.length_drop, size_list] at this
    exact ⟨by omega, h.symm⟩
  · exact fun h => h.2.symm
theorem signO_yes {l w : List UInt8} (h : sgn l = some w) : signO l = some ⟨5, if w = [33, 61] then [60, 62] else w, 0, w.length⟩ := by
  unfold signO
  rw [h]
  rfl
theorem signO_no {l : List UInt8} (h : sgn l = none) : signO l = none := by
  unfold signO
  rw [h]
  rfl
set_option maxRecDepth 100000 in
set_option maxHeartbeats 4000000 in
theorem rsign_any (s : ByteArray) (i : Nat) (w : World) (hs : s.size ≤ 4096) (hi : i < s.size) : Calls Tryz.prog 64 #[.string s, .int .i64 i] w fun e w' => (∃ v, e = .returned v ∧ Told (signO (s.data.toList.drop i)) i v) ∧ Below w.heap.size w w' := by
  have HPX := Lib.hid (fun x => prefix_at s i x (Nat.le_of_lt hi))
  have HY := Lib.hid (fun w h => signO_yes (l := s.data.toList.drop i) (w := w) h)
  have HN := Lib.hid (fun h => signO_no (l := s.data.toList.drop i) h)
  generalize s.data.toList.drop i = D at *
  have bz := zbox w
  have hb0 := (Below.refl w.heap.size w).alloc (Nat.le_refl _) (.cells #[.int .i64 0, .string ⟨#[]⟩, .int .i64 0, .int .i64 0] 51)
  have hz0 : (w.alloc (.cells #[.int .i64 0, .string ⟨#[]⟩, .int .i64 0, .int .i64 0] 51)).heap.size = w.heap.size + 1 := by simp
  obtain ⟨W1, hW1⟩ : ∃ W1, W1 = w.alloc (.cells #[.int .i64 0, .string ⟨#[]⟩, .int .i64 0, .int .i64 0] 51) := ⟨_, rfl⟩
  rw [← hW1] at bz hb0 hz0
  have HG := Lib.hid (sig_cell W1)
  have hb1 := (Below.refl W1.heap.size W1).alloc (Nat.le_refl _) (.cells sigV 9)
  obtain ⟨W2, hW2⟩ : ∃ W2, W2 = W1.alloc (.cells sigV 9) := ⟨_, rfl⟩
  rw [← hW2] at HG hb1
  unfold sigV at hW2
  have HZ := Lib.hid (bz.later hb1)
  have HB := Lib.hid (hb0.trans (hb1.mono hb0.size))
  have hz2 := hb1.size
  rw [hz0] at HG
  have HW1 := Lib.hid hW1
  have HW2 := Lib.hid hW2
  clear bz hb0 hb1 hW1 hW2
  go_enter Tryz.func64, Tryz.ntmps64
  go_wp2_with (first | (rw [← HW2.out]) | (rw [← HW1.out]))
  go_loopw [12] (fun iv wr => ∃ k : Nat, k ≤ 18 ∧ iv = .int .i64 k ∧ wr = W2 ∧ Hid (NoneYet D k)) (fun iv _ => 18 - (intOf iv).toNat)
  case atStart => exact ⟨0, by omega, rfl, rfl, fun i h hi => by omega⟩
  case round =>
    obtain ⟨k, hk, rfl, rfl, HK⟩ := hrel
    by_cases hlt : k < 18
    · have hk18 : k < signs.length := hlt
      have hc := HG.out k hk18
      have HF := Lib.hid (fun hp => HY.out _ (HK.out.found hk18 hp))
      have HX := Lib.hid (HK.out.next hk18)
      have HP := Lib.hid (HPX.out signs[k])
      have hsl := signs_len (List.getElem_mem hk18)
      generalize signs[k] = x at *
      have hxs := str_size x
      have HXE : Hid ((str x).data.toList = x) := str_list x
      rw [← hxs] at HF HP hsl
      clear HK
      by_cases hle : i + (str x).size ≤ s.size
      · have hlez : (i : Int) + ((str x).size : Int) ≤ (s.size : Int) := by omega
        have HEQ : Hid (((s.extract i (i + (str x).size)).toList == (str x).toList) = true ↔ x.isPrefixOf D = true) := by
          show _ ↔ _
          rw [beq_iff_eq, Lib.toList_data, Lib.toList_data, HXE.out, HP.out]
          exact ⟨fun h => ⟨hle, h⟩, fun h => h.2⟩
        cases he : ((s.extract i (i + (str x).size)).toList == (str x).toList)
        · have HX2 := Lib.hid (HX.out (by rw [← Bool.not_eq_true, ← HEQ.out, he]; decide))
          clear HEQ HP HX HF hxs HXE
          generalize str x = y at *
          go_wp2_with fail
          go_roundw
          case measure => simp [intOf]; omega
          case rel => exact ⟨k + 1, by omega, by go_num, trivial, HX2⟩
        · have hT := told_yes (i := i) (k := i + (str x).size) (HF.out (HEQ.out.1 he)) rfl
          rw [Int.natCast_add] at hT
          by_cases hb : x = [33, 61]
          · subst hb
            simp only [if_pos trivial, show str [33, 61] = ⟨#[33, 61]⟩ from rfl, show str [60, 62] = ⟨#[60, 62]⟩ from rfl, show (⟨#[33, 61]⟩ : ByteArray).size = 2 from rfl] at *
            have HT := Lib.hid hT
            obtain ⟨V2, V3, V4, hV2, hV3, -, ⟨x0, x1, x2, x3⟩, ⟨g0, g1, g2, g3⟩, ⟨y0, y1, y2, y3⟩, -, -, -, hzv⟩ := moved wr ⟨5, [33, 61], 0, i⟩ 0
            simp only [show str [33, 61] = ⟨#[33, 61]⟩ from rfl] at hV3 y1
            have bV3 : Below wr.heap.size wr V3 := by
              rw [hV3, hV2]
              exact Below.set4 ((Below.refl wr.heap.size wr).alloc (Nat.le_refl _) _) (Nat.le_refl _) _ _ _ _
            have yf : V3.frozen? ⟨wr.heap.size, 1, none⟩ = false := by
              rw [hV3, World.frozen?_setCell, World.frozen?_setCell, World.frozen?_setCell, World.frozen?_setCell]
              exact g1
            obtain ⟨V5, hV5⟩ : ∃ V5, V5 = V3.setCell ⟨wr.heap.size, 1, none⟩ (.string ⟨#[60, 62]⟩) := ⟨_, rfl⟩
            have bV5 : Below wr.heap.size wr V5 := by rw [hV5]; exact bV3.setCell (Nat.le_refl _) _
            have o4 := fun (j : Nat) (h : j ≠ 1) => World.cell?_setCell_other V3 ⟨wr.heap.size, 1, none⟩ ⟨wr.heap.size, j, none⟩ (.string ⟨#[60, 62]⟩) (by simp <;> omega)
            have q0 : V5.cell? ⟨wr.heap.size, 0, none⟩ = some (.int .i64 5) := by rw [hV5]; exact (o4 0 (by omega)).trans y0
            have q1 : V5.cell? ⟨wr.heap.size, 1, none⟩ = some (.string ⟨#[60, 62]⟩) := by rw [hV5]; exact World.cell?_setCell_same _ _ _ y1
            have q2 : V5.cell? ⟨wr.heap.size, 2, none⟩ = some (.int .i64 0) := by rw [hV5]; exact (o4 2 (by omega)).trans y2
            have q3 : V5.cell? ⟨wr.heap.size, 3, none⟩ = some (.int .i64 i) := by rw [hV5]; exact (o4 3 (by omega)).trans y3
            have bzr := HZ.out.later bV5
            obtain ⟨c0, c1, c2, c3⟩ := bzr.zcells
            obtain ⟨f0, f1, f2, f3⟩ := bzr.free
            have HB5 := Lib.hid (HB.out.trans (bV5.mono HB.out.size))
            have HV2 := Lib.hid hV2
            have HV3 := Lib.hid hV3
            have HV5 := Lib.hid hV5
            have he2 : ((s.extract i (i + 2)).toList == [33, 61]) = true := by
              have h := he
              rw [show (⟨#[33, 61]⟩ : ByteArray).toList = [33, 61] by rw [Lib.toList_data]] at h
              exact h
            clear hT HEQ HP HX HF hV2 hV3 hV5 bV3 bV5 o4 bzr HXE hxs he
            go_wp2_with (first | (rw [← HV5.out]) | (rw [← HV3.out]) | (rw [← HV2.out]))
            exact bodyPost_ret (v := .tuple #[.agg #[.int .i64 5, .string ⟨#[60, 62]⟩, .int .i64 0, .int .i64 i], .int .i64 ((i : Int) + 2), .bool true]) (by simp [results, Tryz.results64, go_sem, c0, c1, c2, c3]) rfl ⟨⟨_, rfl, HT.out⟩, Below.set4 HB5.out (Nat.le_refl _) _ _ _ _⟩
          · rw [if_neg hb] at hT
            have HT := Lib.hid hT
            have hne : ((str x).toList == [33, 61]) = false := by
              rw [Lib.toList_data, str_list, beq_eq_false_iff_ne]
              exact hb
            obtain ⟨V2, V3, V4, hV2, hV3, -, ⟨x0, x1, x2, x3⟩, ⟨g0, g1, g2, g3⟩, ⟨y0, y1, y2, y3⟩, -, -, -, hzv⟩ := moved wr ⟨5, x, 0, i⟩ 0
            simp only at hV3 y0 y1 y2 y3
            have bV3 : Below wr.heap.size wr V3 := by
              rw [hV3, hV2]
              exact Below.set4 ((Below.refl wr.heap.size wr).alloc (Nat.le_refl _) _) (Nat.le_refl _) _ _ _ _
            have bzr := HZ.out.later bV3
            obtain ⟨c0, c1, c2, c3⟩ := bzr.zcells
            obtain ⟨f0, f1, f2, f3⟩ := bzr.free
            have HB5 := Lib.hid (HB.out.trans (bV3.mono HB.out.size))
            have HV2 := Lib.hid hV2
            have HV3 := Lib.hid hV3
            clear hT HEQ HP HX HF hV2 hV3 bV3 bzr HXE hxs hb
            generalize str x = y at *
            go_wp2_with (first | (rw [← HV3.out]) | (rw [← HV2.out]))
            exact bodyPost_ret (v := .tuple #[.agg #[.int .i64 5, .string y, .int .i64 0, .int .i64 i], .int .i64 ((i : Int) + (y.size : Int)), .bool true]) (by simp [results, Tryz.results64, go_sem, c0, c1, c2, c3]) rfl ⟨⟨_, rfl, HT.out⟩, Below.set4 HB5.out (Nat.le_refl _) _ _ _ _⟩
      · have hlez : ¬ ((i : Int) + ((str x).size : Int) ≤ (s.size : Int)) := by omega
        have HX2 := Lib.hid (HX.out (by rw [← Bool.not_eq_true, HP.out]; exact fun h => hle h.1))
        clear HP HX HF hxs HXE
        generalize str x = y at *
        go_wp2_with fail
        go_roundw
        case measure => simp [intOf]; omega
        case rel => exact ⟨k + 1, by omega, by go_num, trivial, HX2⟩
    · have hkn : k = 18 := by omega
      subst hkn
      have HT := Lib.hid (told_no (i := i) (HN.out HK.out.none) zT 0)
      obtain ⟨c0, c1, c2, c3⟩ := HZ.out.zcells
      obtain ⟨f0, f1, f2, f3⟩ := HZ.out.free
      go_wp2_with fail
      exact bodyPost_ret (v := .tuple #[.agg #[.int .i64 0, .string ⟨#[]⟩, .int .i64 0, .int .i64 0], .int .i64 0, .bool false]) (by simp [results, Tryz.results64, go_sem, c0, c1, c2, c3]) rfl ⟨⟨_, rfl, HT.out⟩, Below.set4 HB.out (Nat.le_refl _) _ _ _ _⟩
end Go.Proofs.YthohfegnphocbaaGreatDoor
