/- Contracts of the reference's text and number. Condition: no text longer than 4096. -/
import Derived.Test.YtjnecobamobieaaDoorTokRef3
namespace Go.Proofs.YtjnecobamobieaaDoor
open Go.RowKit
theorem ext_one {s : ByteArray} {k : Nat} (hk : k < s.size) : (s.extract k (k + 1)).data.toList = [s[k]] := by
  rw [ext_list, drop_cons hk, show k + 1 - k = 1 by omega]
  rfl
theorem drop_get {s : ByteArray} {i m : Nat} (h : i + m < s.size) : (s.data.toList.drop i)[m]'(by rw [List.length_drop, size_list]; omega) = s[i + m] := by
  rw [List.getElem_drop]
  exact list_get h
theorem textO_some {l acc : List UInt8} {k : Nat} (h : txtR (l.drop 1) = some (acc, k)) : textO l = some ⟨3, acc, 0, k + 1⟩ := by
  unfold textO
  rw [h]
  rfl
theorem textO_no {l : List UInt8} (h : txtR (l.drop 1) = none) : textO l = none := by
  unfold textO
  rw [h]
  rfl
set_option maxRecDepth 100000 in
set_option maxHeartbeats 4000000 in
theorem rtext_any (s : ByteArray) (i : Nat) (w : World) (hs : s.size ≤ 4096) (hi : i < s.size) : Calls Tryd.prog 43 #[.string s, .int .i64 i] w fun e w' => (∃ v, e = .returned v ∧ Told (textO (s.data.toList.drop i)) i v) ∧ Below w.heap.size w w' := by
  have HA : Hid (∀ (k : Nat) (w : World), Calls Tryd.prog 39 #[.string s, .int .i64 ((k : Int) + 1)] w fun e w' => e = .returned (.int .u8 (byteAt s.data.toList (k + 1)).toNat) ∧ w' = w) := fun k w => at_any s (k + 1) w
  have hdl : (s.data.toList.drop i).length = s.size - i := by rw [List.length_drop, size_list]
  have HDL := Lib.hid hdl
  have HGT : Hid (∀ m (h : i + m < s.size) (h2 : m < (s.data.toList.drop i).length), (s.data.toList.drop i)[m] = s[i + m]) := fun m h _ => drop_get h
  have HTS := Lib.hid (fun acc k h => textO_some (l := s.data.toList.drop i) (acc := acc) (k := k) h)
  have HTN := Lib.hid (fun h => textO_no (l := s.data.toList.drop i) h)
  have HST := Lib.hid (TxtAt.start (s.data.toList.drop i))
  clear hdl
  generalize s.data.toList.drop i = D at *
  have bz := zbox w
  have hb0 := (Below.refl w.heap.size w).alloc (Nat.le_refl _) (.cells #[.int .i64 0, .string ⟨#[]⟩, .int .i64 0, .int .i64 0] 30)
  go_enter Tryd.func43, Tryd.ntmps43
  go_wp2_with fail
  generalize w.alloc (.cells #[.int .i64 0, .string ⟨#[]⟩, .int .i64 0, .int .i64 0] 30) = W1 at *
  obtain ⟨c0, c1, c2, c3⟩ := bz.zcells
  obtain ⟨f0, f1, f2, f3⟩ := bz.free
  have HB0 := Lib.hid hb0
  clear bz hb0
  go_loopw [8, 7] (fun iv ov wr => ∃ (k : Nat) (x : ByteArray), i + 1 ≤ k ∧ k ≤ s.size + 1 ∧ iv = .int .i64 k ∧ ov = .string x ∧ x.size ≤ k ∧ wr = W1 ∧ Hid (TxtAt D x.data.toList (k - i))) (fun iv _ _ => s.size + 1 - (intOf iv).toNat)
  case atStart => exact ⟨i + 1, ⟨#[]⟩, Nat.le_refl _, by omega, by simp, rfl, Nat.zero_le _, rfl, (by show TxtAt _ _ _; rw [show i + 1 - i = 1 by omega]; exact HST.out)⟩
  case round =>
    obtain ⟨k, x, hik, hk, rfl, rfl, hxz, rfl, HT⟩ := hrel
    by_cases hlt : k < s.size
    · have hkd : k - i < D.length := by rw [HDL.out]; omega
      have hgk := HGT.out (k - i) (by omega) hkd
      simp only [show i + (k - i) = k by omega] at hgk
      have hkz : (k : Int) < (s.size : Int) := by omega
      by_cases hq : s[k] = 39
      · have hq1 : (((s[k].toNat : Nat) : Int) != 39) = false := by rw [hq]; rfl
        have HA1 := Lib.hid (fun w => HA.out k w)
        by_cases hq2 : byteAt s.data.toList (k + 1) = 39
        · have hk2 : k + 1 < s.size := by
            rcases Nat.lt_or_ge (k + 1) s.size with h | h
            · exact h
            · rw [byteAt_ge h] at hq2
              cases hq2
          have hgk2 := HGT.out (k - i + 1) (by omega) (by rw [HDL.out]; omega)
          simp only [show i + (k - i + 1) = k + 1 by omega] at hgk2
          have HD := HT.out.two (by omega) (by rw [HDL.out]; omega) (hgk.trans hq) (hgk2.trans (by rw [← byteAt_lt hk2]; exact hq2))
          have HD2 : Hid (TxtAt D (x ++ ⟨#[39]⟩).data.toList (k + 2 - i)) := by
            show TxtAt _ _ _
            rw [app_list, show k + 2 - i = k - i + 2 by omega]
            exact HD
          rw [hq2, show ((39 : UInt8).toNat : Int) = 39 from rfl] at HA1
          have hcat : ¬ (9223372036854775807 < x.size + 1) := by omega
          clear hq hq2 HD hgk hgk2 HT
          go_wp2_with fail
          refine (HA1.out _).mono ?_
          rintro e w2 ⟨rfl, rfl⟩
          go_wp2_with fail
          go_roundw
          case measure => simp [intOf]; omega
          case rel => exact ⟨k + 2, x ++ ⟨#[39]⟩, by omega, by omega, by go_num, rfl, by rw [size_app, show (⟨#[39]⟩ : ByteArray).size = 1 from rfl]; omega, trivial, HD2⟩
        · have hq3 : (((byteAt s.data.toList (k + 1)).toNat : Int) != 39) = true := by
            rw [bne_iff_ne]
            intro h
            exact hq2 (UInt8.toNat_inj.1 (by show (byteAt s.data.toList (k + 1)).toNat = 39; omega))
          have HD := Lib.hid (told_yes (i := i) (k := k + 1) (HTS.out _ _ (HT.out.done (by omega) hkd (hgk.trans hq) (fun h => by
            rw [HDL.out] at h
            have hk2 : k + 1 < s.size := by omega
            have hgk2 := HGT.out (k - i + 1) (by omega) (by rw [HDL.out]; omega)
            simp only [show i + (k - i + 1) = k + 1 by omega] at hgk2
            rw [hgk2, ← byteAt_lt hk2]
            exact hq2))) (by show k + 1 = i + (k - i + 1); omega))
          rw [Int.natCast_add, list_str] at HD
          clear hq hq2 hgk HT
          generalize byteAt s.data.toList (k + 1) = bb at *
          go_wp2_with fail
          refine (HA1.out _).mono ?_
          rintro e w2 ⟨rfl, rfl⟩
          go_wp2_with fail
          exact bodyPost_ret (v := .tuple #[.agg #[.int .i64 3, .string x, .int .i64 0, .int .i64 i], .int .i64 ((k : Int) + 1), .bool true]) (by simp [results, Tryd.results43, go_sem, c0, c1, c2, c3]) rfl ⟨⟨_, rfl, HD.out⟩, Below.set4 HB0.out (Nat.le_refl _) _ _ _ _⟩
      · have hq1 : (((s[k].toNat : Nat) : Int) != 39) = true := by
          rw [bne_iff_ne]
          intro h
          exact hq (UInt8.toNat_inj.1 (by show s[k].toNat = 39; omega))
        have HD := HT.out.other (by omega) hkd (by rw [hgk]; exact hq)
        rw [hgk] at HD
        have HD2 : Hid (TxtAt D (x ++ s.extract k (k + 1)).data.toList (k + 1 - i)) := by
          show TxtAt _ _ _
          rw [app_list, ext_one hlt, show k + 1 - i = k - i + 1 by omega]
          exact HD
        have hes : (s.extract k (k + 1)).size = 1 := by rw [← size_list, ext_one hlt]; rfl
        have hcat : ¬ (9223372036854775807 < x.size + (s.extract k (k + 1)).size) := by omega
        have HES := Lib.hid hes
        clear hq HD hgk HT hes
        go_wp2_with fail
        go_roundw
        case measure => simp [intOf]; omega
        case rel => exact ⟨k + 1, x ++ s.extract k (k + 1), by omega, by omega, by go_num, rfl, by rw [size_app, HES.out]; omega, trivial, HD2⟩
    · have HD := Lib.hid (told_no (i := i) (HTN.out (HT.out.none (by rw [HDL.out]; omega))) zT 0)
      have hkz : ¬ ((k : Int) < (s.size : Int)) := by omega
      clear HT
      go_wp2_with fail
      exact bodyPost_ret (v := .tuple #[.agg #[.int .i64 0, .string ⟨#[]⟩, .int .i64 0, .int .i64 0], .int .i64 0, .bool false]) (by simp [results, Tryd.results43, go_sem, c0, c1, c2, c3]) rfl ⟨⟨_, rfl, HD.out⟩, Below.set4 HB0.out (Nat.le_refl _) _ _ _ _⟩
end Go.Proofs.YtjnecobamobieaaDoor
