/- The law TokenTexts, walked: it answers true whatever the bytes are. Condition: the listed variables hold what they hold. -/
import Derived.Test.YtjnecobamobieaaDoorTokBlanks
namespace Go.Proofs.YtjnecobamobieaaDoor
open Go.RowKit
theorem quo_snoc (l : List UInt8) (c : UInt8) : quo (l ++ [c]) = quo l ++ if c = 39 then [39, 39] else [c] := by
  unfold quo
  rw [List.flatMap_append]
  simp
theorem hexL_snoc (l : List UInt8) (c : UInt8) : hexL (l ++ [c]) = hexL l ++ [digB (c.toNat / 16), digS (c.toNat % 16)] := by
  unfold hexL
  rw [List.flatMap_append]
  simp
theorem dB0 (w : World) : (Instr.index 9 (.string ⟨#[48, 49, 50, 51, 52, 53, 54, 55, 56, 57, 65, 66, 67, 68, 69, 70]⟩) (.int .u8 0)).run Tryd.prog w = .ok (.int .u8 48) w := by kernel_rfl
theorem dB1 (w : World) : (Instr.index 9 (.string ⟨#[48, 49, 50, 51, 52, 53, 54, 55, 56, 57, 65, 66, 67, 68, 69, 70]⟩) (.int .u8 1)).run Tryd.prog w = .ok (.int .u8 49) w := by kernel_rfl
theorem dB2 (w : World) : (Instr.index 9 (.string ⟨#[48, 49, 50, 51, 52, 53, 54, 55, 56, 57, 65, 66, 67, 68, 69, 70]⟩) (.int .u8 2)).run Tryd.prog w = .ok (.int .u8 50) w := by kernel_rfl
theorem dB3 (w : World) : (Instr.index 9 (.string ⟨#[48, 49, 50, 51, 52, 53, 54, 55, 56, 57, 65, 66, 67, 68, 69, 70]⟩) (.int .u8 3)).run Tryd.prog w = .ok (.int .u8 51) w := by kernel_rfl
theorem dB4 (w : World) : (Instr.index 9 (.string ⟨#[48, 49, 50, 51, 52, 53, 54, 55, 56, 57, 65, 66, 67, 68, 69, 70]⟩) (.int .u8 4)).run Tryd.prog w = .ok (.int .u8 52) w := by kernel_rfl
theorem dB5 (w : World) : (Instr.index 9 (.string ⟨#[48, 49, 50, 51, 52, 53, 54, 55, 56, 57, 65, 66, 67, 68, 69, 70]⟩) (.int .u8 5)).run Tryd.prog w = .ok (.int .u8 53) w := by kernel_rfl
theorem dB6 (w : World) : (Instr.index 9 (.string ⟨#[48, 49, 50, 51, 52, 53, 54, 55, 56, 57, 65, 66, 67, 68, 69, 70]⟩) (.int .u8 6)).run Tryd.prog w = .ok (.int .u8 54) w := by kernel_rfl
theorem dB7 (w : World) : (Instr.index 9 (.string ⟨#[48, 49, 50, 51, 52, 53, 54, 55, 56, 57, 65, 66, 67, 68, 69, 70]⟩) (.int .u8 7)).run Tryd.prog w = .ok (.int .u8 55) w := by kernel_rfl
theorem dB8 (w : World) : (Instr.index 9 (.string ⟨#[48, 49, 50, 51, 52, 53, 54, 55, 56, 57, 65, 66, 67, 68, 69, 70]⟩) (.int .u8 8)).run Tryd.prog w = .ok (.int .u8 56) w := by kernel_rfl
theorem dB9 (w : World) : (Instr.index 9 (.string ⟨#[48, 49, 50, 51, 52, 53, 54, 55, 56, 57, 65, 66, 67, 68, 69, 70]⟩) (.int .u8 9)).run Tryd.prog w = .ok (.int .u8 57) w := by kernel_rfl
theorem dB10 (w : World) : (Instr.index 9 (.string ⟨#[48, 49, 50, 51, 52, 53, 54, 55, 56, 57, 65, 66, 67, 68, 69, 70]⟩) (.int .u8 10)).run Tryd.prog w = .ok (.int .u8 65) w := by kernel_rfl
theorem dB11 (w : World) : (Instr.index 9 (.string ⟨#[48, 49, 50, 51, 52, 53, 54, 55, 56, 57, 65, 66, 67, 68, 69, 70]⟩) (.int .u8 11)).run Tryd.prog w = .ok (.int .u8 66) w := by kernel_rfl
theorem dB12 (w : World) : (Instr.index 9 (.string ⟨#[48, 49, 50, 51, 52, 53, 54, 55, 56, 57, 65, 66, 67, 68, 69, 70]⟩) (.int .u8 12)).run Tryd.prog w = .ok (.int .u8 67) w := by kernel_rfl
theorem dB13 (w : World) : (Instr.index 9 (.string ⟨#[48, 49, 50, 51, 52, 53, 54, 55, 56, 57, 65, 66, 67, 68, 69, 70]⟩) (.int .u8 13)).run Tryd.prog w = .ok (.int .u8 68) w := by kernel_rfl
theorem dB14 (w : World) : (Instr.index 9 (.string ⟨#[48, 49, 50, 51, 52, 53, 54, 55, 56, 57, 65, 66, 67, 68, 69, 70]⟩) (.int .u8 14)).run Tryd.prog w = .ok (.int .u8 69) w := by kernel_rfl
theorem dB15 (w : World) : (Instr.index 9 (.string ⟨#[48, 49, 50, 51, 52, 53, 54, 55, 56, 57, 65, 66, 67, 68, 69, 70]⟩) (.int .u8 15)).run Tryd.prog w = .ok (.int .u8 70) w := by kernel_rfl
set_option maxRecDepth 100000 in
theorem dB_index (w : World) (a : Nat) (h : a < 16) : (Instr.index 9 (.string ⟨#[48, 49, 50, 51, 52, 53, 54, 55, 56, 57, 65, 66, 67, 68, 69, 70]⟩) (.int .u8 a)).run Tryd.prog w = .ok (.int .u8 (digB a).toNat) w := by
  match a, h with
  | 0, _ => exact dB0 w
  | 1, _ => exact dB1 w
  | 2, _ => exact dB2 w
  | 3, _ => exact dB3 w
  | 4, _ => exact dB4 w
  | 5, _ => exact dB5 w
  | 6, _ => exact dB6 w
  | 7, _ => exact dB7 w
  | 8, _ => exact dB8 w
  | 9, _ => exact dB9 w
  | 10, _ => exact dB10 w
  | 11, _ => exact dB11 w
  | 12, _ => exact dB12 w
  | 13, _ => exact dB13 w
  | 14, _ => exact dB14 w
  | 15, _ => exact dB15 w
  | a + 16, h => exact absurd h (by omega)
theorem dS0 (w : World) : (Instr.index 9 (.string ⟨#[48, 49, 50, 51, 52, 53, 54, 55, 56, 57, 97, 98, 99, 100, 101, 102]⟩) (.int .u8 0)).run Tryd.prog w = .ok (.int .u8 48) w := by kernel_rfl
theorem dS1 (w : World) : (Instr.index 9 (.string ⟨#[48, 49, 50, 51, 52, 53, 54, 55, 56, 57, 97, 98, 99, 100, 101, 102]⟩) (.int .u8 1)).run Tryd.prog w = .ok (.int .u8 49) w := by kernel_rfl
theorem dS2 (w : World) : (Instr.index 9 (.string ⟨#[48, 49, 50, 51, 52, 53, 54, 55, 56, 57, 97, 98, 99, 100, 101, 102]⟩) (.int .u8 2)).run Tryd.prog w = .ok (.int .u8 50) w := by kernel_rfl
theorem dS3 (w : World) : (Instr.index 9 (.string ⟨#[48, 49, 50, 51, 52, 53, 54, 55, 56, 57, 97, 98, 99, 100, 101, 102]⟩) (.int .u8 3)).run Tryd.prog w = .ok (.int .u8 51) w := by kernel_rfl
theorem dS4 (w : World) : (Instr.index 9 (.string ⟨#[48, 49, 50, 51, 52, 53, 54, 55, 56, 57, 97, 98, 99, 100, 101, 102]⟩) (.int .u8 4)).run Tryd.prog w = .ok (.int .u8 52) w := by kernel_rfl
theorem dS5 (w : World) : (Instr.index 9 (.string ⟨#[48, 49, 50, 51, 52, 53, 54, 55, 56, 57, 97, 98, 99, 100, 101, 102]⟩) (.int .u8 5)).run Tryd.prog w = .ok (.int .u8 53) w := by kernel_rfl
theorem dS6 (w : World) : (Instr.index 9 (.string ⟨#[48, 49, 50, 51, 52, 53, 54, 55, 56, 57, 97, 98, 99, 100, 101, 102]⟩) (.int .u8 6)).run Tryd.prog w = .ok (.int .u8 54) w := by kernel_rfl
theorem dS7 (w : World) : (Instr.index 9 (.string ⟨#[48, 49, 50, 51, 52, 53, 54, 55, 56, 57, 97, 98, 99, 100, 101, 102]⟩) (.int .u8 7)).run Tryd.prog w = .ok (.int .u8 55) w := by kernel_rfl
theorem dS8 (w : World) : (Instr.index 9 (.string ⟨#[48, 49, 50, 51, 52, 53, 54, 55, 56, 57, 97, 98, 99, 100, 101, 102]⟩) (.int .u8 8)).run Tryd.prog w = .ok (.int .u8 56) w := by kernel_rfl
theorem dS9 (w : World) : (Instr.index 9 (.string ⟨#[48, 49, 50, 51, 52, 53, 54, 55, 56, 57, 97, 98, 99, 100, 101, 102]⟩) (.int .u8 9)).run Tryd.prog w = .ok (.int .u8 57) w := by kernel_rfl
theorem dS10 (w : World) : (Instr.index 9 (.string ⟨#[48, 49, 50, 51, 52, 53, 54, 55, 56, 57, 97, 98, 99, 100, 101, 102]⟩) (.int .u8 10)).run Tryd.prog w = .ok (.int .u8 97) w := by kernel_rfl
theorem dS11 (w : World) : (Instr.index 9 (.string ⟨#[48, 49, 50, 51, 52, 53, 54, 55, 56, 57, 97, 98, 99, 100, 101, 102]⟩) (.int .u8 11)).run Tryd.prog w = .ok (.int .u8 98) w := by kernel_rfl
theorem dS12 (w : World) : (Instr.index 9 (.string ⟨#[48, 49, 50, 51, 52, 53, 54, 55, 56, 57, 97, 98, 99, 100, 101, 102]⟩) (.int .u8 12)).run Tryd.prog w = .ok (.int .u8 99) w := by kernel_rfl
theorem dS13 (w : World) : (Instr.index 9 (.string ⟨#[48, 49, 50, 51, 52, 53, 54, 55, 56, 57, 97, 98, 99, 100, 101, 102]⟩) (.int .u8 13)).run Tryd.prog w = .ok (.int .u8 100) w := by kernel_rfl
theorem dS14 (w : World) : (Instr.index 9 (.string ⟨#[48, 49, 50, 51, 52, 53, 54, 55, 56, 57, 97, 98, 99, 100, 101, 102]⟩) (.int .u8 14)).run Tryd.prog w = .ok (.int .u8 101) w := by kernel_rfl
theorem dS15 (w : World) : (Instr.index 9 (.string ⟨#[48, 49, 50, 51, 52, 53, 54, 55, 56, 57, 97, 98, 99, 100, 101, 102]⟩) (.int .u8 15)).run Tryd.prog w = .ok (.int .u8 102) w := by kernel_rfl
set_option maxRecDepth 100000 in
theorem dS_index (w : World) (a : Nat) (h : a < 16) : (Instr.index 9 (.string ⟨#[48, 49, 50, 51, 52, 53, 54, 55, 56, 57, 97, 98, 99, 100, 101, 102]⟩) (.int .u8 a)).run Tryd.prog w = .ok (.int .u8 (digS a).toNat) w := by
  match a, h with
  | 0, _ => exact dS0 w
  | 1, _ => exact dS1 w
  | 2, _ => exact dS2 w
  | 3, _ => exact dS3 w
  | 4, _ => exact dS4 w
  | 5, _ => exact dS5 w
  | 6, _ => exact dS6 w
  | 7, _ => exact dS7 w
  | 8, _ => exact dS8 w
  | 9, _ => exact dS9 w
  | 10, _ => exact dS10 w
  | 11, _ => exact dS11 w
  | 12, _ => exact dS12 w
  | 13, _ => exact dS13 w
  | 14, _ => exact dS14 w
  | 15, _ => exact dS15 w
  | a + 16, h => exact absurd h (by omega)
set_option maxRecDepth 100000 in
theorem made_str (x y : UInt8) (w : World) : (convert 34 9 (.slice (some ⟨w.heap.size, 0, none⟩) 2 2)).run Tryd.prog (w.alloc (.cells #[.int .u8 x.toNat, .int .u8 y.toNat] 5)).drew = .ok (.string (str [x, y])) (w.alloc (.cells #[.int .u8 x.toNat, .int .u8 y.toNat] 5)).drew :=
  conv_at (c := 2) ((laid_at w [x, y] _ 5 rfl).later ((Below.refl _ _).drew))
set_option maxRecDepth 100000 in
set_option maxHeartbeats 4000000 in
theorem texts_core (s : ByteArray) (w : World) (hE : Env w) : Calls Tryd.prog 8 #[.string s] w fun e w' => e = .returned (.bool true) ∧ Below w.heap.size w w' := by
  have HE := Lib.hid hE
  have HL := Lib.hid live_any
  clear hE
  by_cases hs : 900 < s.size
  · have hsz : (900 : Int) < (s.size : Int) := by omega
    go_enter Tryd.func8, Tryd.ntmps8
    go_wp2_with fail
    refine (HL.out _ HE.out).mono ?_
    rintro e w1 ⟨rfl, b1⟩
    go_wp2_with fail
    go_ret
    exact ⟨rfl, b1⟩
  · have hsz : ¬ ((900 : Int) < (s.size : Int)) := by omega
    have HC := Lib.hid cut_any
    have HT := Lib.hid (cut_texts s.data.toList)
    go_enter Tryd.func8, Tryd.ntmps8
    go_wp2_with fail
    refine (HL.out _ HE.out).mono ?_
    rintro e w1 ⟨rfl, b1⟩
    go_wp2_with fail
    go_loopw [6, 4, 5] (fun i tx bx wr => ∃ (k : Nat) (x y : ByteArray), k ≤ s.size ∧ i = .int .i64 k ∧ tx = .string x ∧ bx = .string y ∧ x.size ≤ 2 * k + 1 ∧ y.size = 2 * k + 2 ∧ Hid (x.data.toList = 39 :: quo (s.data.toList.take k)) ∧ Hid (y.data.toList = 88 :: 39 :: hexL (s.data.toList.take k)) ∧ Hid (Below w.heap.size w wr)) (fun i _ _ _ => s.size - (intOf i).toNat)
    case atStart => exact ⟨0, ⟨#[39]⟩, ⟨#[88, 39]⟩, Nat.zero_le _, rfl, rfl, rfl, by decide, by decide, rfl, rfl, b1⟩
    case round =>
      obtain ⟨k, x, y, hk, rfl, rfl, rfl, hxz, hyz, HX, HY, HB⟩ := hrel
      have hwz := HB.out.size
      by_cases hlt : k < s.size
      · have hkl : k < s.data.toList.length := by rw [size_list]; exact hlt
        have htk : s.data.toList.take (k + 1) = s.data.toList.take k ++ [s[k]] := by rw [List.take_succ_eq_append_getElem hkl, list_get hlt]
        have hone : (s.extract k (k + 1)).data.toList = [s[k]] := by
          rw [ext_list, List.drop_eq_getElem_cons hkl, list_get hlt, show k + 1 - k = 1 by omega]
          rfl
        have hc := UInt8.toNat_lt s[k]
        have HY2 : Hid ((y ++ str [digB (s[k].toNat / 16), digS (s[k].toNat % 16)]).data.toList = 88 :: 39 :: hexL (s.data.toList.take (k + 1))) := by
          show _ = _
          rw [app_list, HY.out, htk, hexL_snoc, str_list]
          rfl
        have hA := fun w => dB_index w (s[k].toNat / 16) (by omega)
        have hB := fun w => dS_index w (s[k].toNat % 16) (by omega)
        have hA2 : ∀ w : World, (Instr.index 9 (.string ⟨#[48, 49, 50, 51, 52, 53, 54, 55, 56, 57, 65, 66, 67, 68, 69, 70]⟩) (.int .u8 ((s[k].toNat : Int) / 16))).run Tryd.prog w = .ok (.int .u8 (digB (s[k].toNat / 16)).toNat) w := hA
        have hB2 : ∀ w : World, (Instr.index 9 (.string ⟨#[48, 49, 50, 51, 52, 53, 54, 55, 56, 57, 97, 98, 99, 100, 101, 102]⟩) (.int .u8 ((s[k].toNat : Int) % 16))).run Tryd.prog w = .ok (.int .u8 (digS (s[k].toNat % 16)).toNat) w := hB
        clear hA hB
        have hM := made_str (digB (s[k].toNat / 16)) (digS (s[k].toNat % 16)) wr
        have hzs : (str [digB (s[k].toNat / 16), digS (s[k].toNat % 16)]).size = 2 := rfl
        generalize str [digB (s[k].toNat / 16), digS (s[k].toNat % 16)] = z at *
        have hcat : ¬ (9223372036854775807 < y.size + z.size) := by omega
        have z1 : IntKind.u8.wrap ((s[k].toNat : Int) / 16) = (s[k].toNat : Int) / 16 := by rw [IntKind.wrap_u8]; omega
        have z3 : IntKind.u8.wrap ((s[k].toNat : Int) % 16) = (s[k].toNat : Int) % 16 := by rw [IntKind.wrap_u8]; omega
        have hes : (s.extract k (k + 1)).size = 1 := by rw [← size_list, hone]; rfl
        by_cases h39 : s[k] = 39
        · have e39 : (((s[k].toNat : Nat) : Int) == 39) = true := by rw [h39]; rfl
          have HX2 : Hid ((x ++ s.extract k (k + 1) ++ ⟨#[39]⟩).data.toList = 39 :: quo (s.data.toList.take (k + 1))) := by
            show _ = _
            rw [app_list, app_list, HX.out, htk, quo_snoc, if_pos h39, hone, h39]
            simp
          have HZ2 : Hid ((x ++ s.extract k (k + 1) ++ ⟨#[39]⟩).size ≤ 2 * (k + 1) + 1) := by
            show _ ≤ _
            rw [size_app, size_app, hes, show (⟨#[39]⟩ : ByteArray).size = 1 from rfl]
            omega
          clear hone htk HX HY h39 hes
          go_wp2_with fail
          go_region
          go_wp2_with fail
          go_roundw
          case measure => simp [intOf]; omega
          case rel => exact ⟨k + 1, x ++ s.extract k (k + 1) ++ ⟨#[39]⟩, y ++ z, by omega, by go_num, rfl, rfl, HZ2.out, by rw [size_app]; omega, HX2, HY2, (HB.out.alloc hwz _).drew⟩
        · have e39 : (((s[k].toNat : Nat) : Int) == 39) = false := by
            rw [beq_eq_false_iff_ne]
            intro h
            exact h39 (UInt8.toNat_inj.1 (by show s[k].toNat = 39; omega))
          have HX2 : Hid ((x ++ s.extract k (k + 1)).data.toList = 39 :: quo (s.data.toList.take (k + 1))) := by
            show _ = _
            rw [app_list, HX.out, htk, quo_snoc, if_neg h39, hone]
            simp
          have HZ2 : Hid ((x ++ s.extract k (k + 1)).size ≤ 2 * (k + 1) + 1) := by
            show _ ≤ _
            rw [size_app, hes]
            omega
          clear hone htk HX HY h39 hes
          go_wp2_with fail
          go_region
          go_wp2_with fail
          go_roundw
          case measure => simp [intOf]; omega
          case rel => exact ⟨k + 1, x ++ s.extract k (k + 1), y ++ z, by omega, by go_num, rfl, rfl, HZ2.out, by rw [size_app]; omega, HX2, HY2, (HB.out.alloc hwz _).drew⟩
      · have hkn : k = s.size := by omega
        subst hkn
        have hx := HX.out
        have hy := HY.out
        rw [List.take_of_length_le (by rw [size_list]; exact Nat.le_refl _)] at hx hy
        have HC2 : Hid (cutP 0 (x ++ ⟨#[39]⟩ ++ y ++ ⟨#[39]⟩).data.toList = .ok [⟨3, s.data.toList, 0, 0⟩, ⟨4, s.data.toList, 0, x.size + 1⟩, ⟨6, [], 0, x.size + 1 + y.size + 1⟩]) := by
          show _ = _
          have h1 : x.size = (quo s.data.toList).length + 1 := by rw [← size_list, hx]; rfl
          have h2 : y.size = (hexL s.data.toList).length + 2 := by rw [← size_list, hy]; rfl
          rw [app_list, app_list, app_list, hx, hy, h1, h2]
          have := HT.out
          simp only [List.cons_append, List.append_assoc, List.nil_append]
          rw [this]
          simp only [Except.ok.injEq, List.cons.injEq, T.mk.injEq, true_and, and_true]
          omega
        have HS : Hid (str s.data.toList = s) := list_str s
        have hcat1 : ¬ (9223372036854775807 < x.size + 1) := by omega
        have hcat2 : ¬ (9223372036854775807 < x.size + 1 + y.size) := by omega
        have hcat3 : ¬ (9223372036854775807 < x.size + 1 + y.size + 1) := by omega
        have hE2 := HE.out.later HB.out
        have HCC := Lib.hid (HC.out (x ++ ⟨#[39]⟩ ++ y ++ ⟨#[39]⟩) wr hE2 (by rw [size_app, size_app, size_app, show (⟨#[39]⟩ : ByteArray).size = 1 from rfl]; omega))
        clear hx hy HX HY HT
        go_wp2_with fail
        refine HCC.out.mono ?_
        intro e w3 h3
        obtain ⟨⟨A, c, rfl, -, t3⟩, b3⟩ := h3.ok HC2.out
        obtain ⟨b, off, rfl, -, d⟩ := t3 (by simp)
        obtain ⟨d00, d01, d02, d03⟩ := d 0 (by simp)
        obtain ⟨d10, d11, d12, d13⟩ := d 1 (by simp)
        have B3 := bthen HB.out b3
        simp only [List.getElem_cons_succ, List.getElem_cons_zero, HS.out, Nat.zero_mul, Nat.add_zero, Nat.one_mul] at d00 d01 d02 d03 d10 d11 d12 d13
        rw [Int.natCast_add] at d13
        clear d t3 h3 b3 hE2
        go_wp2_with fail
        go_ret
        exact ⟨rfl, B3⟩
end Go.Proofs.YtjnecobamobieaaDoor
