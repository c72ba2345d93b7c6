/- The law TokenNames, walked: it answers true whatever the text is. Conditions: the text is no longer than 2 to the 47; the listed variables hold what they hold. -/
import Derived.Test.YtjnecobamobieaaDoorTokRName
namespace Go.Proofs.YtjnecobamobieaaDoor
open Go.RowKit
theorem name_no {l : List UInt8} {k : Nat} (hk : k < l.length) (h : (isWch l[k] && !isCap l[k]) = false) : nameB l = false := by
  rw [← Bool.not_eq_true, name_iff]
  rintro ⟨-, -, -, -, h5⟩
  obtain ⟨h6, h7⟩ := h5 l[k] (List.getElem_mem hk)
  rw [h6, h7] at h
  cases h
theorem name_yes {l : List UInt8} (h0 : l ≠ []) (h1 : l.length ≤ 32) (h2 : headIs l isDig = false) (h3 : resB l = false) (h : ∀ i (hi : i < l.length), (isWch l[i] && !isCap l[i]) = true) : nameB l = true := by
  rw [name_iff]
  refine ⟨h0, h1, h2, h3, fun c hc => ?_⟩
  obtain ⟨i, hi, rfl⟩ := List.getElem_of_mem hc
  have := h i hi
  rw [Bool.and_eq_true, Bool.not_eq_true'] at this
  exact this
set_option maxRecDepth 100000 in
set_option maxHeartbeats 4000000 in
theorem rIsName_any (s : ByteArray) (w : World) (hs : s.size ≤ 140737488355328) : Calls Tryd.prog 14 #[.string s] w fun e w' => e = .returned (.bool (nameB s.data.toList)) ∧ Below w.heap.size w w' := by
  by_cases h0 : s.size = 0
  · have he : s.data.toList = [] := List.eq_nil_of_length_eq_zero (by rw [size_list]; exact h0)
    have hemp : s.toList.isEmpty = true := by rw [Lib.toList_data, he]; rfl
    rw [he, name_nil]
    go_enter Tryd.func14, Tryd.ntmps14
    go_wp2_with fail
    go_ret
    exact ⟨rfl, Below.refl _ _⟩
  · have hpos : 0 < s.size := by omega
    have hcons : s.data.toList = s[0] :: s.data.toList.drop 1 := by
      rw [← list_get hpos]
      exact List.drop_eq_getElem_cons (by rw [size_list]; exact hpos)
    have hemp : s.toList.isEmpty = false := by rw [Lib.toList_data, hcons]; rfl
    by_cases h32 : 32 < s.size
    · have hN : nameB s.data.toList = false := by
        rw [← Bool.not_eq_true, name_iff, size_list]
        rintro ⟨-, h, -⟩
        omega
      rw [hN]
      clear hcons hN
      go_enter Tryd.func14, Tryd.ntmps14
      go_wp2_with fail
      go_ret
      exact ⟨rfl, Below.refl _ _⟩
    · have HD : Hid (∀ w, Calls Tryd.prog 30 #[.int .u8 s[0].toNat] w fun e w' => e = .returned (.bool (isDig s[0])) ∧ w' = w) := fun w => digit_any s[0] w
      have hh : headIs s.data.toList isDig = isDig s[0] := by rw [hcons]; rfl
      cases hd : isDig s[0]
      · rw [hd] at HD hh
        have HR := Lib.hid (fun w => rReserved_any s w)
        cases hr : resB s.data.toList
        · rw [hr] at HR
          have HY : Hid ((∀ i (hi : i < s.data.toList.length), (isWch s.data.toList[i] && !isCap s.data.toList[i]) = true) → nameB s.data.toList = true) := fun h => name_yes (by rw [hcons]; simp) (by rw [size_list]; omega) hh hr h
          clear hcons hh hd hr
          go_enter Tryd.func14, Tryd.ntmps14
          go_wp2_with fail
          refine (HD.out _).mono ?_
          rintro e w1 ⟨rfl, rfl⟩
          go_wp2_with fail
          refine (HR.out _).mono ?_
          rintro e w2 ⟨rfl, b2⟩
          go_wp2_with fail
          go_loopw [3] (fun i wr => ∃ k : Nat, k ≤ s.size ∧ i = .int .i64 k ∧ wr = w2 ∧ Hid (∀ i (hi : i < s.data.toList.length), i < k → (isWch s.data.toList[i] && !isCap s.data.toList[i]) = true)) (fun i _ => s.size - (intOf i).toNat)
          case atStart => exact ⟨0, Nat.zero_le _, rfl, rfl, fun i hi h => by omega⟩
          case round =>
            obtain ⟨k, hk, rfl, rfl, HK⟩ := hrel
            by_cases hlt : k < s.size
            · have hkl : k < s.data.toList.length := by rw [size_list]; exact hlt
              have HT : Hid ((isWch s[k] && !isCap s[k]) = true → ∀ i (hi : i < s.data.toList.length), i < k + 1 → (isWch s.data.toList[i] && !isCap s.data.toList[i]) = true) := fun h i hi hlt2 => by
                rcases Nat.lt_or_ge i k with h1 | h1
                · exact HK.out i hi h1
                · have : i = k := by omega
                  subst this
                  rw [list_get hlt]
                  exact h
              have HF : Hid ((isWch s[k] && !isCap s[k]) = false → nameB s.data.toList = false) := fun h => name_no hkl (by rw [list_get hlt]; exact h)
              have HL := Lib.hid (fun w => letter_any s[k] w)
              have HG := Lib.hid (fun w => digit_any s[k] w)
              have hc := u8_lt s[k]
              rw [isLet_eq] at HL
              rw [isDig_eq] at HG
              unfold isWch at HT HF
              rw [isLet_eq, isDig_eq, isCap_eq] at HT HF
              clear HK
              have hn : (65 ≤ s[k].toNat ∧ s[k].toNat ≤ 90) ∨ (s[k].toNat = 95 ∨ (97 ≤ s[k].toNat ∧ s[k].toNat ≤ 122)) ∨ (48 ≤ s[k].toNat ∧ s[k].toNat ≤ 57) ∨ ((s[k].toNat < 48 ∨ (57 < s[k].toNat ∧ s[k].toNat < 65)) ∨ (90 < s[k].toNat ∧ s[k].toNat < 95) ∨ s[k].toNat = 96 ∨ 122 < s[k].toNat) := by omega
              rcases hn with hn | hn | hn | hn
              · rw [decide_eq_true (by omega)] at HL
                have HN := Lib.hid (HF.out (by rw [decide_eq_true (by omega), decide_eq_true (show 65 ≤ s[k].toNat ∧ s[k].toNat ≤ 90 from hn)]; rfl))
                have a0 : (65 : Int) ≤ (s[k].toNat : Int) := by omega
                have a1 : (s[k].toNat : Int) ≤ 90 := by omega
                clear HT HF HG hn
                go_wp2_with fail
                refine (HL.out _).mono ?_
                rintro e w3 ⟨rfl, rfl⟩
                go_wp2_with fail
                go_ret
                exact ⟨ret_bool HN.out.symm, b2⟩
              · rw [decide_eq_true (by omega)] at HL
                have HN := Lib.hid (HT.out (by rw [decide_eq_true (by omega), decide_eq_false (show ¬ (65 ≤ s[k].toNat ∧ s[k].toNat ≤ 90) by omega)]; rfl))
                have a0 : (65 : Int) ≤ (s[k].toNat : Int) := by omega
                have a1 : (90 : Int) < (s[k].toNat : Int) := by omega
                clear HT HF HG hn
                go_wp2_with fail
                refine (HL.out _).mono ?_
                rintro e w3 ⟨rfl, rfl⟩
                go_wp2_with fail
                go_roundw
                case measure => simp [intOf]; omega
                case rel => exact ⟨k + 1, by omega, by go_num, trivial, HN⟩
              · rw [decide_eq_false (by omega)] at HL
                rw [decide_eq_true (by omega)] at HG
                have HN := Lib.hid (HT.out (by rw [decide_eq_false (show ¬ ((97 ≤ s[k].toNat ∧ s[k].toNat ≤ 122) ∨ (65 ≤ s[k].toNat ∧ s[k].toNat ≤ 90) ∨ s[k].toNat = 95) by omega), decide_eq_true (show 48 ≤ s[k].toNat ∧ s[k].toNat ≤ 57 from hn), decide_eq_false (show ¬ (65 ≤ s[k].toNat ∧ s[k].toNat ≤ 90) by omega)]; rfl))
                have a0 : (s[k].toNat : Int) < 65 := by omega
                clear HT HF hn
                go_wp2_with fail
                refine (HL.out _).mono ?_
                rintro e w3 ⟨rfl, rfl⟩
                go_wp2_with fail
                refine (HG.out _).mono ?_
                rintro e w3 ⟨rfl, rfl⟩
                go_wp2_with fail
                go_roundw
                case measure => simp [intOf]; omega
                case rel => exact ⟨k + 1, by omega, by go_num, trivial, HN⟩
              · rw [decide_eq_false (by omega)] at HL
                rw [decide_eq_false (by omega)] at HG
                have HN := Lib.hid (HF.out (by rw [decide_eq_false (show ¬ ((97 ≤ s[k].toNat ∧ s[k].toNat ≤ 122) ∨ (65 ≤ s[k].toNat ∧ s[k].toNat ≤ 90) ∨ s[k].toNat = 95) by omega), decide_eq_false (show ¬ (48 ≤ s[k].toNat ∧ s[k].toNat ≤ 57) by omega)]; rfl))
                clear HT HF hn
                go_wp2_with fail
                refine (HL.out _).mono ?_
                rintro e w3 ⟨rfl, rfl⟩
                go_wp2_with fail
                refine (HG.out _).mono ?_
                rintro e w3 ⟨rfl, rfl⟩
                go_wp2_with fail
                go_ret
                exact ⟨ret_bool HN.out.symm, b2⟩
            · have hkn : k = s.size := by omega
              subst hkn
              have HN := Lib.hid (HY.out (fun i hi => HK.out i hi (by rw [size_list] at hi; exact hi)))
              clear HK
              go_wp2_with fail
              go_ret
              exact ⟨ret_bool HN.out.symm, b2⟩
        · rw [hr] at HR
          have hN : nameB s.data.toList = false := by
            rw [← Bool.not_eq_true, name_iff]
            rintro ⟨-, -, -, h, -⟩
            rw [h] at hr
            cases hr
          rw [hN]
          clear hcons hh hd hr hN
          go_enter Tryd.func14, Tryd.ntmps14
          go_wp2_with fail
          refine (HD.out _).mono ?_
          rintro e w1 ⟨rfl, rfl⟩
          go_wp2_with fail
          refine (HR.out _).mono ?_
          rintro e w2 ⟨rfl, b2⟩
          go_wp2_with fail
          go_ret
          exact ⟨rfl, b2⟩
      · rw [hd] at HD hh
        have hN : nameB s.data.toList = false := by
          rw [← Bool.not_eq_true, name_iff]
          rintro ⟨-, -, h, -⟩
          rw [h] at hh
          cases hh
        rw [hN]
        clear hcons hh hd hN
        go_enter Tryd.func14, Tryd.ntmps14
        go_wp2_with fail
        refine (HD.out _).mono ?_
        rintro e w1 ⟨rfl, rfl⟩
        go_wp2_with fail
        go_ret
        exact ⟨rfl, Below.refl _ _⟩
theorem name_free {l : List UInt8} (h : nameB l = true) : resB l = false := ((name_iff l).1 h).2.2.2.1
set_option maxRecDepth 100000 in
set_option maxHeartbeats 4000000 in
theorem names_core (s : ByteArray) (w : World) (hE : Env w) (hs : s.size ≤ 140737488355328) : Calls Tryd.prog 4 #[.string s] w fun e w' => e = .returned (.bool true) ∧ Below w.heap.size w w' := by
  have HE := Lib.hid hE
  have HL := Lib.hid live_any
  have H1 := Lib.hid (fun w => isName_any s w hs)
  have H2 := Lib.hid (fun w => rIsName_any s w hs)
  have H3 := Lib.hid (fun w => reserved_any s w)
  have H4 := Lib.hid (fun w => rReserved_any s w)
  have hf := @name_free s.data.toList
  generalize nameB s.data.toList = a at *
  generalize resB s.data.toList = b at *
  clear hE
  have hab : (a = true ∧ b = false) ∨ (a = false ∧ b = true) ∨ (a = false ∧ b = false) := by
    cases a <;> cases b <;> simp_all
  clear hf
  rcases hab with ⟨rfl, rfl⟩ | ⟨rfl, rfl⟩ | ⟨rfl, rfl⟩
  all_goals
    go_enter Tryd.func4, Tryd.ntmps4
    go_wp2_with fail
    refine (HL.out _ HE.out).mono ?_
    rintro e w1 ⟨rfl, b1⟩
    go_wp2_with fail
    refine (H1.out _).mono ?_
    rintro e w2 ⟨rfl, b2⟩
    go_wp2_with fail
    refine (H2.out _).mono ?_
    rintro e w3 ⟨rfl, b3⟩
    go_wp2_with fail
    refine (H3.out _).mono ?_
    rintro e w4 ⟨rfl, rfl⟩
    go_wp2_with fail
    refine (H4.out _).mono ?_
    rintro e w5 ⟨rfl, b5⟩
    go_wp2_with fail
    refine (H1.out _).mono ?_
    rintro e w6 ⟨rfl, b6⟩
    go_wp2_with fail
    try (refine (H3.out _).mono ?_; rintro e w7 ⟨rfl, rfl⟩; go_wp2_with fail)
    go_ret
    exact ⟨rfl, bthen b1 (bthen b2 (bthen b3 (bthen b5 b6)))⟩
end Go.Proofs.YtjnecobamobieaaDoor
