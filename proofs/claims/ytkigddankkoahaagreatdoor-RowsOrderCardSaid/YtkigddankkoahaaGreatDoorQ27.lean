import Derived.Test.YtkigddankkoahaaGreatDoorQ06
set_option maxRecDepth 100000
set_option maxHeartbeats 4000000
namespace Go.Proofs.YtkigddankkoahaaGreatDoor
open Go.RowKit
def resV : Array Value := #[.string ⟨#[97, 108, 108]⟩, .string ⟨#[97, 110, 100]⟩, .string ⟨#[97, 115]⟩, .string ⟨#[97, 115, 99]⟩, .string ⟨#[98, 101, 103, 105, 110]⟩, .string ⟨#[98, 101, 116, 119, 101, 101, 110]⟩, .string ⟨#[98, 108, 111, 98]⟩, .string ⟨#[98, 111, 111, 108]⟩, .string ⟨#[98, 121]⟩, .string ⟨#[99, 97, 115, 101]⟩, .string ⟨#[99, 111, 109, 109, 105, 116]⟩, .string ⟨#[99, 114, 101, 97, 116, 101]⟩, .string ⟨#[99, 114, 111, 115, 115]⟩, .string ⟨#[100, 101, 108, 101, 116, 101]⟩, .string ⟨#[100, 101, 115, 99]⟩, .string ⟨#[100, 105, 115, 116, 105, 110, 99, 116]⟩, .string ⟨#[100, 114, 111, 112]⟩, .string ⟨#[101, 120, 99, 101, 112, 116]⟩, .string ⟨#[101, 120, 105, 115, 116, 115]⟩, .string ⟨#[102, 97, 108, 115, 101]⟩, .string ⟨#[102, 114, 111, 109]⟩, .string ⟨#[102, 117, 108, 108]⟩, .string ⟨#[103, 114, 111, 117, 112]⟩, .string ⟨#[104, 97, 118, 105, 110, 103]⟩, .string ⟨#[105, 110]⟩, .string ⟨#[105, 110, 100, 101, 120]⟩, .string ⟨#[105, 110, 110, 101, 114]⟩, .string ⟨#[105, 110, 115, 101, 114, 116]⟩, .string ⟨#[105, 110, 116]⟩, .string ⟨#[105, 110, 116, 101, 114, 115, 101, 99, 116]⟩, .string ⟨#[105, 110, 116, 111]⟩, .string ⟨#[105, 115]⟩, .string ⟨#[106, 111, 105, 110]⟩, .string ⟨#[107, 101, 121]⟩, .string ⟨#[108, 101, 102, 116]⟩, .string ⟨#[108, 105, 107, 101]⟩, .string ⟨#[108, 105, 109, 105, 116]⟩, .string ⟨#[110, 111, 116]⟩, .string ⟨#[110, 117, 108, 108]⟩, .string ⟨#[111, 102, 102, 115, 101, 116]⟩, .string ⟨#[111, 110]⟩, .string ⟨#[111, 114]⟩, .string ⟨#[111, 114, 100, 101, 114]⟩, .string ⟨#[111, 117, 116, 101, 114]⟩, .string ⟨#[112, 114, 105, 109, 97, 114, 121]⟩, .string ⟨#[114, 105, 103, 104, 116]⟩, .string ⟨#[114, 111, 108, 108, 98, 97, 99, 107]⟩, .string ⟨#[115, 101, 108, 101, 99, 116]⟩, .string ⟨#[115, 101, 116]⟩, .string ⟨#[116, 97, 98, 108, 101]⟩, .string ⟨#[116, 101, 120, 116]⟩, .string ⟨#[116, 114, 117, 101]⟩, .string ⟨#[117, 110, 105, 111, 110]⟩, .string ⟨#[117, 110, 105, 113, 117, 101]⟩, .string ⟨#[117, 112, 100, 97, 116, 101]⟩, .string ⟨#[117, 115, 105, 110, 103]⟩, .string ⟨#[118, 97, 108, 117, 101, 115]⟩, .string ⟨#[119, 104, 101, 114, 101]⟩]
theorem resV_get (k : Nat) (h : k < resL.length) : resV[k]? = some (.string (str resL[k])) := by
 match k, h with
 | 0, _ => rfl
 | 1, _ => rfl
 | 2, _ => rfl
 | 3, _ => rfl
 | 4, _ => rfl
 | 5, _ => rfl
 | 6, _ => rfl
 | 7, _ => rfl
 | 8, _ => rfl
 | 9, _ => rfl
 | 10, _ => rfl
 | 11, _ => rfl
 | 12, _ => rfl
 | 13, _ => rfl
 | 14, _ => rfl
 | 15, _ => rfl
 | 16, _ => rfl
 | 17, _ => rfl
 | 18, _ => rfl
 | 19, _ => rfl
 | 20, _ => rfl
 | 21, _ => rfl
 | 22, _ => rfl
 | 23, _ => rfl
 | 24, _ => rfl
 | 25, _ => rfl
 | 26, _ => rfl
 | 27, _ => rfl
 | 28, _ => rfl
 | 29, _ => rfl
 | 30, _ => rfl
 | 31, _ => rfl
 | 32, _ => rfl
 | 33, _ => rfl
 | 34, _ => rfl
 | 35, _ => rfl
 | 36, _ => rfl
 | 37, _ => rfl
 | 38, _ => rfl
 | 39, _ => rfl
 | 40, _ => rfl
 | 41, _ => rfl
 | 42, _ => rfl
 | 43, _ => rfl
 | 44, _ => rfl
 | 45, _ => rfl
 | 46, _ => rfl
 | 47, _ => rfl
 | 48, _ => rfl
 | 49, _ => rfl
 | 50, _ => rfl
 | 51, _ => rfl
 | 52, _ => rfl
 | 53, _ => rfl
 | 54, _ => rfl
 | 55, _ => rfl
 | 56, _ => rfl
 | 57, _ => rfl
 | k + 58, h => exact absurd h (by show ¬ k + 58 < 58; omega)
theorem resL_len : resL.length = 58 := rfl
theorem res_cell (w : World) (k : Nat) (h : k < resL.length) : (w.alloc (.cells resV 9)).cell? ⟨w.heap.size, k, none⟩ = some (.string (str resL[k])) := by
 have hn : (w.alloc (.cells resV 9)).heap[w.heap.size]? = some (.cells resV 9 (0, 0)) := heap_alloc_new w _
 rw [Lib.cell_of_heap hn]
 exact resV_get k h
def NotYet (l : List UInt8) (j : Nat) : Prop := ∀ i (h : i < resL.length), i < j → resL[i] ≠ l
theorem NotYet.yes {l : List UInt8} {j : Nat} (hj : j < resL.length) (h : resL[j] = l) : resB l = true := by
 unfold resB
 rw [List.contains_iff_mem, ← h]
 exact List.getElem_mem hj
theorem NotYet.next {l : List UInt8} {j : Nat} (h : NotYet l j) (hj : j < resL.length) (hp : resL[j] ≠ l) : NotYet l (j + 1) := fun i hi hlt => by
 rcases Nat.lt_or_ge i j with h1 | h1
 ·exact h i hi h1
 ·have : i = j := by omega
  subst this
  exact hp
theorem NotYet.no {l : List UInt8} (h : NotYet l 58) : resB l = false := by
 rw [← Bool.not_eq_true]
 unfold resB
 rw [List.contains_iff_mem]
 intro hm
 obtain ⟨i, hi, e⟩ := List.getElem_of_mem hm
 exact h i hi (by rw [resL_len] at hi; exact hi) e
theorem rReserved_any (s : ByteArray) (w : World) : Calls Tryz.prog 132 #[.string s] w fun e w' => e = .returned (.bool (resB s.data.toList)) ∧ Below w.heap.size w w' := by
 have HG := Lib.hid (res_cell w)
 have hb0 := (Below.refl w.heap.size w).alloc (Nat.le_refl _) (.cells resV 9)
 unfold resV at HG hb0
 have HB := Lib.hid hb0
 clear hb0
 go_enter Tryz.func132, Tryz.ntmps132
 go_wp2_with fail
 generalize w.alloc (.cells #[.string ⟨#[97, 108, 108]⟩, .string ⟨#[97, 110, 100]⟩, .string ⟨#[97, 115]⟩, .string ⟨#[97, 115, 99]⟩, .string ⟨#[98, 101, 103, 105, 110]⟩, .string ⟨#[98, 101, 116, 119, 101, 101, 110]⟩, .string ⟨#[98, 108, 111, 98]⟩, .string ⟨#[98, 111, 111, 108]⟩, .string ⟨#[98, 121]⟩, .string ⟨#[99, 97, 115, 101]⟩, .string ⟨#[99, 111, 109, 109, 105, 116]⟩, .string ⟨#[99, 114, 101, 97, 116, 101]⟩, .string ⟨#[99, 114, 111, 115, 115]⟩, .string ⟨#[100, 101, 108, 101, 116, 101]⟩, .string ⟨#[100, 101, 115, 99]⟩, .string ⟨#[100, 105, 115, 116, 105, 110, 99, 116]⟩, .string ⟨#[100, 114, 111, 112]⟩, .string ⟨#[101, 120, 99, 101, 112, 116]⟩, .string ⟨#[101, 120, 105, 115, 116, 115]⟩, .string ⟨#[102, 97, 108, 115, 101]⟩, .string ⟨#[102, 114, 111, 109]⟩, .string ⟨#[102, 117, 108, 108]⟩, .string ⟨#[103, 114, 111, 117, 112]⟩, .string ⟨#[104, 97, 118, 105, 110, 103]⟩, .string ⟨#[105, 110]⟩, .string ⟨#[105, 110, 100, 101, 120]⟩, .string ⟨#[105, 110, 110, 101, 114]⟩, .string ⟨#[105, 110, 115, 101, 114, 116]⟩, .string ⟨#[105, 110, 116]⟩, .string ⟨#[105, 110, 116, 101, 114, 115, 101, 99, 116]⟩, .string ⟨#[105, 110, 116, 111]⟩, .string ⟨#[105, 115]⟩, .string ⟨#[106, 111, 105, 110]⟩, .string ⟨#[107, 101, 121]⟩, .string ⟨#[108, 101, 102, 116]⟩, .string ⟨#[108, 105, 107, 101]⟩, .string ⟨#[108, 105, 109, 105, 116]⟩, .string ⟨#[110, 111, 116]⟩, .string ⟨#[110, 117, 108, 108]⟩, .string ⟨#[111, 102, 102, 115, 101, 116]⟩, .string ⟨#[111, 110]⟩, .string ⟨#[111, 114]⟩, .string ⟨#[111, 114, 100, 101, 114]⟩, .string ⟨#[111, 117, 116, 101, 114]⟩, .string ⟨#[112, 114, 105, 109, 97, 114, 121]⟩, .string ⟨#[114, 105, 103, 104, 116]⟩, .string ⟨#[114, 111, 108, 108, 98, 97, 99, 107]⟩, .string ⟨#[115, 101, 108, 101, 99, 116]⟩, .string ⟨#[115, 101, 116]⟩, .string ⟨#[116, 97, 98, 108, 101]⟩, .string ⟨#[116, 101, 120, 116]⟩, .string ⟨#[116, 114, 117, 101]⟩, .string ⟨#[117, 110, 105, 111, 110]⟩, .string ⟨#[117, 110, 105, 113, 117, 101]⟩, .string ⟨#[117, 112, 100, 97, 116, 101]⟩, .string ⟨#[117, 115, 105, 110, 103]⟩, .string ⟨#[118, 97, 108, 117, 101, 115]⟩, .string ⟨#[119, 104, 101, 114, 101]⟩] 9) = W1 at *
 go_loopw [7] (fun i wr => ∃ k : Nat, k ≤ 58 ∧ i = .int .i64 k ∧ wr = W1 ∧ Hid (NotYet s.data.toList k)) (fun i _ => 58 - (intOf i).toNat)
 case atStart => exact ⟨0, by omega, rfl, rfl, fun i h hi => by omega⟩
 case round =>
  obtain ⟨k, hk, rfl, rfl, HN⟩ := hrel
  by_cases hlt : k < 58
  ·have hkl : k < resL.length := hlt
   have hc := HG.out k hkl
   have HX := Lib.hid (fun h => HN.out.next hkl h)
   have HY := Lib.hid (fun h => NotYet.yes (l := s.data.toList) hkl h)
   generalize resL[k] = x at *
   have HE : Hid (((str x).toList == s.toList) = true ↔ x = s.data.toList) := by
    show _ ↔ _
    rw [beq_iff_eq, Lib.toList_data, Lib.toList_data, str_list]
   generalize str x = y at *
   cases he : (y.toList == s.toList)
   ·have HX2 := Lib.hid (HX.out (fun h => by rw [HE.out.2 h] at he; cases he))
    clear HE
    go_wp2_with fail
    go_roundw
    case measure => simp [intOf]; omega
    case rel => exact ⟨k + 1, by omega, by go_num, trivial, HX2⟩
   ·have HY2 := Lib.hid (HY.out (HE.out.1 he))
    clear HE
    go_wp2_with fail
    go_ret
    exact ⟨ret_bool HY2.out.symm, HB.out⟩
  ·have hkn : k = 58 := by omega
   subst hkn
   have HF := Lib.hid HN.out.no
   go_wp2_with fail
   go_ret
   exact ⟨ret_bool HF.out.symm, HB.out⟩
theorem name_no {l : List UInt8} {k : Nat} (hk : k < l.length) (h : (isWch l[k] && !isCap l[k]) = false) : nameB l = false := by
 rw [← Bool.not_eq_true, name_iff]
 rintro ⟨-, -, -, -, h5⟩
 obtain ⟨h6, h7⟩ := h5 l[k] (List.getElem_mem hk)
 rw [h6, h7] at h
 cases h
theorem name_yes {l : List UInt8} (h0 : l ≠ []) (h1 : l.length ≤ 32) (h2 : headIs l isDig = false) (h3 : resB l = false) (h : ∀ i (hi : i < l.length), (isWch l[i] && !isCap l[i]) = true) : nameB l = true := by
 rw [name_iff]
 refine ⟨h0, h1, h2, h3, fun c hc => ?_⟩
 obtain ⟨i, hi, rfl⟩ := List.getElem_of_mem hc
 have := h i hi
 rw [Bool.and_eq_true, Bool.not_eq_true'] at this
 exact this
theorem rIsName_any (s : ByteArray) (w : World) (hs : s.size ≤ 140737488355328) : Calls Tryz.prog 92 #[.string s] w fun e w' => e = .returned (.bool (nameB s.data.toList)) ∧ Below w.heap.size w w' := by
 by_cases h0 : s.size = 0
 ·have he : s.data.toList = [] := List.eq_nil_of_length_eq_zero (by rw [size_list]; exact h0)
  have hemp : s.toList.isEmpty = true := by rw [Lib.toList_data, he]; rfl
  rw [he, name_nil]
  go_enter Tryz.func92, Tryz.ntmps92
  go_wp2_with fail
  go_ret
  exact ⟨rfl, Below.refl _ _⟩
 ·have hpos : 0 < s.size := by omega
  have hcons : s.data.toList = s[0] :: s.data.toList.drop 1 := by
   rw [← list_get hpos]
   exact List.drop_eq_getElem_cons (by rw [size_list]; exact hpos)
  have hemp : s.toList.isEmpty = false := by rw [Lib.toList_data, hcons]; rfl
  by_cases h32 : 32 < s.size
  ·have hN : nameB s.data.toList = false := by
    rw [← Bool.not_eq_true, name_iff, size_list]
    rintro ⟨-, h, -⟩
    omega
   rw [hN]
   clear hcons hN
   go_enter Tryz.func92, Tryz.ntmps92
   go_wp2_with fail
   go_ret
   exact ⟨rfl, Below.refl _ _⟩
  ·have HD : Hid (∀ w, Calls Tryz.prog 131 #[.int .u8 s[0].toNat] w fun e w' => e = .returned (.bool (isDig s[0])) ∧ w' = w) := fun w => digit_any s[0] w
   have hh : headIs s.data.toList isDig = isDig s[0] := by rw [hcons]; rfl
   cases hd : isDig s[0]
   ·rw [hd] at HD hh
    have HR := Lib.hid (fun w => rReserved_any s w)
    cases hr : resB s.data.toList
    ·rw [hr] at HR
     have HY : Hid ((∀ i (hi : i < s.data.toList.length), (isWch s.data.toList[i] && !isCap s.data.toList[i]) = true) → nameB s.data.toList = true) := fun h => name_yes (by rw [hcons]; simp) (by rw [size_list]; omega) hh hr h
     clear hcons hh hd hr
     go_enter Tryz.func92, Tryz.ntmps92
     go_wp2_with fail
     refine (HD.out _).mono ?_
     rintro e w1 ⟨rfl, rfl⟩
     go_wp2_with fail
     refine (HR.out _).mono ?_
     rintro e w2 ⟨rfl, b2⟩
     go_wp2_with fail
     go_loopw [3] (fun i wr => ∃ k : Nat, k ≤ s.size ∧ i = .int .i64 k ∧ wr = w2 ∧ Hid (∀ i (hi : i < s.data.toList.length), i < k → (isWch s.data.toList[i] && !isCap s.data.toList[i]) = true)) (fun i _ => s.size - (intOf i).toNat)
     case atStart => exact ⟨0, Nat.zero_le _, rfl, rfl, fun i hi h => by omega⟩
     case round =>
      obtain ⟨k, hk, rfl, rfl, HK⟩ := hrel
      by_cases hlt : k < s.size
      ·have hkl : k < s.data.toList.length := by rw [size_list]; exact hlt
       have HT : Hid ((isWch s[k] && !isCap s[k]) = true → ∀ i (hi : i < s.data.toList.length), i < k + 1 → (isWch s.data.toList[i] && !isCap s.data.toList[i]) = true) := fun h i hi hlt2 => by
        rcases Nat.lt_or_ge i k with h1 | h1
        ·exact HK.out i hi h1
        ·have : i = k := by omega
         subst this
         rw [list_get hlt]
         exact h
       have HF : Hid ((isWch s[k] && !isCap s[k]) = false → nameB s.data.toList = false) := fun h => name_no hkl (by rw [list_get hlt]; exact h)
       have HL := Lib.hid (fun w => letter_any s[k] w)
       have HG := Lib.hid (fun w => digit_any s[k] w)
       have hc := u8_lt s[k]
       rw [isLet_eq] at HL
       rw [isDig_eq] at HG
       unfold isWch at HT HF
       rw [isLet_eq, isDig_eq, isCap_eq] at HT HF
       clear HK
       have hn : (65 ≤ s[k].toNat ∧ s[k].toNat ≤ 90) ∨ (s[k].toNat = 95 ∨ (97 ≤ s[k].toNat ∧ s[k].toNat ≤ 122)) ∨ (48 ≤ s[k].toNat ∧ s[k].toNat ≤ 57) ∨ ((s[k].toNat < 48 ∨ (57 < s[k].toNat ∧ s[k].toNat < 65)) ∨ (90 < s[k].toNat ∧ s[k].toNat < 95) ∨ s[k].toNat = 96 ∨ 122 < s[k].toNat) := by omega
       rcases hn with hn | hn | hn | hn
       ·rw [decide_eq_true (by omega)] at HL
        have HN := Lib.hid (HF.out (by rw [decide_eq_true (by omega), decide_eq_true (show 65 ≤ s[k].toNat ∧ s[k].toNat ≤ 90 from hn)]; rfl))
        have a0 : (65 : Int) ≤ (s[k].toNat : Int) := by omega
        have a1 : (s[k].toNat : Int) ≤ 90 := by omega
        clear HT HF HG hn
        go_wp2_with fail
        refine (HL.out _).mono ?_
        rintro e w3 ⟨rfl, rfl⟩
        go_wp2_with fail
        go_ret
        exact ⟨ret_bool HN.out.symm, b2⟩
       ·rw [decide_eq_true (by omega)] at HL
        have HN := Lib.hid (HT.out (by rw [decide_eq_true (by omega), decide_eq_false (show ¬ (65 ≤ s[k].toNat ∧ s[k].toNat ≤ 90) by omega)]; rfl))
        have a0 : (65 : Int) ≤ (s[k].toNat : Int) := by omega
        have a1 : (90 : Int) < (s[k].toNat : Int) := by omega
        clear HT HF HG hn
        go_wp2_with fail
        refine (HL.out _).mono ?_
        rintro e w3 ⟨rfl, rfl⟩
        go_wp2_with fail
        go_roundw
        case measure => simp [intOf]; omega
        case rel => exact ⟨k + 1, by omega, by go_num, trivial, HN⟩
       ·rw [decide_eq_false (by omega)] at HL
        rw [decide_eq_true (by omega)] at HG
        have HN := Lib.hid (HT.out (by rw [decide_eq_false (show ¬ ((97 ≤ s[k].toNat ∧ s[k].toNat ≤ 122) ∨ (65 ≤ s[k].toNat ∧ s[k].toNat ≤ 90) ∨ s[k].toNat = 95) by omega), decide_eq_true (show 48 ≤ s[k].toNat ∧ s[k].toNat ≤ 57 from hn), decide_eq_false (show ¬ (65 ≤ s[k].toNat ∧ s[k].toNat ≤ 90) by omega)]; rfl))
        have a0 : (s[k].toNat : Int) < 65 := by omega
        clear HT HF hn
        go_wp2_with fail
        refine (HL.out _).mono ?_
        rintro e w3 ⟨rfl, rfl⟩
        go_wp2_with fail
        refine (HG.out _).mono ?_
        rintro e w3 ⟨rfl, rfl⟩
        go_wp2_with fail
        go_roundw
        case measure => simp [intOf]; omega
        case rel => exact ⟨k + 1, by omega, by go_num, trivial, HN⟩
       ·rw [decide_eq_false (by omega)] at HL
        rw [decide_eq_false (by omega)] at HG
        have HN := Lib.hid (HF.out (by rw [decide_eq_false (show ¬ ((97 ≤ s[k].toNat ∧ s[k].toNat ≤ 122) ∨ (65 ≤ s[k].toNat ∧ s[k].toNat ≤ 90) ∨ s[k].toNat = 95) by omega), decide_eq_false (show ¬ (48 ≤ s[k].toNat ∧ s[k].toNat ≤ 57) by omega)]; rfl))
        clear HT HF hn
        go_wp2_with fail
        refine (HL.out _).mono ?_
        rintro e w3 ⟨rfl, rfl⟩
        go_wp2_with fail
        refine (HG.out _).mono ?_
        rintro e w3 ⟨rfl, rfl⟩
        go_wp2_with fail
        go_ret
        exact ⟨ret_bool HN.out.symm, b2⟩
      ·have hkn : k = s.size := by omega
       subst hkn
       have HN := Lib.hid (HY.out (fun i hi => HK.out i hi (by rw [size_list] at hi; exact hi)))
       clear HK
       go_wp2_with fail
       go_ret
       exact ⟨ret_bool HN.out.symm, b2⟩
    ·rw [hr] at HR
     have hN : nameB s.data.toList = false := by
      rw [← Bool.not_eq_true, name_iff]
      rintro ⟨-, -, -, h, -⟩
      rw [h] at hr
      cases hr
     rw [hN]
     clear hcons hh hd hr hN
     go_enter Tryz.func92, Tryz.ntmps92
     go_wp2_with fail
     refine (HD.out _).mono ?_
     rintro e w1 ⟨rfl, rfl⟩
     go_wp2_with fail
     refine (HR.out _).mono ?_
     rintro e w2 ⟨rfl, b2⟩
     go_wp2_with fail
     go_ret
     exact ⟨rfl, b2⟩
   ·rw [hd] at HD hh
    have hN : nameB s.data.toList = false := by
     rw [← Bool.not_eq_true, name_iff]
     rintro ⟨-, -, h, -⟩
     rw [h] at hh
     cases hh
    rw [hN]
    clear hcons hh hd hN
    go_enter Tryz.func92, Tryz.ntmps92
    go_wp2_with fail
    refine (HD.out _).mono ?_
    rintro e w1 ⟨rfl, rfl⟩
    go_wp2_with fail
    go_ret
    exact ⟨rfl, Below.refl _ _⟩
end Go.Proofs.YtkigddankkoahaaGreatDoor
