/- Contracts of the reference's word and text. Condition: no text longer than 4096. -/
import Derived.Test.YtjnecobamobieaaDoorTokRef2
namespace Go.Proofs.YtjnecobamobieaaDoor
open Go.RowKit
theorem byteAt_drop (s : ByteArray) (i k : Nat) : byteAt s.data.toList (i + k) = (s.data.toList.drop i).getD k 0 := by
  unfold byteAt
  rw [List.getD_eq_getElem?_getD, List.getD_eq_getElem?_getD, List.getElem?_drop]
theorem word_next (d : List UInt8) (m : Nat) (hm : m ≤ wLen d) : isWch (d.getD m 0) = decide (m < wLen d) := by
  have hle := tw_le isWch d
  by_cases h : m < d.length
  · rw [List.getD_eq_getElem?_getD, List.getElem?_eq_getElem h]
    exact tw_get hm h
  · rw [List.getD_eq_getElem?_getD, List.getElem?_eq_none (by omega)]
    have : ¬ m < wLen d := fun h2 => by unfold wLen at h2; omega
    rw [decide_eq_false this]
    rfl
theorem told_no {o : Option Tk} {i : Nat} (h : o = none) (u : T) (y : Int) : Told o i (.tuple #[u.val, .int .i64 y, .bool false]) := by
  subst h
  exact ⟨u, y, rfl⟩
theorem told_yes {o : Option Tk} {i k : Nat} {t : Tk} (h : o = some t) (hk : k = i + t.n) : Told o i (.tuple #[.agg #[.int .i64 t.k, .string (str t.s), .int .i64 t.i, .int .i64 i], .int .i64 k, .bool true]) := by
  subst h
  subst hk
  rfl
set_option maxRecDepth 100000 in
set_option maxHeartbeats 4000000 in
theorem rword_any (s : ByteArray) (i : Nat) (w : World) (hs : s.size ≤ 4096) (hi : i ≤ s.size) : Calls Tryd.prog 41 #[.string s, .int .i64 i] w fun e w' => (∃ v, e = .returned v ∧ Told (wordO (s.data.toList.drop i)) i v) ∧ Below w.heap.size w w' := by
  have HA := Lib.hid (fun k w => at_any s k w)
  have HL := Lib.hid letter_any
  have HD := Lib.hid digit_any
  have hle := tw_le isWch (s.data.toList.drop i)
  rw [List.length_drop, size_list] at hle
  change wLen (s.data.toList.drop i) ≤ _ at hle
  have HG : Hid (∀ k, i ≤ k → k ≤ i + wLen (s.data.toList.drop i) → isWch (byteAt s.data.toList k) = decide (k < i + wLen (s.data.toList.drop i))) := fun k h1 h2 => by
    have := word_next (s.data.toList.drop i) (k - i) (by omega)
    rw [← byteAt_drop, show i + (k - i) = k by omega] at this
    rw [this]
    apply bool_iff
    rw [decide_eq_true_iff, decide_eq_true_iff]
    omega
  have HO : Hid (wordO (s.data.toList.drop i) = if wLen (s.data.toList.drop i) ≤ 32 then some ⟨1, ((s.data.toList.drop i).take (wLen (s.data.toList.drop i))).map low, 0, wLen (s.data.toList.drop i)⟩ else none) := rfl
  have HX : Hid ((s.extract i (i + wLen (s.data.toList.drop i))).data.toList = (s.data.toList.drop i).take (wLen (s.data.toList.drop i))) := by
    show _ = _
    rw [ext_list, show i + wLen (s.data.toList.drop i) - i = wLen (s.data.toList.drop i) by omega]
  generalize wLen (s.data.toList.drop i) = m at *
  generalize wordO (s.data.toList.drop i) = o at *
  have bz := zbox w
  have hb0 := (Below.refl w.heap.size w).alloc (Nat.le_refl _) (.cells #[.int .i64 0, .string ⟨#[]⟩, .int .i64 0, .int .i64 0] 30)
  go_enter Tryd.func41, Tryd.ntmps41
  go_wp2_with fail
  generalize w.alloc (.cells #[.int .i64 0, .string ⟨#[]⟩, .int .i64 0, .int .i64 0] 30) = W1 at *
  go_loopw [7] (fun iv wr => ∃ k : Nat, i ≤ k ∧ k ≤ i + m ∧ iv = .int .i64 k ∧ wr = W1) (fun iv _ => i + m - (intOf iv).toNat)
  case atStart => exact ⟨i, Nat.le_refl _, by omega, rfl, rfl⟩
  case round =>
    obtain ⟨k, hik, hk, rfl, rfl⟩ := hrel
    have hg := HG.out k hik hk
    have HA1 := Lib.hid (fun w => HA.out k w)
    unfold isWch at hg
    generalize byteAt s.data.toList k = c at *
    have HL1 := Lib.hid (fun w => HL.out c w)
    have HD1 := Lib.hid (fun w => HD.out c w)
    by_cases hkm : k < i + m
    · rw [decide_eq_true hkm] at hg
      cases hl : isLet c
      · rw [hl] at hg HL1
        rw [show isDig c = true by simpa using hg] at HD1
        clear hg hl
        go_wp2_with fail
        refine (HA1.out _).mono ?_
        rintro e w2 ⟨rfl, rfl⟩
        go_wp2_with fail
        refine (HL1.out _).mono ?_
        rintro e w2 ⟨rfl, rfl⟩
        go_wp2_with fail
        refine (HA1.out _).mono ?_
        rintro e w2 ⟨rfl, rfl⟩
        go_wp2_with fail
        refine (HD1.out _).mono ?_
        rintro e w2 ⟨rfl, rfl⟩
        go_wp2_with fail
        go_roundw
        case measure => simp [intOf]; omega
        case rel => exact ⟨k + 1, by omega, by omega, by go_num, trivial⟩
      · rw [hl] at HL1
        clear hg hl
        go_wp2_with fail
        refine (HA1.out _).mono ?_
        rintro e w2 ⟨rfl, rfl⟩
        go_wp2_with fail
        refine (HL1.out _).mono ?_
        rintro e w2 ⟨rfl, rfl⟩
        go_wp2_with fail
        go_roundw
        case measure => simp [intOf]; omega
        case rel => exact ⟨k + 1, by omega, by omega, by go_num, trivial⟩
    · have hke : k = i + m := by omega
      rw [decide_eq_false hkm] at hg
      rw [Bool.or_eq_false_iff] at hg
      rw [hg.1] at HL1
      rw [hg.2] at HD1
      have HKE := Lib.hid hke
      have hmi : k - i = m := by omega
      have HX1 : Hid ((s.extract i k).data.toList = (s.data.toList.drop i).take m) := by rw [hke]; exact HX.out
      have HS := Lib.hid (fun w => small_any (s.extract i k) w (by rw [ByteArray.size_extract]; omega))
      rw [HX1.out] at HS
      have hks : k ≤ s.size := by omega
      clear hg hke hmi
      go_wp2_with fail
      refine (HA1.out _).mono ?_
      rintro e w2 ⟨rfl, rfl⟩
      go_wp2_with fail
      refine (HL1.out _).mono ?_
      rintro e w2 ⟨rfl, rfl⟩
      go_wp2_with fail
      refine (HA1.out _).mono ?_
      rintro e w2 ⟨rfl, rfl⟩
      go_wp2_with fail
      refine (HD1.out _).mono ?_
      rintro e w2 ⟨rfl, rfl⟩
      go_wp2_with fail
      refine (HS.out _).mono ?_
      rintro e w3 ⟨rfl, b3⟩
      have B3 := Lib.hid (hb0.trans (b3.mono hb0.size))
      obtain ⟨c0, c1, c2, c3⟩ := (bz.later b3).zcells
      obtain ⟨f0, f1, f2, f3⟩ := (bz.later b3).free
      have hz : (k : Int) - (i : Int) = ((k - i : Nat) : Int) := by omega
      by_cases h32 : m ≤ 32
      · have h32z : (k : Int) - (i : Int) ≤ 32 := by have := HKE.out; omega
        have HT := Lib.hid (told_yes (o := o) (i := i) (k := k) (HO.out.trans (if_pos h32)) HKE.out)
        generalize ((s.data.toList.drop i).take m).map low = bs at *
        clear hz bz b3
        go_wp2_with fail
        exact bodyPost_ret (v := .tuple #[.agg #[.int .i64 1, .string (str bs), .int .i64 0, .int .i64 i], .int .i64 k, .bool true]) (by simp [results, Tryd.results41, go_sem, c0, c1, c2, c3]) rfl ⟨⟨_, rfl, HT.out⟩, Below.set4 B3.out (Nat.le_refl _) _ _ _ _⟩
      · have h32z : (32 : Int) < (k : Int) - (i : Int) := by have := HKE.out; omega
        have HT := Lib.hid (told_no (i := i) (HO.out.trans (if_neg h32)) ⟨1, ((s.data.toList.drop i).take m).map low, 0, i⟩ k)
        generalize ((s.data.toList.drop i).take m).map low = bs at *
        clear hz bz b3
        go_wp2_with fail
        exact bodyPost_ret (v := .tuple #[.agg #[.int .i64 1, .string (str bs), .int .i64 0, .int .i64 i], .int .i64 k, .bool false]) (by simp [results, Tryd.results41, go_sem, c0, c1, c2, c3]; exact h32z) rfl ⟨⟨_, rfl, HT.out⟩, Below.set4 B3.out (Nat.le_refl _) _ _ _ _⟩
end Go.Proofs.YtjnecobamobieaaDoor
