/- Contract of token's IsName: whether a text is a word in small letters that is not reserved. Condition: the text is no longer than 2 to the 47. -/
import Derived.Test.YtcmbdghbicjljaaGreatDoorQ05
namespace Go.Proofs.YtcmbdghbicjljaaGreatDoor
open Go.RowKit
theorem all_word {l : List UInt8} (h : wLen l = l.length) : ∀ c ∈ l, isWch c = true := by
  have h1 := List.all_takeWhile (p := isWch) (l := l)
  have h2 : l.takeWhile isWch = l := (List.takeWhile_prefix isWch).eq_of_length h
  rw [h2, List.all_eq_true] at h1
  exact h1
theorem word_all {l : List UInt8} (h : ∀ c ∈ l, isWch c = true) : wLen l = l.length := by
  have : l.takeWhile isWch = l := by
    induction l with
    | nil => rfl
    | cons c r ih => rw [List.takeWhile_cons_of_pos (h c (by simp)), ih (fun x hx => h x (List.mem_cons_of_mem _ hx))]
  unfold wLen
  rw [this]
theorem low_all {l : List UInt8} : l.map low = l ↔ ∀ c ∈ l, isCap c = false := by
  induction l with
  | nil => simp
  | cons c r ih =>
    simp only [List.map_cons, List.cons.injEq, ih, low_same, List.mem_cons, forall_eq_or_imp]
theorem name_iff (l : List UInt8) : nameB l = true ↔ l ≠ [] ∧ l.length ≤ 32 ∧ headIs l isDig = false ∧ resB l = false ∧ ∀ c ∈ l, isWch c = true ∧ isCap c = false := by
  unfold nameB
  simp only [Bool.and_eq_true, Bool.not_eq_true', decide_eq_true_iff, List.all_eq_true, List.isEmpty_eq_false_iff]
  constructor
  · rintro ⟨⟨⟨⟨h1, h2⟩, h3⟩, h4⟩, h5⟩
    exact ⟨h1, h2, h3, h4, h5⟩
  · rintro ⟨h1, h2, h3, h4, h5⟩
    exact ⟨⟨⟨⟨h1, h2⟩, h3⟩, h4⟩, h5⟩
theorem name_nil : nameB [] = false := rfl
theorem isLet_noDig {c : UInt8} (h : isLet c = true) : isDig c = false := by
  rw [isLet_eq, decide_eq_true_iff] at h
  rw [isDig_eq]
  exact decide_eq_false (by omega)
theorem name_head {c : UInt8} {r : List UInt8} (h : isLet c = false) : nameB (c :: r) = false := by
  rw [← Bool.not_eq_true, name_iff]
  rintro ⟨-, -, h3, -, h5⟩
  have h6 := (h5 c (by simp)).1
  unfold isWch at h6
  rw [h] at h6
  simp only [headIs] at h3
  rw [h3] at h6
  cases h6
theorem name_word {c : UInt8} {r : List UInt8} (h : isLet c = true) : nameB (c :: r) = true ↔ wLen (c :: r) ≤ 32 ∧ wLen (c :: r) = (c :: r).length ∧ ((c :: r).take (wLen (c :: r))).map low = c :: r ∧ resB (c :: r) = false := by
  rw [name_iff]
  constructor
  · rintro ⟨-, h2, -, h4, h5⟩
    have hw := word_all (fun x hx => (h5 x hx).1)
    refine ⟨by omega, hw, ?_, h4⟩
    rw [hw, List.take_length]
    exact low_all.2 (fun x hx => (h5 x hx).2)
  · rintro ⟨h1, h2, h3, h4⟩
    rw [h2, List.take_length] at h3
    exact ⟨by simp, by omega, isLet_noDig h, h4, fun x hx => ⟨all_word h2 x hx, low_all.1 h3 x hx⟩⟩
set_option maxRecDepth 100000 in
set_option maxHeartbeats 2000000 in
theorem isName_any (s : ByteArray) (w : World) (hs : s.size ≤ 140737488355328) : Calls Tryz.prog 100 #[.string s] w fun e w' => e = .returned (.bool (nameB s.data.toList)) ∧ Below w.heap.size w w' := by
  by_cases h0 : s.size = 0
  · have he : s.data.toList = [] := List.eq_nil_of_length_eq_zero (by rw [size_list]; exact h0)
    have hemp : s.toList.isEmpty = true := by rw [Lib.toList_data, he]; rfl
    rw [he, name_nil]
    go_enter Tryz.func100, Tryz.ntmps100
    go_wp2_with fail
    go_ret
    exact ⟨rfl, Below.refl _ _⟩
  · have hpos : 0 < s.size := by omega
    have hcons : s.data.toList = s[0] :: s.data.toList.drop 1 := by
      rw [← list_get hpos]
      exact List.drop_eq_getElem_cons (by rw [size_list]; exact hpos)
    have hemp : s.toList.isEmpty = false := by rw [Lib.toList_data, hcons]; rfl
    have HL : Hid (∀ w, Calls Tryz.prog 125 #[.int .u8 s[0].toNat] w fun e w' => e = .returned (.bool (isLet s[0])) ∧ w' = w) := fun w => isLetter_any s[0] w
    cases hl : isLet s[0]
    · rw [hl] at HL
      have hN : nameB s.data.toList = false := by rw [hcons]; exact name_head hl
      rw [hN]
      clear hcons hN hl
      go_enter Tryz.func100, Tryz.ntmps100
      go_wp2_with fail
      refine (HL.out _).mono ?_
      rintro e w1 ⟨rfl, rfl⟩
      go_wp2_with fail
      go_ret
      exact ⟨rfl, Below.refl _ _⟩
    · rw [hl] at HL
      have HW : Hid (∀ w, Calls Tryz.prog 126 #[.string s] w fun e w' => e = .returned (tup (wordO s.data.toList)) ∧ Below w.heap.size w w') := fun w => word_any s w hs (by rw [hcons]; unfold wLen; rw [List.takeWhile_cons_of_pos (by simp [isWch, hl])]; simp)
      have HR : Hid (∀ w, Calls Tryz.prog 127 #[.string s] w fun e w' => e = .returned (.bool (resB s.data.toList)) ∧ w' = w) := fun w => reserved_any s w
      have HI : Hid (nameB s.data.toList = true ↔ wLen s.data.toList ≤ 32 ∧ wLen s.data.toList = s.size ∧ (s.data.toList.take (wLen s.data.toList)).map low = s.data.toList ∧ resB s.data.toList = false) := by
        have := name_word (c := s[0]) (r := s.data.toList.drop 1) hl
        rw [← hcons] at this
        rw [size_list] at this
        exact this
      clear hcons hl
      by_cases h32 : wLen s.data.toList ≤ 32
      · have HT : Hid (tup (wordO s.data.toList) = .tuple #[.agg #[.int .i64 1, .string (str ((s.data.toList.take (wLen s.data.toList)).map low)), .int .i64 0, .int .i64 0], .int .i64 (wLen s.data.toList)]) := by
          show _ = _
          unfold wordO
          rw [if_pos h32]
          rfl
        have HX : Hid (((str ((s.data.toList.take (wLen s.data.toList)).map low)).toList == s.toList) = true ↔ (s.data.toList.take (wLen s.data.toList)).map low = s.data.toList) := by
          show _ ↔ _
          rw [beq_iff_eq, Lib.toList_data, Lib.toList_data, str_list]
        rw [HT.out] at HW
        generalize str ((s.data.toList.take (wLen s.data.toList)).map low) = x at *
        generalize wLen s.data.toList = m at *
        generalize (s.data.toList.take m).map low = bs at *
        generalize hb : nameB s.data.toList = b at *
        generalize hr : resB s.data.toList = rb at *
        clear HT hb hr
        have finish : ∀ (W : World) (bv : Bool), bv = (decide (m = s.size) && ((x.toList == s.toList) && !rb)) → bv = b := by
          intro _ bv h
          rw [h]
          apply bool_iff
          rw [HI.out, Bool.and_eq_true, Bool.and_eq_true, decide_eq_true_iff, HX.out]
          cases rb <;> simp [h32]
        have HF := Lib.hid finish
        clear HI HX finish
        by_cases hm : m = s.size
        · have hmz : ((m : Int) == (s.size : Int)) = true := by simp [hm]
          cases hx : (x.toList == s.toList)
          all_goals cases rb
          all_goals
            go_enter Tryz.func100, Tryz.ntmps100
            go_wp2_with fail
            refine (HL.out _).mono ?_
            rintro e w1 ⟨rfl, rfl⟩
            go_wp2_with fail
            refine (HW.out _).mono ?_
            rintro e w2 ⟨rfl, b2⟩
            go_wp2_with fail
            try (refine (HR.out _).mono ?_; rintro e w3 ⟨rfl, rfl⟩; go_wp2_with fail)
            go_ret
            exact ⟨ret_bool (HF.out w1 _ (by simp [hm, hx])), b2.alloc b2.size _⟩
        · have hmz : ((m : Int) == (s.size : Int)) = false := by
            rw [beq_eq_false_iff_ne]
            omega
          go_enter Tryz.func100, Tryz.ntmps100
          go_wp2_with fail
          refine (HL.out _).mono ?_
          rintro e w1 ⟨rfl, rfl⟩
          go_wp2_with fail
          refine (HW.out _).mono ?_
          rintro e w2 ⟨rfl, b2⟩
          go_wp2_with fail
          go_ret
          exact ⟨ret_bool (HF.out w1 _ (by simp [hm])), b2.alloc b2.size _⟩
      · have HT : Hid (tup (wordO s.data.toList) = .tuple #[.agg #[.int .i64 0, .string ⟨#[]⟩, .int .i64 0, .int .i64 0], .int .i64 0]) := by
          show _ = _
          unfold wordO
          rw [if_neg h32]
          rfl
        have hN : nameB s.data.toList = false := by
          rw [← Bool.not_eq_true, HI.out]
          exact fun h => h32 h.1
        rw [HT.out] at HW
        rw [hN]
        have hmz : ((0 : Int) == (s.size : Int)) = false := by
          rw [beq_eq_false_iff_ne]
          omega
        clear HI HT hN h32
        go_enter Tryz.func100, Tryz.ntmps100
        go_wp2_with fail
        refine (HL.out _).mono ?_
        rintro e w1 ⟨rfl, rfl⟩
        go_wp2_with fail
        refine (HW.out _).mono ?_
        rintro e w2 ⟨rfl, b2⟩
        go_wp2_with fail
        go_ret
        exact ⟨rfl, b2.alloc b2.size _⟩
end Go.Proofs.YtcmbdghbicjljaaGreatDoor
