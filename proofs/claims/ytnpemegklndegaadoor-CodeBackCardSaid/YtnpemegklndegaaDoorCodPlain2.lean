/- Plain facts (no program): what was written of a value that may be is read as what it was, and what is read is written so again; rows too. No condition. -/
import Derived.Test.YtnpemegklndegaaDoorCodPlain
namespace Go.Proofs.YtnpemegklndegaaDoor
theorem emp_eq {s : ByteArray} (h : emp s = true) : s = ⟨#[]⟩ := by
  unfold emp at h
  rw [Lib.toList_data] at h
  cases s with
  | mk a => simpa using h
theorem emp_nil : emp ⟨#[]⟩ = true := by simp [emp, Lib.toList_data]
/-- The values that may be, kind by kind. -/
theorem may_cases {v : V} (h : v.chk = 0) : v = ⟨0, 0, ⟨#[]⟩⟩ ∨ v = ⟨1, 0, ⟨#[]⟩⟩ ∨ v = ⟨1, 1, ⟨#[]⟩⟩ ∨ (∃ i, v = ⟨2, i, ⟨#[]⟩⟩) ∨ (∃ s, v = ⟨3, 0, s⟩) ∨ (∃ s, v = ⟨4, 0, s⟩) := by
  obtain ⟨k, i, s⟩ := v
  have h2 : mayB k i s = true := by
    unfold V.chk chkI at h
    simp only at h
    split at h
    · assumption
    · simp at h
  unfold mayB at h2
  by_cases h0 : k = 0
  · subst h0
    simp at h2
    rw [h2.1, emp_eq h2.2]
    simp
  by_cases h1 : k = 1
  · subst h1
    simp at h2
    rw [emp_eq h2.2]
    rcases h2.1 with rfl | rfl <;> simp
  by_cases h3 : k = 2
  · subst h3
    simp at h2
    rw [emp_eq h2]
    simp
  by_cases h4 : k = 3
  · subst h4
    simp at h2
    subst h2
    simp
  by_cases h5 : k = 4
  · subst h5
    simp at h2
    subst h2
    simp
  simp [h0, h1, h3, h4, h5] at h2
theorem may0 : (⟨0, 0, ⟨#[]⟩⟩ : V).chk = 0 := by simp [V.chk, chkI, mayB, emp_nil]
theorem may1 {i : Int} (h : i = 0 ∨ i = 1) : (⟨1, i, ⟨#[]⟩⟩ : V).chk = 0 := by rcases h with rfl | rfl <;> simp [V.chk, chkI, mayB, emp_nil]
theorem may2 (i : Int) : (⟨2, i, ⟨#[]⟩⟩ : V).chk = 0 := by simp [V.chk, chkI, mayB, emp_nil]
theorem may3 (s : ByteArray) : (⟨3, 0, s⟩ : V).chk = 0 := by simp [V.chk, chkI, mayB]
theorem may4 (s : ByteArray) : (⟨4, 0, s⟩ : V).chk = 0 := by simp [V.chk, chkI, mayB]
def V.okv (v : V) : Prop := v.chk = 0 ∧ -9223372036854775808 ≤ v.i ∧ v.i ≤ 9223372036854775807
theorem rTxt_wTxt (f : Bool) (l rest : List UInt8) (h : l.length ≤ 2147483647) : rTxt f (wTxt f l ++ rest) = some (l, (wTxt f l).length) := by
  unfold rTxt wTxt
  cases f
  · have h4 : (be l.length 4).length = 4 := be_length _ _
    have h5 : ((be l.length 4 ++ l) ++ rest).take 4 = be l.length 4 := by
      rw [List.append_assoc, List.take_append_of_le_length (by omega)]
      rw [List.take_of_length_le (by omega)]
    have h6 : unbe (be l.length 4) = l.length := unbe_be _ _ (by omega)
    simp only [Bool.false_eq_true, if_false, h5, h6]
    rw [if_pos ⟨by simp [be_length], h, by simp [be_length]⟩]
    simp only [Option.some.injEq, Prod.mk.injEq]
    constructor
    · rw [List.append_assoc, List.drop_append_of_le_length (by omega), List.drop_of_length_le (by omega)]
      simp
    · simp [be_length]
  · simp only [if_true]
    rw [List.append_assoc]
    have := unesc_esc l rest
    simp only [List.cons_append, List.nil_append]
    rw [this]
    simp
theorem rVal_wVal (f : Bool) (v : V) (rest : List UInt8) (h : v.okv) (hs : v.s.size ≤ 2147483647) : rVal f (wVal f v ++ rest) = some (v, (wVal f v).length) := by
  obtain ⟨h1, h2, h3⟩ := h
  rcases may_cases h1 with rfl | rfl | rfl | ⟨i, rfl⟩ | ⟨s, rfl⟩ | ⟨s, rfl⟩
  · simp [wVal, wOf, rVal, rOf]
  · simp [wVal, wOf, rVal, rOf]
  · simp [wVal, wOf, rVal, rOf]
  · have hb : (be (trn f (toU i)) 8).length = 8 := be_length _ _
    have e : (be (trn f (toU i)) 8 ++ rest).take 8 = be (trn f (toU i)) 8 := by
      rw [List.take_append_of_le_length (by omega), List.take_of_length_le (by omega)]
    have hu := toU_lt i
    simp only [wVal, wOf, rVal, rOf, List.cons_append]
    simp only [show UInt8.ofNat ((2 : Int) % 256).toNat = 2 from rfl, show ¬ ((2 : UInt8) = 0) by decide, show ¬ ((2 : UInt8) = 1) by decide, show ¬ ((2 : Int) = 1) by decide, if_false, if_true]
    rw [if_pos (by simp [hb]), e, unbe_be _ _ (by have := trn_lt f _ hu; omega), trn_trn f _ hu, ofU_toU i h2 h3]
    simp [hb]
  · have ht := rTxt_wTxt f s.data.toList rest (by simpa using hs)
    simp only [wVal, wOf, rVal, rOf, List.cons_append]
    simp only [show UInt8.ofNat ((3 : Int) % 256).toNat = 3 from rfl, show ¬ ((3 : UInt8) = 0) by decide, show ¬ ((3 : UInt8) = 1) by decide, show ¬ ((3 : UInt8) = 2) by decide, show ¬ ((3 : Int) = 1) by decide, show ¬ ((3 : Int) = 2) by decide, if_false, if_true, true_or]
    rw [ht]
    simp
    omega
  · have ht := rTxt_wTxt f s.data.toList rest (by simpa using hs)
    simp only [wVal, wOf, rVal, rOf, List.cons_append]
    simp only [show UInt8.ofNat ((4 : Int) % 256).toNat = 4 from rfl, show ¬ ((4 : UInt8) = 0) by decide, show ¬ ((4 : UInt8) = 1) by decide, show ¬ ((4 : UInt8) = 2) by decide, show ¬ ((4 : UInt8) = 3) by decide, show ¬ ((4 : Int) = 1) by decide, show ¬ ((4 : Int) = 2) by decide, show ¬ ((4 : Int) = 3) by decide, if_false, if_true, or_true]
    rw [ht]
    simp
    omega
theorem wTxt_rTxt (f : Bool) (l p : List UInt8) (n : Nat) (h : rTxt f l = some (p, n)) : n ≤ l.length ∧ wTxt f p = l.take n := by
  unfold rTxt at h
  unfold wTxt
  cases f
  · simp only [Bool.false_eq_true, if_false] at h ⊢
    split at h
    · rename_i hc
      simp only [Option.some.injEq, Prod.mk.injEq] at h
      obtain ⟨rfl, rfl⟩ := h
      have hl : ((l.drop 4).take (unbe (l.take 4))).length = unbe (l.take 4) := by simp; omega
      have h4 : (l.take 4).length = 4 := by simp; omega
      refine ⟨by omega, ?_⟩
      rw [hl]
      have := be_unbe (l.take 4)
      rw [h4] at this
      rw [this, List.take_add]
    · cases h
  · simp only [if_true] at h ⊢
    exact esc_unesc l p n h
theorem wVal_rVal (f : Bool) (l : List UInt8) (v : V) (n : Nat) (h : rVal f l = some (v, n)) : 0 < n ∧ n ≤ l.length ∧ wVal f v = l.take n ∧ v.okv ∧ v.s.size ≤ l.length := by
  cases l with
  | nil => simp [rVal] at h
  | cons k l =>
    change rOf f k l = _ at h
    unfold rOf at h
    by_cases h0 : k = 0
    · rw [if_pos h0] at h
      simp only [Option.some.injEq, Prod.mk.injEq] at h
      obtain ⟨rfl, rfl⟩ := h
      exact ⟨by omega, by simp, by simp [wVal, wOf, h0], ⟨may0, by simp, by simp⟩, by simp [ByteArray.size]⟩
    rw [if_neg h0] at h
    by_cases h1 : k = 1
    · rw [if_pos h1] at h
      split at h
      · rename_i hc
        simp only [Option.some.injEq, Prod.mk.injEq] at h
        obtain ⟨rfl, rfl⟩ := h
        cases l with
        | nil => simp at hc
        | cons b l =>
          simp only [List.getD_cons_zero] at hc ⊢
          refine ⟨by omega, by simp, ?_, ⟨may1 (by omega), by simp, by show ((b.toNat : Nat) : Int) ≤ _; omega⟩, by simp [ByteArray.size]⟩
          simp only [wVal, wOf, h1]
          rw [show (((b.toNat : Nat) : Int) % 256).toNat = b.toNat by have := b.toNat_lt; omega]
          simp
      · cases h
    rw [if_neg h1] at h
    by_cases h2 : k = 2
    · rw [if_pos h2] at h
      split at h
      · rename_i hc
        simp only [Option.some.injEq, Prod.mk.injEq] at h
        obtain ⟨rfl, rfl⟩ := h
        have h8 : (l.take 8).length = 8 := by simp; omega
        have hlt := unbe_lt (l.take 8)
        rw [h8] at hlt
        have hf := ofU_fits (trn f (unbe (l.take 8))) (trn_lt f _ (by omega))
        refine ⟨by omega, by simp; omega, ?_, ⟨may2 _, hf.1, hf.2⟩, by simp [ByteArray.size]⟩
        simp only [wVal, wOf, h2]
        rw [toU_ofU _ (trn_lt f _ (by omega)), trn_trn f _ (by omega)]
        have := be_unbe (l.take 8)
        rw [h8] at this
        rw [if_neg (by decide), if_pos trivial, this]
        simp
      · cases h
    rw [if_neg h2] at h
    split at h
    · rename_i hk
      simp only [Option.map_eq_some_iff] at h
      obtain ⟨⟨p, m⟩, hp, h⟩ := h
      simp only [Prod.mk.injEq] at h
      obtain ⟨rfl, rfl⟩ := h
      obtain ⟨a1, a2⟩ := wTxt_rTxt f l p m hp
      have hpl : p.length ≤ l.length := by
        have : (wTxt f p).length ≤ l.length := by rw [a2]; simp; omega
        have h3 : p.length ≤ (wTxt f p).length := by
          unfold wTxt
          cases f
          · simp
          · simp only [if_true, List.length_append]
            have : p.length ≤ (esc p).length := by
              clear hp a2 this
              induction p with
              | nil => simp
              | cons c p ih => rw [esc_cons, List.length_append, List.length_cons]; split <;> simp <;> omega
            omega
        omega
      have hok : (⟨(k.toNat : Int), 0, ⟨p.toArray⟩⟩ : V).chk = 0 := by
        rcases hk with rfl | rfl
        · exact may3 _
        · exact may4 _
      refine ⟨by omega, by simp; omega, ?_, ⟨hok, by simp, by simp⟩, by simp [ByteArray.size]; omega⟩
      rw [Nat.add_comm 1 m, List.take_succ_cons, ← a2]
      rcases hk with rfl | rfl <;> simp [wVal, wOf]
    · cases h
end Go.Proofs.YtnpemegklndegaaDoor
