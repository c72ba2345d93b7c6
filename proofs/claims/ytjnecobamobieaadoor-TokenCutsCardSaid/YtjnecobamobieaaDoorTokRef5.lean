/- Contract of the reference's number. Condition: the text is no longer than 4096. -/
import Derived.Test.YtjnecobamobieaaDoorTokRef4
namespace Go.Proofs.YtjnecobamobieaaDoor
open Go.RowKit
/-- Where the reading of a number stands. -/
def NumAt (d : List UInt8) (acc m : Nat) : Prop := numV 0 d = (numV acc (d.drop m)).map fun p => (p.1, p.2 + m)
theorem NumAt.start (d : List UInt8) : NumAt d 0 0 := by
  unfold NumAt
  rw [List.drop_zero]
  cases numV 0 d <;> rfl
theorem numV_dig {acc : Nat} {c : UInt8} {r : List UInt8} (h : isDig c = true) : numV acc (c :: r) = if 9223372036854775808 < 10 * acc + (c.toNat - 48) then none else (numV (10 * acc + (c.toNat - 48)) r).map fun p => (p.1, p.2 + 1) := by
  conv => lhs; unfold numV
  rw [if_pos h]
theorem NumAt.over {d : List UInt8} {acc m : Nat} (h : NumAt d acc m) (hm : m < d.length) (hd : isDig d[m] = true) (ho : 9223372036854775808 < 10 * acc + (d[m].toNat - 48)) : numV 0 d = none := by
  unfold NumAt at h
  rw [h, List.drop_eq_getElem_cons hm, numV_dig hd, if_pos ho]
  rfl
theorem NumAt.next {d : List UInt8} {acc m : Nat} (h : NumAt d acc m) (hm : m < d.length) (hd : isDig d[m] = true) (ho : ¬ 9223372036854775808 < 10 * acc + (d[m].toNat - 48)) : NumAt d (10 * acc + (d[m].toNat - 48)) (m + 1) := by
  unfold NumAt at *
  rw [h, List.drop_eq_getElem_cons hm, numV_dig hd, if_neg ho]
  cases numV (10 * acc + (d[m].toNat - 48)) (d.drop (m + 1)) <;> simp
  omega
theorem NumAt.done {d : List UInt8} {acc m : Nat} (h : NumAt d acc m) (hd : isDig (d.getD m 0) = false) : numV 0 d = some (acc, m) := by
  unfold NumAt at h
  rw [h]
  by_cases hm : m < d.length
  · rw [List.getD_eq_getElem?_getD, List.getElem?_eq_getElem hm] at hd
    rw [List.drop_eq_getElem_cons hm]
    unfold numV
    rw [if_neg (by rw [show isDig d[m] = false from hd]; simp)]
    simp
  · rw [List.drop_eq_nil_of_le (by omega)]
    simp [numV]
/-- The token of a number. -/
def numR (d : List UInt8) : Option Tk := (numV 0 d).bind fun p => if headIs (d.drop p.2) isLet then none else some ⟨2, [], i64Of p.1, p.2⟩
theorem numR_none {d : List UInt8} (h : numV 0 d = none) : numR d = none := by
  unfold numR
  rw [h]
  rfl
theorem head_let (d : List UInt8) (m : Nat) : headIs (d.drop m) isLet = isLet (d.getD m 0) := by
  by_cases hm : m < d.length
  · rw [List.drop_eq_getElem_cons hm, List.getD_eq_getElem?_getD, List.getElem?_eq_getElem hm]
    rfl
  · rw [List.drop_eq_nil_of_le (by omega), List.getD_eq_getElem?_getD, List.getElem?_eq_none (by omega)]
    rfl
theorem numR_let {d : List UInt8} {acc m : Nat} (h : numV 0 d = some (acc, m)) (hl : isLet (d.getD m 0) = true) : numR d = none := by
  unfold numR
  rw [h]
  simp only [Option.bind_some]
  rw [head_let, if_pos hl]
theorem numR_some {d : List UInt8} {acc m : Nat} (h : numV 0 d = some (acc, m)) (hl : isLet (d.getD m 0) = false) : numR d = some ⟨2, [], i64Of acc, m⟩ := by
  unfold numR
  rw [h]
  simp only [Option.bind_some]
  rw [head_let, if_neg (by rw [hl]; decide)]
set_option maxRecDepth 100000 in
set_option maxHeartbeats 4000000 in
theorem rnumber_any (s : ByteArray) (i : Nat) (w : World) (hs : s.size ≤ 4096) (hi : i < s.size) : Calls Tryd.prog 42 #[.string s, .int .i64 i] w fun e w' => (∃ v, e = .returned v ∧ Told (numR (s.data.toList.drop i)) i v) ∧ Below w.heap.size w w' := by
  have HA := Lib.hid (fun k w => at_any s k w)
  have HDg := Lib.hid digit_any
  have HLt := Lib.hid letter_any
  have hdl : (s.data.toList.drop i).length = s.size - i := by rw [List.length_drop, size_list]
  have HDL := Lib.hid hdl
  have HGT : Hid (∀ m (h : i + m < s.size) (h2 : m < (s.data.toList.drop i).length), (s.data.toList.drop i)[m] = s[i + m]) := fun m h _ => drop_get h
  have HBD := Lib.hid (fun k => byteAt_drop s i k)
  clear hdl
  generalize s.data.toList.drop i = D at *
  have bz := zbox w
  have hb0 := (Below.refl w.heap.size w).alloc (Nat.le_refl _) (.cells #[.int .i64 0, .string ⟨#[]⟩, .int .i64 0, .int .i64 0] 30)
  go_enter Tryd.func42, Tryd.ntmps42
  go_wp2_with fail
  generalize w.alloc (.cells #[.int .i64 0, .string ⟨#[]⟩, .int .i64 0, .int .i64 0] 30) = W1 at *
  obtain ⟨c0, c1, c2, c3⟩ := bz.zcells
  obtain ⟨f0, f1, f2, f3⟩ := bz.free
  have HB0 := Lib.hid hb0
  clear bz hb0
  go_loopw [8, 7] (fun iv nv wr => ∃ (k : Nat) (n : Int), i ≤ k ∧ k ≤ s.size ∧ iv = .int .i64 k ∧ nv = .int .u64 n ∧ wr = W1 ∧ 0 ≤ n ∧ n ≤ 9223372036854775808 ∧ Hid (∃ acc : Nat, n = acc ∧ NumAt D acc (k - i))) (fun iv _ _ => s.size - (intOf iv).toNat)
  case atStart => exact ⟨i, 0, Nat.le_refl _, by omega, rfl, rfl, rfl, by omega, by omega, 0, rfl, (by rw [Nat.sub_self]; exact NumAt.start D)⟩
  case round =>
    obtain ⟨k, n, hik, hk, rfl, rfl, rfl, hn0, hn1, HN⟩ := hrel
    obtain ⟨acc, hna, hnum⟩ := HN.out
    have hbd := HBD.out (k - i)
    rw [show i + (k - i) = k by omega] at hbd
    have HA1 := Lib.hid (fun w => HA.out k w)
    by_cases hdig : isDig (byteAt s.data.toList k) = true
    · have hks : k < s.size := by
        rcases Nat.lt_or_ge k s.size with h | h
        · exact h
        · rw [byteAt_ge h] at hdig
          cases hdig
      rw [byteAt_lt hks] at HA1 hdig
      have HD1 := Lib.hid (fun w => HDg.out s[k] w)
      rw [hdig] at HD1
      have hkd : k - i < D.length := by rw [HDL.out]; omega
      have hgk := HGT.out (k - i) (by omega) hkd
      simp only [show i + (k - i) = k by omega] at hgk
      have hr := hdig
      rw [isDig_iff] at hr
      have w1 : IntKind.u8.wrap ((s[k].toNat : Int) - 48) = (s[k].toNat : Int) - 48 := by rw [IntKind.wrap_u8]; omega
      have w2 : IntKind.u64.wrap (9223372036854775808 - ((s[k].toNat : Int) - 48)) = 9223372036854775808 - ((s[k].toNat : Int) - 48) := by rw [IntKind.wrap_u64]; omega
      have w5 : IntKind.u64.wrap ((s[k].toNat : Int) - 48) = (s[k].toNat : Int) - 48 := by rw [IntKind.wrap_u64]; omega
      have w6 : IntKind.u64.wrap ((9223372036854775808 - ((s[k].toNat : Int) - 48)) / 10) = (9223372036854775808 - ((s[k].toNat : Int) - 48)) / 10 := by rw [IntKind.wrap_u64]; omega
      have w7 : (9223372036854775808 - ((s[k].toNat : Int) - 48)).tdiv 10 = (9223372036854775808 - ((s[k].toNat : Int) - 48)) / 10 := Int.tdiv_eq_ediv_of_nonneg (by omega)
      by_cases ho : 9223372036854775808 < 10 * acc + (s[k].toNat - 48)
      · have HT := Lib.hid (told_no (i := i) (numR_none (hnum.over hkd (by rw [hgk]; exact hdig) (by rw [hgk]; exact ho))) zT 0)
        have hgt : (9223372036854775808 - ((s[k].toNat : Int) - 48)) / 10 < n := by omega
        clear hnum hna HN hgk hbd hdig ho hr
        go_wp2_with fail
        refine (HA1.out _).mono ?_
        rintro e w2 ⟨rfl, rfl⟩
        go_wp2_with fail
        refine (HD1.out _).mono ?_
        rintro e w2 ⟨rfl, rfl⟩
        go_wp2_with fail
        exact bodyPost_ret (v := .tuple #[.agg #[.int .i64 0, .string ⟨#[]⟩, .int .i64 0, .int .i64 0], .int .i64 0, .bool false]) (by simp [results, Tryd.results42, go_sem, c0, c1, c2, c3]) rfl ⟨⟨_, rfl, HT.out⟩, Below.set4 HB0.out (Nat.le_refl _) _ _ _ _⟩
      · have HM : Hid (∃ acc : Nat, 10 * n + ((s[k].toNat : Int) - 48) = acc ∧ NumAt D acc (k + 1 - i)) := by
          have := hnum.next hkd (by rw [hgk]; exact hdig) (by rw [hgk]; exact ho)
          rw [hgk] at this
          exact ⟨10 * acc + (s[k].toNat - 48), by omega, by rw [show k + 1 - i = k - i + 1 by omega]; exact this⟩
        have hle : ¬ ((9223372036854775808 - ((s[k].toNat : Int) - 48)) / 10 < n) := by omega
        have hb1 : 0 ≤ 10 * n + ((s[k].toNat : Int) - 48) := by omega
        have hb2 : 10 * n + ((s[k].toNat : Int) - 48) ≤ 9223372036854775808 := by omega
        have w3 : IntKind.u64.wrap (10 * n) = 10 * n := by rw [IntKind.wrap_u64]; omega
        have w4 : IntKind.u64.wrap (10 * n + ((s[k].toNat : Int) - 48)) = 10 * n + ((s[k].toNat : Int) - 48) := by rw [IntKind.wrap_u64]; omega
        clear hnum hna HN hgk hbd hdig ho hr
        go_wp2_with fail
        refine (HA1.out _).mono ?_
        rintro e w2 ⟨rfl, rfl⟩
        go_wp2_with fail
        refine (HD1.out _).mono ?_
        rintro e w2 ⟨rfl, rfl⟩
        go_wp2_with fail
        go_roundw
        case measure => simp [intOf]; omega
        case rel => exact ⟨k + 1, 10 * n + ((s[k].toNat : Int) - 48), by omega, by omega, by go_num, rfl, trivial, hb1, hb2, HM⟩
    · have hdf : isDig (byteAt s.data.toList k) = false := by simpa using hdig
      have hnv := hnum.done (by rw [← hbd]; exact hdf)
      have HD1 := Lib.hid (fun w => HDg.out (byteAt s.data.toList k) w)
      rw [hdf] at HD1
      have HL1 := Lib.hid (fun w => HLt.out (byteAt s.data.toList k) w)
      have hw : IntKind.i64.wrap n = i64Of acc := by rw [hna]; exact wrap_i64 (by omega)
      cases hl : isLet (byteAt s.data.toList k)
      · have HT := told_yes (i := i) (k := k) (numR_some hnv (by rw [← hbd]; exact hl)) (by show k = i + (k - i); omega)
        simp only [show str [] = ⟨#[]⟩ from rfl] at HT
        have HT := Lib.hid HT
        rw [hl] at HL1
        clear hnum hna HN hbd hdig hdf hnv hl
        generalize byteAt s.data.toList k = cc at *
        generalize i64Of acc = v at *
        go_wp2_with fail
        refine (HA1.out _).mono ?_
        rintro e w2 ⟨rfl, rfl⟩
        go_wp2_with fail
        refine (HD1.out _).mono ?_
        rintro e w2 ⟨rfl, rfl⟩
        go_wp2_with fail
        refine (HA1.out _).mono ?_
        rintro e w2 ⟨rfl, rfl⟩
        go_wp2_with fail
        refine (HL1.out _).mono ?_
        rintro e w2 ⟨rfl, rfl⟩
        go_wp2_with fail
        exact bodyPost_ret (v := .tuple #[.agg #[.int .i64 2, .string ⟨#[]⟩, .int .i64 v, .int .i64 i], .int .i64 k, .bool true]) (by simp [results, Tryd.results42, go_sem, c0, c1, c2, c3]) rfl ⟨⟨_, rfl, HT.out⟩, Below.set4 HB0.out (Nat.le_refl _) _ _ _ _⟩
      · have HT := Lib.hid (told_no (i := i) (numR_let hnv (by rw [← hbd]; exact hl)) ⟨2, [], i64Of acc, i⟩ k)
        unfold T.val at HT
        simp only [show str [] = ⟨#[]⟩ from rfl] at HT
        rw [hl] at HL1
        clear hnum hna HN hbd hdig hdf hnv hl
        generalize byteAt s.data.toList k = cc at *
        generalize i64Of acc = v at *
        go_wp2_with fail
        refine (HA1.out _).mono ?_
        rintro e w2 ⟨rfl, rfl⟩
        go_wp2_with fail
        refine (HD1.out _).mono ?_
        rintro e w2 ⟨rfl, rfl⟩
        go_wp2_with fail
        refine (HA1.out _).mono ?_
        rintro e w2 ⟨rfl, rfl⟩
        go_wp2_with fail
        refine (HL1.out _).mono ?_
        rintro e w2 ⟨rfl, rfl⟩
        go_wp2_with fail
        exact bodyPost_ret (v := .tuple #[.agg #[.int .i64 2, .string ⟨#[]⟩, .int .i64 v, .int .i64 i], .int .i64 k, .bool false]) (by simp [results, Tryd.results42, go_sem, c0, c1, c2, c3]) rfl ⟨⟨_, rfl, HT.out⟩, Below.set4 HB0.out (Nat.le_refl _) _ _ _ _⟩
end Go.Proofs.YtjnecobamobieaaDoor
