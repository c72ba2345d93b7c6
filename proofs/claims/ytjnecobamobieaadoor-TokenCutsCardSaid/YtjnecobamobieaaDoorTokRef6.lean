/- Contract of the reference's blob. Condition: the text is no longer than 4096. -/
import Derived.Test.YtjnecobamobieaaDoorTokRef5
namespace Go.Proofs.YtjnecobamobieaaDoor
open Go.RowKit
/-- Where the reading of a blob stands. -/
def BlbAt (d acc : List UInt8) (m : Nat) : Prop := blbR (d.drop 2) = (blbR (d.drop m)).map fun p => (acc ++ p.1, p.2 + (m - 2))
theorem BlbAt.start (d : List UInt8) : BlbAt d [] 2 := by
  unfold BlbAt
  cases blbR (d.drop 2) <;> rfl
theorem blbR_cons {c : UInt8} {r : List UInt8} (h : c ≠ 39) : blbR (c :: r) = match r with
  | [] => none
  | d :: r' => (hexV c).bind fun h => (hexV d).bind fun g => (blbR r').map fun p => (UInt8.ofNat (16 * h + g) :: p.1, p.2 + 2) := by
  cases r with
  | nil => simp [blbR, h]
  | cons d r' =>
    conv => lhs; unfold blbR
    rw [if_neg h]
theorem BlbAt.done {d acc : List UInt8} {m : Nat} (h : BlbAt d acc m) (h2 : 2 ≤ m) (hm : m < d.length) (hc : d[m] = 39) : blbR (d.drop 2) = some (acc, m - 1) := by
  unfold BlbAt at h
  rw [h, List.drop_eq_getElem_cons hm, hc]
  have : blbR (39 :: d.drop (m + 1)) = some ([], 1) := by
    cases d.drop (m + 1) <;> simp [blbR]
  rw [this]
  simp
  omega
theorem BlbAt.over {d acc : List UInt8} {m : Nat} (h : BlbAt d acc m) (hm : d.length ≤ m) : blbR (d.drop 2) = none := by
  unfold BlbAt at h
  rw [h, List.drop_eq_nil_of_le hm]
  rfl
theorem BlbAt.bad {d acc : List UInt8} {m : Nat} (h : BlbAt d acc m) (hm : m < d.length) (hc : d[m] ≠ 39) (hb : hexV d[m] = none ∨ hexV (d.getD (m + 1) 0) = none) : blbR (d.drop 2) = none := by
  unfold BlbAt at h
  rw [h, List.drop_eq_getElem_cons hm, blbR_cons hc]
  by_cases hm2 : m + 1 < d.length
  · rw [List.drop_eq_getElem_cons hm2]
    rw [List.getD_eq_getElem?_getD, List.getElem?_eq_getElem hm2] at hb
    simp only
    rcases hb with hb | hb
    · rw [hb]
      rfl
    · rw [show hexV d[m + 1] = none from hb]
      cases hexV d[m] <;> rfl
  · rw [List.drop_eq_nil_of_le (by omega)]
    rfl
theorem BlbAt.next {d acc : List UInt8} {m a b : Nat} (h : BlbAt d acc m) (h2 : 2 ≤ m) (hm : m < d.length) (hc : d[m] ≠ 39) (ha : hexV d[m] = some a) (hb : hexV (d.getD (m + 1) 0) = some b) : BlbAt d (acc ++ [UInt8.ofNat (16 * a + b)]) (m + 2) := by
  unfold BlbAt at *
  have hm2 : m + 1 < d.length := by
    rcases Nat.lt_or_ge (m + 1) d.length with h1 | h1
    · exact h1
    · rw [List.getD_eq_getElem?_getD, List.getElem?_eq_none h1] at hb
      cases hb
  rw [List.getD_eq_getElem?_getD, List.getElem?_eq_getElem hm2] at hb
  rw [h, List.drop_eq_getElem_cons hm, blbR_cons hc, List.drop_eq_getElem_cons hm2]
  simp only
  rw [ha, show hexV d[m + 1] = some b from hb]
  simp only [Option.bind_some]
  rw [show m + 1 + 1 = m + 2 from rfl]
  cases blbR (d.drop (m + 2)) <;> simp
  omega
theorem hexI_none {c : UInt8} (h : hexV c = none) : hexI c = -1 := by unfold hexI; rw [h]
theorem hexI_some {c : UInt8} {a : Nat} (h : hexV c = some a) : hexI c = a := by unfold hexI; rw [h]
theorem blobO_yes {l acc : List UInt8} {k : Nat} (h : blbR (l.drop 2) = some (acc, k)) : blobO l = some ⟨4, acc, 0, k + 2⟩ := by
  unfold blobO
  rw [h]
  rfl
theorem blobO_no {l : List UInt8} (h : blbR (l.drop 2) = none) : blobO l = none := by
  unfold blobO
  rw [h]
  rfl
set_option maxRecDepth 100000 in
set_option maxHeartbeats 4000000 in
theorem rblob_any (s : ByteArray) (i : Nat) (w : World) (hs : s.size ≤ 4096) (hi : i + 2 ≤ s.size) : Calls Tryd.prog 40 #[.string s, .int .i64 i] w fun e w' => (∃ v, e = .returned v ∧ Told (blobO (s.data.toList.drop i)) i v) ∧ Below w.heap.size w w' := by
  have HA : Hid (∀ (k : Nat) (w : World), Calls Tryd.prog 39 #[.string s, .int .i64 ((k : Int) + 1)] w fun e w' => e = .returned (.int .u8 (byteAt s.data.toList (k + 1)).toNat) ∧ w' = w) := fun k w => at_any s (k + 1) w
  have HH := Lib.hid hex_any
  have hdl : (s.data.toList.drop i).length = s.size - i := by rw [List.length_drop, size_list]
  have HDL := Lib.hid hdl
  have HGT : Hid (∀ m (h : i + m < s.size) (h2 : m < (s.data.toList.drop i).length), (s.data.toList.drop i)[m] = s[i + m]) := fun m h _ => drop_get h
  have HBD := Lib.hid (fun k => byteAt_drop s i k)
  have HBY := Lib.hid (fun acc k h => blobO_yes (l := s.data.toList.drop i) (acc := acc) (k := k) h)
  have HBN := Lib.hid (fun h => blobO_no (l := s.data.toList.drop i) h)
  have HST := Lib.hid (BlbAt.start (s.data.toList.drop i))
  clear hdl
  generalize s.data.toList.drop i = D at *
  have bz := zbox w
  have hb0 := (Below.refl w.heap.size w).alloc (Nat.le_refl _) (.cells #[.int .i64 0, .string ⟨#[]⟩, .int .i64 0, .int .i64 0] 30)
  go_enter Tryd.func40, Tryd.ntmps40
  go_wp2_with fail
  generalize w.alloc (.cells #[.int .i64 0, .string ⟨#[]⟩, .int .i64 0, .int .i64 0] 30) = W1 at *
  have HB0 := Lib.hid hb0
  have HZ := Lib.hid bz
  clear bz hb0
  go_loopw [8, 7] (fun iv ov wr => ∃ (k : Nat) (x : ByteArray), i + 2 ≤ k ∧ k ≤ s.size + 1 ∧ iv = .int .i64 k ∧ ov = .string x ∧ x.size ≤ k ∧ Hid (Below W1.heap.size W1 wr) ∧ Hid (BlbAt D x.data.toList (k - i))) (fun iv _ _ => s.size + 2 - (intOf iv).toNat)
  case atStart => exact ⟨i + 2, ⟨#[]⟩, Nat.le_refl _, by omega, by simp, rfl, Nat.zero_le _, Below.refl _ _, (by show BlbAt _ _ _; rw [show i + 2 - i = 2 by omega]; exact HST.out)⟩
  case round =>
    obtain ⟨k, x, hik, hk, rfl, rfl, hxz, HB, HT⟩ := hrel
    have bzr := HZ.out.later HB.out
    have hB1 := HB0.out.trans (HB.out.mono HB0.out.size)
    have hwz := HB.out.size
    by_cases hlt : k < s.size
    · have hkd : k - i < D.length := by rw [HDL.out]; omega
      have hgk := HGT.out (k - i) (by omega) hkd
      simp only [show i + (k - i) = k by omega] at hgk
      have hkz : (k : Int) < (s.size : Int) := by omega
      by_cases hq : s[k] = 39
      · have hq1 : (((s[k].toNat : Nat) : Int) == 39) = true := by rw [hq]; rfl
        have HD := told_yes (i := i) (k := k + 1) (HBY.out _ _ (HT.out.done (by omega) hkd (hgk.trans hq))) (by show k + 1 = i + (k - i - 1 + 2); omega)
        rw [Int.natCast_add, list_str] at HD
        have HD := Lib.hid HD
        obtain ⟨c0, c1, c2, c3⟩ := bzr.zcells
        obtain ⟨f0, f1, f2, f3⟩ := bzr.free
        have HB1 := Lib.hid hB1
        clear hq hgk HT bzr HB hB1
        go_wp2_with fail
        exact bodyPost_ret (v := .tuple #[.agg #[.int .i64 4, .string x, .int .i64 0, .int .i64 i], .int .i64 ((k : Int) + 1), .bool true]) (by simp [results, Tryd.results40, go_sem, c0, c1, c2, c3]) rfl ⟨⟨_, rfl, HD.out⟩, Below.set4 HB1.out (Nat.le_refl _) _ _ _ _⟩
      · have hq1 : (((s[k].toNat : Nat) : Int) == 39) = false := by
          rw [beq_eq_false_iff_ne]
          intro h
          exact hq (UInt8.toNat_inj.1 (by show s[k].toNat = 39; omega))
        have hbd := HBD.out (k - i + 1)
        rw [show i + (k - i + 1) = k + 1 by omega] at hbd
        have HA1 := Lib.hid (fun w => HA.out k w)
        have HH1 := Lib.hid (fun w => HH.out s[k] w)
        have HH2 := Lib.hid (fun w => HH.out (byteAt s.data.toList (k + 1)) w)
        by_cases hbad : hexV s[k] = none ∨ hexV (byteAt s.data.toList (k + 1)) = none
        · have HD := Lib.hid (told_no (i := i) (HBN.out (HT.out.bad hkd (by rw [hgk]; exact hq) (by rw [hgk, ← hbd]; exact hbad))) zT 0)
          have hneg : hexI s[k] < 0 ∨ (0 ≤ hexI s[k] ∧ hexI (byteAt s.data.toList (k + 1)) < 0) := by
            cases h1 : hexV s[k] with
            | none => exact Or.inl (by rw [hexI_none h1]; omega)
            | some a =>
              rcases hbad with h2 | h2
              · rw [h1] at h2; cases h2
              · exact Or.inr ⟨by rw [hexI_some h1]; omega, by rw [hexI_none h2]; omega⟩
          obtain ⟨c0, c1, c2, c3⟩ := bzr.zcells
          obtain ⟨f0, f1, f2, f3⟩ := bzr.free
          have HB1 := Lib.hid hB1
          clear hq hgk HT bzr HB hB1 hbad hbd
          generalize hexI s[k] = y1 at *
          generalize hexI (byteAt s.data.toList (k + 1)) = y2 at *
          generalize byteAt s.data.toList (k + 1) = bb at *
          rcases hneg with hneg | ⟨hp, hneg⟩
          all_goals
            go_wp2_with fail
            refine (HH1.out _).mono ?_
            rintro e w2 ⟨rfl, rfl⟩
            go_wp2_with fail
            refine (HA1.out _).mono ?_
            rintro e w2 ⟨rfl, rfl⟩
            go_wp2_with fail
            refine (HH2.out _).mono ?_
            rintro e w2 ⟨rfl, rfl⟩
            go_wp2_with fail
            exact bodyPost_ret (v := .tuple #[.agg #[.int .i64 0, .string ⟨#[]⟩, .int .i64 0, .int .i64 0], .int .i64 0, .bool false]) (by simp [results, Tryd.results40, go_sem, c0, c1, c2, c3]) rfl ⟨⟨_, rfl, HD.out⟩, Below.set4 HB1.out (Nat.le_refl _) _ _ _ _⟩
        · obtain ⟨a, ha⟩ : ∃ a, hexV s[k] = some a := Option.ne_none_iff_exists'.1 (fun h => hbad (Or.inl h))
          obtain ⟨b, hb⟩ : ∃ b, hexV (byteAt s.data.toList (k + 1)) = some b := Option.ne_none_iff_exists'.1 (fun h => hbad (Or.inr h))
          have ha16 := hexV_lt ha
          have hb16 := hexV_lt hb
          have hk2 : k + 1 < s.size := by
            rcases Nat.lt_or_ge (k + 1) s.size with h | h
            · exact h
            · rw [byteAt_ge h] at hb
              cases hb
          have HD := HT.out.next (by omega) hkd (by rw [hgk]; exact hq) (by rw [hgk]; exact ha) (by rw [← hbd]; exact hb)
          have HD2 : Hid (BlbAt D (x ++ str [UInt8.ofNat (16 * a + b)]).data.toList (k + 2 - i)) := by
            show BlbAt _ _ _
            rw [app_list, str_list, show k + 2 - i = k - i + 2 by omega]
            exact HD
          rw [hexI_some ha] at HH1
          rw [hexI_some hb] at HH2
          have hw : IntKind.u8.wrap (16 * (a : Int) + (b : Int)) = 16 * (a : Int) + (b : Int) := by rw [IntKind.wrap_u8]; omega
          have hM := one_str (UInt8.ofNat (16 * a + b)) (16 * (a : Int) + (b : Int)) (by simp; omega) wr
          have hzs : (str [UInt8.ofNat (16 * a + b)]).size = 1 := rfl
          have HBA := Lib.hid (fun o => HB.out.alloc hwz o)
          have hp1 : (0 : Int) ≤ (a : Int) := by omega
          have hp2 : (0 : Int) ≤ (b : Int) := by omega
          clear hq hgk HT HD bzr HB hB1 hbad hbd ha hb
          generalize str [UInt8.ofNat (16 * a + b)] = z at *
          generalize byteAt s.data.toList (k + 1) = bb at *
          have hcat : ¬ (9223372036854775807 < x.size + z.size) := by omega
          go_wp2_with fail
          refine (HH1.out _).mono ?_
          rintro e w2 ⟨rfl, rfl⟩
          go_wp2_with fail
          refine (HA1.out _).mono ?_
          rintro e w2 ⟨rfl, rfl⟩
          go_wp2_with fail
          refine (HH2.out _).mono ?_
          rintro e w2 ⟨rfl, rfl⟩
          go_wp2_with fail
          go_roundw
          case measure => simp [intOf]; omega
          case rel => exact ⟨k + 2, x ++ z, by omega, by omega, by go_num, rfl, by rw [size_app]; omega, HBA.out _, HD2⟩
    · have HD := Lib.hid (told_no (i := i) (HBN.out (HT.out.over (by rw [HDL.out]; omega))) zT 0)
      have hkz : ¬ ((k : Int) < (s.size : Int)) := by omega
      obtain ⟨c0, c1, c2, c3⟩ := bzr.zcells
      obtain ⟨f0, f1, f2, f3⟩ := bzr.free
      have HB1 := Lib.hid hB1
      clear HT bzr HB hB1
      go_wp2_with fail
      exact bodyPost_ret (v := .tuple #[.agg #[.int .i64 0, .string ⟨#[]⟩, .int .i64 0, .int .i64 0], .int .i64 0, .bool false]) (by simp [results, Tryd.results40, go_sem, c0, c1, c2, c3]) rfl ⟨⟨_, rfl, HD.out⟩, Below.set4 HB1.out (Nat.le_refl _) _ _ _ _⟩
end Go.Proofs.YtjnecobamobieaaDoor
