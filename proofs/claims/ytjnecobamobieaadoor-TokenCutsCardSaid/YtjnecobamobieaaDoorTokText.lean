/- Contract of token's text: the token of a text, its quotes undone, or none, if it doesn't end. Condition: the text is no longer than 4096. -/
import Derived.Test.YtjnecobamobieaaDoorTokWord
import Derived.Test.YtjnecobamobieaaDoorTokWrote
namespace Go.Proofs.YtjnecobamobieaaDoor
open Go.RowKit
/-- Where the reading of a text stands: what was read of it, and where. -/
def TxtAt (l : List UInt8) (acc : List UInt8) (k : Nat) : Prop := txtR (l.drop 1) = (txtR (l.drop k)).map fun p => (acc ++ p.1, p.2 + (k - 1))
theorem TxtAt.start (l : List UInt8) : TxtAt l [] 1 := by
  unfold TxtAt
  cases txtR (l.drop 1) <;> simp
theorem txtR_other {c : UInt8} {r : List UInt8} (h : c ≠ 39) : txtR (c :: r) = (txtR r).map fun p => (c :: p.1, p.2 + 1) := by
  conv => lhs; unfold txtR
  rw [if_neg h]
theorem txtR_two (r : List UInt8) : txtR (39 :: 39 :: r) = (txtR r).map fun p => (39 :: p.1, p.2 + 2) := by
  conv => lhs; unfold txtR
  rw [if_pos rfl]
  simp
theorem txtR_end {r : List UInt8} (h : r.head? ≠ some 39) : txtR (39 :: r) = some ([], 1) := by
  conv => lhs; unfold txtR
  rw [if_pos rfl]
  cases r with
  | nil => rfl
  | cons d r =>
    have : d ≠ 39 := by simpa using h
    simp [this]
theorem TxtAt.other {l acc : List UInt8} {k : Nat} (h : TxtAt l acc k) (h1 : 1 ≤ k) (hk : k < l.length) (hc : l[k] ≠ 39) : TxtAt l (acc ++ [l[k]]) (k + 1) := by
  unfold TxtAt at *
  rw [h, List.drop_eq_getElem_cons hk, txtR_other hc]
  cases txtR (l.drop (k + 1)) <;> simp
  omega
theorem TxtAt.two {l acc : List UInt8} {k : Nat} (h : TxtAt l acc k) (h1 : 1 ≤ k) (hk : k + 1 < l.length) (hc : l[k] = 39) (hd : l[k + 1] = 39) : TxtAt l (acc ++ [39]) (k + 2) := by
  unfold TxtAt at *
  rw [h, List.drop_eq_getElem_cons (by omega), hc, List.drop_eq_getElem_cons hk, hd, txtR_two]
  cases txtR (l.drop (k + 2)) <;> simp
  omega
theorem TxtAt.done {l acc : List UInt8} {k : Nat} (h : TxtAt l acc k) (h1 : 1 ≤ k) (hk : k < l.length) (hc : l[k] = 39) (hd : ∀ h : k + 1 < l.length, l[k + 1] ≠ 39) : txtR (l.drop 1) = some (acc, k) := by
  unfold TxtAt at h
  rw [h, List.drop_eq_getElem_cons hk, hc, txtR_end]
  · simp
    omega
  · rcases Nat.lt_or_ge (k + 1) l.length with h2 | h2
    · rw [List.drop_eq_getElem_cons h2]
      exact fun h3 => hd h2 (Option.some.inj h3)
    · rw [List.drop_eq_nil_of_le h2]
      simp
theorem TxtAt.none {l acc : List UInt8} {k : Nat} (h : TxtAt l acc k) (hk : l.length ≤ k) : txtR (l.drop 1) = none := by
  unfold TxtAt at h
  rw [h, List.drop_eq_nil_of_le hk]
  rfl
def textO (l : List UInt8) : Option Tk := (txtR (l.drop 1)).map fun p => ⟨3, p.1, 0, p.2 + 1⟩
theorem textO_done {l acc : List UInt8} {k : Nat} (h : txtR (l.drop 1) = some (acc, k)) : tup (textO l) = .tuple #[.agg #[.int .i64 3, .string (str acc), .int .i64 0, .int .i64 0], .int .i64 ((k : Int) + 1)] := by
  unfold textO
  rw [h]
  rfl
theorem textO_none {l : List UInt8} (h : txtR (l.drop 1) = none) : tup (textO l) = .tuple #[.agg #[.int .i64 0, .string ⟨#[]⟩, .int .i64 0, .int .i64 0], .int .i64 0] := by
  unfold textO
  rw [h]
  rfl
set_option maxRecDepth 100000 in
set_option maxHeartbeats 2000000 in
theorem text_any (s : ByteArray) (w : World) (hs : s.size ≤ 4096) : Calls Tryd.prog 26 #[.string s] w fun e w' => e = .returned (tup (textO s.data.toList)) ∧ Below w.heap.size w w' := by
  have bz := zbox w
  have hb0 := (Below.refl w.heap.size w).alloc (Nat.le_refl _) (.cells #[.int .i64 0, .string ⟨#[]⟩, .int .i64 0, .int .i64 0] 30)
  go_enter Tryd.func26, Tryd.ntmps26
  go_wp2_with fail
  generalize w.alloc (.cells #[.int .i64 0, .string ⟨#[]⟩, .int .i64 0, .int .i64 0] 30) = W1 at *
  have H0 := Lib.hid (Wrote.refl (Own.nil W1 W1.heap.size))
  have HB0 := Lib.hid hb0
  have HZ := Lib.hid bz
  clear hb0 bz
  go_loopw [5, 4] (fun i bv wr => ∃ (k : Nat) (acc : List UInt8), 1 ≤ k ∧ k ≤ s.size + 1 ∧ acc.length ≤ k ∧ i = .int .i64 k ∧ Hid (TxtAt s.data.toList acc k) ∧ Hid (Wrote W1 W1.heap.size (.slice none 0 0) bv acc wr)) (fun i _ _ => s.size + 1 - (intOf i).toNat)
  case atStart => exact ⟨1, [], Nat.le_refl _, by omega, Nat.zero_le _, rfl, TxtAt.start _, H0.out⟩
  case round =>
    obtain ⟨k, acc, h1, hk, hacc, rfl, HT, HW⟩ := hrel
    have HB := Lib.hid HW.out.belowNil
    have bz2 := HZ.out.later HB.out
    have B2 := bthen HB0.out HB.out
    by_cases hlt : k < s.size
    · have hkl : k < s.data.toList.length := by rw [size_list]; exact hlt
      have hkz : (k : Int) < (s.size : Int) := by omega
      by_cases hq : s[k] = 39
      · have hq1 : ((s[k].toNat : Nat) : Int) = 39 := by rw [hq]; rfl
        have hql : s.data.toList[k] = 39 := by rw [list_get hlt]; exact hq
        by_cases hlt2 : k + 1 < s.size
        · have hk2 : k + 1 < s.data.toList.length := by rw [size_list]; exact hlt2
          have hkz2 : ((k : Int) + 1 == (s.size : Int)) = false := by simp; omega
          have p0 : (0 : Int) ≤ (k : Int) + 1 := by omega
          have p1 : ((k : Int) + 1).toNat = k + 1 := by omega
          by_cases hq2 : s[k + 1] = 39
          · have hq3 : ((s[k + 1].toNat : Nat) : Int) = 39 := by rw [hq2]; rfl
            have HD := Lib.hid (HT.out.two h1 hk2 hql (by rw [list_get hlt2]; exact hq2))
            obtain ⟨v2, w2, hr2, hW2⟩ := HW.out.one 39 (by omega) (Nat.le_refl _)
            have HW2 := Lib.hid hW2
            simp only [show ((39 : UInt8).toNat : Int) = 39 from rfl] at hr2
            clear hq hql hq2 hW2 bz2
            go_wp2_with (at_builtin; refine Lib.wpList_append_run_sl _ rfl _ _ 34 rfl _ _ rfl rfl hr2 ?_)
            go_roundw
            case rel => exact ⟨k + 2, acc ++ [39], by omega, by omega, by simp; omega, by go_num, HD.out, HW2.out⟩
            case measure => simp [intOf]; omega
          · have hq3 : (((s[k + 1].toNat : Nat) : Int) != 39) = true := by
              rw [bne_iff_ne]
              intro h
              exact hq2 (UInt8.toNat_inj.1 (by show s[k + 1].toNat = 39; omega))
            have HD := Lib.hid (textO_done (HT.out.done h1 hkl hql (fun h => by rw [list_get hlt2]; exact hq2)))
            obtain ⟨A2, c2, rfl, -, -, hyw⟩ := HW.out.own.bytes
            have hcv := conv_at (c := c2) hyw
            obtain ⟨c0, c1, c2, c3⟩ := bz2.zcells
            obtain ⟨f0, f1, f2, f3⟩ := bz2.free
            clear hq hql hq2 bz2 hyw
            generalize acc.length = al at *
            go_wp2_with fail
            exact bodyPost_ret (v := .tuple #[.agg #[.int .i64 3, .string (str acc), .int .i64 0, .int .i64 0], .int .i64 ((k : Int) + 1)]) (by simp [results, Tryd.results26, go_sem, c0, c1, c2, c3]) rfl ⟨by rw [HD.out], Below.set4 B2 (Nat.le_refl _) _ _ _ _⟩
        · have hkz2 : ((k : Int) + 1 == (s.size : Int)) = true := by simp; omega
          have HD := Lib.hid (textO_done (HT.out.done h1 hkl hql (fun h => by rw [size_list] at h; omega)))
          obtain ⟨A2, c2, rfl, -, -, hyw⟩ := HW.out.own.bytes
          have hcv := conv_at (c := c2) hyw
          obtain ⟨c0, c1, c2, c3⟩ := bz2.zcells
          obtain ⟨f0, f1, f2, f3⟩ := bz2.free
          clear hq hql bz2 hyw
          generalize acc.length = al at *
          go_wp2_with fail
          exact bodyPost_ret (v := .tuple #[.agg #[.int .i64 3, .string (str acc), .int .i64 0, .int .i64 0], .int .i64 ((k : Int) + 1)]) (by simp [results, Tryd.results26, go_sem, c0, c1, c2, c3]) rfl ⟨by rw [HD.out], Below.set4 B2 (Nat.le_refl _) _ _ _ _⟩
      · have hq1 : (((s[k].toNat : Nat) : Int) == 39) = false := by
          rw [beq_eq_false_iff_ne]
          intro h
          exact hq (UInt8.toNat_inj.1 (by show s[k].toNat = 39; omega))
        have HD := HT.out.other h1 hkl (by rw [list_get hlt]; exact hq)
        rw [list_get hlt] at HD
        have HD := Lib.hid HD
        obtain ⟨v2, w2, hr2, hW2⟩ := HW.out.one s[k] (by omega) (Nat.le_refl _)
        have HW2 := Lib.hid hW2
        clear hq hW2 bz2
        go_wp2_with (at_builtin; refine Lib.wpList_append_run_sl _ rfl _ _ 34 rfl _ _ rfl rfl hr2 ?_)
        go_roundw
        case rel => exact ⟨k + 1, acc ++ [s[k]], by omega, by omega, by simp; omega, by go_num, HD.out, HW2.out⟩
        case measure => simp [intOf]; omega
    · have HD := Lib.hid (textO_none (HT.out.none (by rw [size_list]; omega)))
      have hkz : ¬ ((k : Int) < (s.size : Int)) := by omega
      obtain ⟨c0, c1, c2, c3⟩ := bz2.zcells
      obtain ⟨f0, f1, f2, f3⟩ := bz2.free
      clear bz2
      go_wp2_with fail
      exact bodyPost_ret (v := .tuple #[.agg #[.int .i64 0, .string ⟨#[]⟩, .int .i64 0, .int .i64 0], .int .i64 0]) (by simp [results, Tryd.results26, go_sem, c0, c1, c2, c3]) rfl ⟨by rw [HD.out], Below.set4 B2 (Nat.le_refl _) _ _ _ _⟩
end Go.Proofs.YtjnecobamobieaaDoor
