/- Contract of the reference's one: the token at a place. Condition: the text is no longer than 4096. -/
import Derived.Test.YthohfegnphocbaaGreatDoorQ51
namespace Go.Proofs.YthohfegnphocbaaGreatDoor
open Go.RowKit
theorem told_shape {o : Option Tk} {i : Nat} {v : Value} (h : Told o i v) : ∃ (a : Int) (b : ByteArray) (c d y : Int) (q : Bool), v = .tuple #[.agg #[.int .i64 a, .string b, .int .i64 c, .int .i64 d], .int .i64 y, .bool q] := by
  cases o with
  | none =>
    obtain ⟨u, y, rfl⟩ := h
    exact ⟨_, _, _, _, _, _, rfl⟩
  | some t => exact ⟨_, _, _, _, _, _, h⟩
theorem oneT_numR {c : UInt8} {r : List UInt8} (hc : isDig c = true) : oneT (c :: r) = numR (c :: r) := by
  have hx := (isDig_iff c).1 hc
  have h1 : ¬ ((c = 120 ∨ c = 88) ∧ r.head? = some 39) := fun h => by rcases h.1 with h | h <;> (subst h; exact absurd hx.2 (by decide))
  have h2 : isLet c = false := by
    rw [isLet_eq]
    exact decide_eq_false (by omega)
  simp only [oneT]
  rw [if_neg h1, if_neg (by simp [h2]), if_pos hc]
  rfl
set_option maxRecDepth 100000 in
set_option maxHeartbeats 8000000 in
theorem one_any (s : ByteArray) (i : Nat) (w : World) (hs : s.size ≤ 4096) (hi : i < s.size) : Calls Tryz.prog 32 #[.string s, .int .i64 i] w fun e w' => (∃ v, e = .returned v ∧ Told (oneT (s.data.toList.drop i)) i v) ∧ Below w.heap.size w w' := by
  have hcons := drop_cons hi
  have HA : Hid (∀ (w : World), Calls Tryz.prog 57 #[.string s, .int .i64 ((i : Int) + 1)] w fun e w' => e = .returned (.int .u8 (byteAt s.data.toList (i + 1)).toNat) ∧ w' = w) := fun w => at_any s (i + 1) w
  have HL := Lib.hid (fun w => letter_any s[i] w)
  have HD := Lib.hid (fun w => digit_any s[i] w)
  have hb := bgB_iff s[i] (s.data.toList.drop (i + 1))
  rw [head_at 39 (by decide)] at hb
  have bz := zbox w
  have hb0 := (Below.refl w.heap.size w).alloc (Nat.le_refl _) (.cells #[.int .i64 0, .string ⟨#[]⟩, .int .i64 0, .int .i64 0] 51)
  by_cases hx : s[i] = 120 ∨ s[i] = 88
  · have hxz : (((s[i].toNat : Nat) : Int) == 120) = true ∨ ((((s[i].toNat : Nat) : Int) == 120) = false ∧ (((s[i].toNat : Nat) : Int) == 88) = true) := by
      rcases hx with h | h
      · exact Or.inl (by rw [h]; rfl)
      · exact Or.inr (by rw [h]; exact ⟨rfl, rfl⟩)
    by_cases h39 : byteAt s.data.toList (i + 1) = 39
    · have hbg : bgB (s[i] :: s.data.toList.drop (i + 1)) = true := hb.2 ⟨hx, h39⟩
      have hi2 : i + 2 ≤ s.size := by
        rcases Nat.lt_or_ge (i + 1) s.size with h | h
        · omega
        · rw [byteAt_ge h] at h39
          cases h39
      have HR : Hid (∀ w, Calls Tryz.prog 58 #[.string s, .int .i64 i] w fun e w' => (∃ v, e = .returned v ∧ Told (oneT (s.data.toList.drop i)) i v) ∧ Below w.heap.size w w') := fun w => by
        rw [hcons, oneT_blob hbg, ← hcons]
        exact rblob_any s i w hs hi2
      rw [h39, show ((39 : UInt8).toNat : Int) = 39 from rfl] at HA
      clear hcons hb hbg h39 hx
      generalize oneT (s.data.toList.drop i) = o at *
      rcases hxz with hxz | ⟨hxz1, hxz2⟩
      all_goals
        go_enter Tryz.func32, Tryz.ntmps32
        go_wp2_with fail
        generalize w.alloc (.cells #[.int .i64 0, .string ⟨#[]⟩, .int .i64 0, .int .i64 0] 51) = W1 at *
        refine (HA.out _).mono ?_
        rintro e w2 ⟨rfl, rfl⟩
        go_wp2_with fail
        refine (HR.out _).mono ?_
        rintro e w3 ⟨⟨v, rfl, hv⟩, b3⟩
        have HV := Lib.hid hv
        obtain ⟨va, vb, vc, vd, vy, vq, rfl⟩ := told_shape hv
        have HB3 := Lib.hid (bthen hb0 b3)
        obtain ⟨c0, c1, c2, c3⟩ := (bz.later b3).zcells
        obtain ⟨f0, f1, f2, f3⟩ := (bz.later b3).free
        clear hv b3
        go_wp2_with fail
        exact bodyPost_ret (v := .tuple #[.agg #[.int .i64 va, .string vb, .int .i64 vc, .int .i64 vd], .int .i64 vy, .bool vq]) (by simp [results, Tryz.results32, go_sem, c0, c1, c2, c3]) rfl ⟨⟨_, rfl, HV.out⟩, Below.set4 HB3.out (Nat.le_refl _) _ _ _ _⟩
    · have hbg : bgB (s[i] :: s.data.toList.drop (i + 1)) = false := by rw [← Bool.not_eq_true, hb]; exact fun h => h39 h.2
      have hlet : isLet s[i] = true := by rcases hx with h | h <;> (rw [h]; rfl)
      have HR : Hid (∀ w, Calls Tryz.prog 60 #[.string s, .int .i64 i] w fun e w' => (∃ v, e = .returned v ∧ Told (oneT (s.data.toList.drop i)) i v) ∧ Below w.heap.size w w') := fun w => by
        rw [hcons, oneT_word hbg hlet, ← hcons]
        exact rword_any s i w hs (Nat.le_of_lt hi)
      rw [hlet] at HL
      have hq : (((byteAt s.data.toList (i + 1)).toNat : Int) == 39) = false := by
        rw [beq_eq_false_iff_ne]
        intro h
        exact h39 (UInt8.toNat_inj.1 (by show (byteAt s.data.toList (i + 1)).toNat = 39; omega))
      clear hcons hb hbg h39 hx hlet
      generalize oneT (s.data.toList.drop i) = o at *
      generalize byteAt s.data.toList (i + 1) = bb at *
      rcases hxz with hxz | ⟨hxz1, hxz2⟩
      all_goals
        go_enter Tryz.func32, Tryz.ntmps32
        go_wp2_with fail
        generalize w.alloc (.cells #[.int .i64 0, .string ⟨#[]⟩, .int .i64 0, .int .i64 0] 51) = W1 at *
        refine (HA.out _).mono ?_
        rintro e w2 ⟨rfl, rfl⟩
        go_wp2_with fail
        refine (HL.out _).mono ?_
        rintro e w2 ⟨rfl, rfl⟩
        go_wp2_with fail
        refine (HR.out _).mono ?_
        rintro e w3 ⟨⟨v, rfl, hv⟩, b3⟩
        have HV := Lib.hid hv
        obtain ⟨va, vb, vc, vd, vy, vq, rfl⟩ := told_shape hv
        have HB3 := Lib.hid (bthen hb0 b3)
        obtain ⟨c0, c1, c2, c3⟩ := (bz.later b3).zcells
        obtain ⟨f0, f1, f2, f3⟩ := (bz.later b3).free
        clear hv b3
        go_wp2_with fail
        exact bodyPost_ret (v := .tuple #[.agg #[.int .i64 va, .string vb, .int .i64 vc, .int .i64 vd], .int .i64 vy, .bool vq]) (by simp [results, Tryz.results32, go_sem, c0, c1, c2, c3]) rfl ⟨⟨_, rfl, HV.out⟩, Below.set4 HB3.out (Nat.le_refl _) _ _ _ _⟩
  · have hx1 : (((s[i].toNat : Nat) : Int) == 120) = false := by
      rw [beq_eq_false_iff_ne]
      intro h
      exact hx (Or.inl (UInt8.toNat_inj.1 (by show s[i].toNat = 120; omega)))
    have hx2 : (((s[i].toNat : Nat) : Int) == 88) = false := by
      rw [beq_eq_false_iff_ne]
      intro h
      exact hx (Or.inr (UInt8.toNat_inj.1 (by show s[i].toNat = 88; omega)))
    have hbg : bgB (s[i] :: s.data.toList.drop (i + 1)) = false := by rw [← Bool.not_eq_true, hb]; exact fun h => hx h.1
    clear hb hx
    cases hl : isLet s[i]
    · rw [hl] at HL
      cases hd : isDig s[i]
      · rw [hd] at HD
        by_cases h39 : s[i] = 39
        · have e39 : (((s[i].toNat : Nat) : Int) == 39) = true := by rw [h39]; rfl
          have HR : Hid (∀ w, Calls Tryz.prog 63 #[.string s, .int .i64 i] w fun e w' => (∃ v, e = .returned v ∧ Told (oneT (s.data.toList.drop i)) i v) ∧ Below w.heap.size w w') := fun w => by
            rw [hcons, oneT_text h39, ← hcons]
            exact rtext_any s i w hs hi
          clear hcons hbg hl hd h39
          generalize oneT (s.data.toList.drop i) = o at *
          go_enter Tryz.func32, Tryz.ntmps32
          go_wp2_with fail
          generalize w.alloc (.cells #[.int .i64 0, .string ⟨#[]⟩, .int .i64 0, .int .i64 0] 51) = W1 at *
          refine (HL.out _).mono ?_
          rintro e w2 ⟨rfl, rfl⟩
          go_wp2_with fail
          refine (HD.out _).mono ?_
          rintro e w2 ⟨rfl, rfl⟩
          go_wp2_with fail
          refine (HR.out _).mono ?_
          rintro e w3 ⟨⟨v, rfl, hv⟩, b3⟩
          have HV := Lib.hid hv
          obtain ⟨va, vb, vc, vd, vy, vq, rfl⟩ := told_shape hv
          have HB3 := Lib.hid (bthen hb0 b3)
          obtain ⟨c0, c1, c2, c3⟩ := (bz.later b3).zcells
          obtain ⟨f0, f1, f2, f3⟩ := (bz.later b3).free
          clear hv b3
          go_wp2_with fail
          exact bodyPost_ret (v := .tuple #[.agg #[.int .i64 va, .string vb, .int .i64 vc, .int .i64 vd], .int .i64 vy, .bool vq]) (by simp [results, Tryz.results32, go_sem, c0, c1, c2, c3]) rfl ⟨⟨_, rfl, HV.out⟩, Below.set4 HB3.out (Nat.le_refl _) _ _ _ _⟩
        · have e39 : (((s[i].toNat : Nat) : Int) == 39) = false := by
            rw [beq_eq_false_iff_ne]
            intro h
            exact h39 (UInt8.toNat_inj.1 (by show s[i].toNat = 39; omega))
          have HR : Hid (∀ w, Calls Tryz.prog 64 #[.string s, .int .i64 i] w fun e w' => (∃ v, e = .returned v ∧ Told (oneT (s.data.toList.drop i)) i v) ∧ Below w.heap.size w w') := fun w => by
            rw [hcons, oneT_sign hbg hl hd h39, ← hcons]
            exact rsign_any s i w hs hi
          clear hcons hbg hl hd h39
          generalize oneT (s.data.toList.drop i) = o at *
          go_enter Tryz.func32, Tryz.ntmps32
          go_wp2_with fail
          generalize w.alloc (.cells #[.int .i64 0, .string ⟨#[]⟩, .int .i64 0, .int .i64 0] 51) = W1 at *
          refine (HL.out _).mono ?_
          rintro e w2 ⟨rfl, rfl⟩
          go_wp2_with fail
          refine (HD.out _).mono ?_
          rintro e w2 ⟨rfl, rfl⟩
          go_wp2_with fail
          refine (HR.out _).mono ?_
          rintro e w3 ⟨⟨v, rfl, hv⟩, b3⟩
          have HV := Lib.hid hv
          obtain ⟨va, vb, vc, vd, vy, vq, rfl⟩ := told_shape hv
          have HB3 := Lib.hid (bthen hb0 b3)
          obtain ⟨c0, c1, c2, c3⟩ := (bz.later b3).zcells
          obtain ⟨f0, f1, f2, f3⟩ := (bz.later b3).free
          clear hv b3
          go_wp2_with fail
          exact bodyPost_ret (v := .tuple #[.agg #[.int .i64 va, .string vb, .int .i64 vc, .int .i64 vd], .int .i64 vy, .bool vq]) (by simp [results, Tryz.results32, go_sem, c0, c1, c2, c3]) rfl ⟨⟨_, rfl, HV.out⟩, Below.set4 HB3.out (Nat.le_refl _) _ _ _ _⟩
      · rw [hd] at HD
        have HR : Hid (∀ w, Calls Tryz.prog 62 #[.string s, .int .i64 i] w fun e w' => (∃ v, e = .returned v ∧ Told (oneT (s.data.toList.drop i)) i v) ∧ Below w.heap.size w w') := fun w => by
          rw [hcons, oneT_numR hd, ← hcons]
          exact rnumber_any s i w hs hi
        clear hcons hbg hl hd
        generalize oneT (s.data.toList.drop i) = o at *
        go_enter Tryz.func32, Tryz.ntmps32
        go_wp2_with fail
        generalize w.alloc (.cells #[.int .i64 0, .string ⟨#[]⟩, .int .i64 0, .int .i64 0] 51) = W1 at *
        refine (HL.out _).mono ?_
        rintro e w2 ⟨rfl, rfl⟩
        go_wp2_with fail
        refine (HD.out _).mono ?_
        rintro e w2 ⟨rfl, rfl⟩
        go_wp2_with fail
        refine (HR.out _).mono ?_
        rintro e w3 ⟨⟨v, rfl, hv⟩, b3⟩
        have HV := Lib.hid hv
        obtain ⟨va, vb, vc, vd, vy, vq, rfl⟩ := told_shape hv
        have HB3 := Lib.hid (bthen hb0 b3)
        obtain ⟨c0, c1, c2, c3⟩ := (bz.later b3).zcells
        obtain ⟨f0, f1, f2, f3⟩ := (bz.later b3).free
        clear hv b3
        go_wp2_with fail
        exact bodyPost_ret (v := .tuple #[.agg #[.int .i64 va, .string vb, .int .i64 vc, .int .i64 vd], .int .i64 vy, .bool vq]) (by simp [results, Tryz.results32, go_sem, c0, c1, c2, c3]) rfl ⟨⟨_, rfl, HV.out⟩, Below.set4 HB3.out (Nat.le_refl _) _ _ _ _⟩
    · rw [hl] at HL
      have HR : Hid (∀ w, Calls Tryz.prog 60 #[.string s, .int .i64 i] w fun e w' => (∃ v, e = .returned v ∧ Told (oneT (s.data.toList.drop i)) i v) ∧ Below w.heap.size w w') := fun w => by
        rw [hcons, oneT_word hbg hl, ← hcons]
        exact rword_any s i w hs (Nat.le_of_lt hi)
      clear hcons hbg hl
      generalize oneT (s.data.toList.drop i) = o at *
      go_enter Tryz.func32, Tryz.ntmps32
      go_wp2_with fail
      generalize w.alloc (.cells #[.int .i64 0, .string ⟨#[]⟩, .int .i64 0, .int .i64 0] 51) = W1 at *
      refine (HL.out _).mono ?_
      rintro e w2 ⟨rfl, rfl⟩
      go_wp2_with fail
      refine (HR.out _).mono ?_
      rintro e w3 ⟨⟨v, rfl, hv⟩, b3⟩
      have HV := Lib.hid hv
      obtain ⟨va, vb, vc, vd, vy, vq, rfl⟩ := told_shape hv
      have HB3 := Lib.hid (bthen hb0 b3)
      obtain ⟨c0, c1, c2, c3⟩ := (bz.later b3).zcells
      obtain ⟨f0, f1, f2, f3⟩ := (bz.later b3).free
      clear hv b3
      go_wp2_with fail
      exact bodyPost_ret (v := .tuple #[.agg #[.int .i64 va, .string vb, .int .i64 vc, .int .i64 vd], .int .i64 vy, .bool vq]) (by simp [results, Tryz.results32, go_sem, c0, c1, c2, c3]) rfl ⟨⟨_, rfl, HV.out⟩, Below.set4 HB3.out (Nat.le_refl _) _ _ _ _⟩
end Go.Proofs.YthohfegnphocbaaGreatDoor
namespace Go.Proofs.YthohfegnphocbaaGreatDoor
open Go.RowKit
theorem CutAt.blanks {l : List UInt8} {ts : List T} {k : Nat} (h : CutAt l ts k) : CutAt l ts (k + bl false (l.drop k)) :=
  h.past (by rw [bl_stop]; rfl)
theorem rCut_long (s : ByteArray) (w : World) (hs : 4096 < s.size) : Calls Tryz.prog 13 #[.string s] w fun e w' => e = .returned (.tuple #[.slice none 0 0, .int .i64 0, .int .i64 2]) ∧ w' = w := by
  have hs2 : (4096 : Int) < (s.size : Int) := by omega
  go_enter Tryz.func13, Tryz.ntmps13
  go_wp2_with fail
  go_ret3
  exact ⟨rfl, rfl⟩
set_option maxRecDepth 100000 in
set_option maxHeartbeats 8000000 in
theorem rCut_any (s : ByteArray) (w : World) (hs : s.size ≤ 4096) : Calls Tryz.prog 13 #[.string s] w (Gives w s.data.toList) := by
  have H0 := Lib.hid (OwnT.nil w w.heap.size)
  have hs2 : ¬ ((4096 : Int) < (s.size : Int)) := by omega
  have HBK : Hid (∀ (k : Nat) (w : World), k ≤ s.size → Calls Tryz.prog 31 #[.string s, .int .i64 k] w fun e w' => e = .returned (.int .i64 (k + bl false (s.data.toList.drop k) : Nat)) ∧ w' = w) := fun k w hk => rblanks_any s k w hs hk
  have HBL : Hid (∀ k : Nat, k ≤ s.size → k + bl false (s.data.toList.drop k) ≤ s.size) := fun k hk => by
    have := bl_le false (s.data.toList.drop k)
    rw [List.length_drop, size_list] at this
    omega
  have HON := Lib.hid (fun k w hk => one_any s k w hs hk)
  have HB0 : Hid (Calls Tryz.prog 31 #[.string s, .int .i64 0] w fun e w' => e = .returned (.int .i64 (bl false s.data.toList : Nat)) ∧ w' = w) := by
    have := rblanks_any s 0 w hs (Nat.zero_le _)
    rw [List.drop_zero, Nat.zero_add] at this
    exact this
  have HS0 : Hid (CutAt s.data.toList [] (bl false s.data.toList)) := by
    have := (CutAt.start s.data.toList).blanks
    rw [List.drop_zero, Nat.zero_add] at this
    exact this
  have HZ0 : Hid (bl false (s.data.toList.drop (bl false s.data.toList)) = 0) := bl_stop false _
  have hb0 : bl false s.data.toList ≤ s.size := by rw [← size_list]; exact bl_le false _
  generalize bl false s.data.toList = k0 at *
  go_enter Tryz.func13, Tryz.ntmps13
  go_wp2_with fail
  refine HB0.out.mono ?_
  rintro e w1 ⟨rfl, rfl⟩
  go_wp2_with fail
  go_loopw [6, 5] (fun iv bv wr => ∃ (k : Nat) (ts : List T), k ≤ s.size ∧ ts.length ≤ k ∧ iv = .int .i64 k ∧ Hid (CutAt s.data.toList ts k) ∧ Hid (bl false (s.data.toList.drop k) = 0) ∧ Hid (OwnT wr w1.heap.size bv ts) ∧ Hid (Below w1.heap.size w1 wr)) (fun iv _ _ => s.size - (intOf iv).toNat)
  case atStart => exact ⟨k0, [], hb0, Nat.zero_le _, rfl, HS0.out, HZ0.out, H0.out, Below.refl _ _⟩
  case round =>
    obtain ⟨k, ts, hk, htk, rfl, HC, HZ, HO, HB⟩ := hrel
    have hwz := HB.out.size
    by_cases hlt : k < s.size
    · have hkl : k < s.data.toList.length := by rw [size_list]; exact hlt
      have hkz : (k : Int) < (s.size : Int) := by omega
      have HT1 := Lib.hid (fun t h => HC.out.tok (t := t) hkl HZ.out h)
      have HT2 := Lib.hid (HC.out.bad hkl HZ.out)
      have HR := Lib.hid (fun w => HON.out k w hlt)
      clear HC HZ HS0 HZ0 HB0 hb0
      go_wp2_with fail
      refine (HR.out _).mono ?_
      rintro e w3 ⟨⟨v, rfl, hv⟩, b3⟩
      have HO3 := Lib.hid (HO.out.later b3)
      have HB3 := Lib.hid (bthen HB.out b3)
      clear HO HB
      cases ho : oneT (s.data.toList.drop k) with
      | none =>
        rw [ho] at hv
        obtain ⟨u, y, rfl⟩ := hv
        have HD := Lib.hid (HT2.out ho)
        obtain ⟨V2, V3, V4, hV2, hV3, -, ⟨x0, x1, x2, x3⟩, ⟨g0, g1, g2, g3⟩, -, -, -, -, hzv⟩ := moved w3 u 0
        have bV3 : Below w3.heap.size w3 V3 := by
          rw [hV3, hV2]
          exact Below.set4 ((Below.refl w3.heap.size w3).alloc (Nat.le_refl _) _) (Nat.le_refl _) _ _ _ _
        have HBV := Lib.hid (bthen HB3.out bV3)
        have HV2 := Lib.hid hV2
        have HV3 := Lib.hid hV3
        unfold T.val
        clear ho hV2 hV3 bV3
        go_wp2_with (first | (rw [← HV3.out]) | (rw [← HV2.out]))
        go_ret3
        exact Gives.bad HD.out rfl HBV.out
      | some t =>
        rw [ho] at hv
        have hv2 : v = .tuple #[.agg #[.int .i64 t.k, .string (str t.s), .int .i64 t.i, .int .i64 k], .int .i64 (k + t.n : Nat), .bool true] := hv
        subst hv2
        obtain ⟨hc4, hn4, hp4⟩ := HT1.out t ho
        rw [size_list] at hn4
        have hc5 := hc4.blanks
        have hbl := HBL.out (k + t.n) hn4
        have hst := bl_stop false (s.data.toList.drop (k + t.n))
        rw [List.drop_drop] at hst
        have HK := Lib.hid (fun w => HBK.out (k + t.n) w hn4)
        obtain ⟨V2, V3, V4, hV2, hV3, -, ⟨x0, x1, x2, x3⟩, ⟨g0, g1, g2, g3⟩, ⟨y0, y1, y2, y3⟩, -, -, -, hzv⟩ := moved w3 ⟨t.k, t.s, t.i, k⟩ 0
        simp only at hV3 y0 y1 y2 y3
        have bV3 : Below w3.heap.size w3 V3 := by
          rw [hV3, hV2]
          exact Below.set4 ((Below.refl w3.heap.size w3).alloc (Nat.le_refl _) _) (Nat.le_refl _) _ _ _ _
        have hHO := HO3.out.later bV3
        have hHB := bthen HB3.out bV3
        obtain ⟨v6, w6, r6, ho6, hb6⟩ := ownT_app hHO ⟨t.k, t.s, t.i, k⟩ (by omega) hHB.size hHB V3.heap.size rfl
        simp only at r6
        have HV2 := Lib.hid hV2
        have HV3 := Lib.hid hV3
        have H6 := Lib.hid ho6
        have H7 := Lib.hid hb6
        obtain ⟨k2, hk2⟩ : ∃ k2, k2 = k + t.n + bl false (s.data.toList.drop (k + t.n)) := ⟨_, rfl⟩
        rw [← hk2] at hc5 hbl hst HK
        have HC5 : Hid (CutAt s.data.toList (ts ++ [⟨t.k, t.s, t.i, k⟩]) k2) := hc5
        have HS5 := Lib.hid hst
        have hk2k : k < k2 := by omega
        have hlen2 : (ts ++ [(⟨t.k, t.s, t.i, k⟩ : T)]).length ≤ k2 := by
          rw [List.length_append]
          simp only [List.length_cons, List.length_nil]
          omega
        have HLEN := Lib.hid hlen2
        obtain ⟨tk, tl, ti, tn⟩ := t
        simp only at *
        generalize hnn : k + tn = n5 at *
        clear ho hv hc4 hc5 hst hk2 hlen2 hV2 hV3 bV3 hHO hHB ho6 hb6 HT1 HT2 b3
        go_wp2_with (first | (rw [← HV3.out]) | (rw [← HV2.out]) | (at_builtin; refine Lib.wpList_append_run_sl _ rfl _ _ 33 rfl _ _ rfl rfl r6 ?_))
        refine (HK.out _).mono ?_
        rintro e w8 ⟨rfl, rfl⟩
        go_wp2_with fail
        go_roundw
        case measure => simp [intOf]; omega
        case rel => exact ⟨k2, ts ++ [⟨tk, tl, ti, k⟩], hbl, HLEN.out, by go_num, HC5, HS5, H6, H7⟩
    · have HD := Lib.hid (HC.out.stop (by rw [size_list]; omega))
      have hkz : ¬ ((k : Int) < (s.size : Int)) := by omega
      obtain ⟨v3, w3, r3, ho3, hb3⟩ := ownT_app HO.out ⟨6, [], 0, s.size⟩ (by omega) (by omega) HB.out wr.heap.size rfl
      have H3 := Lib.hid ho3
      have H4 := Lib.hid hb3
      clear ho3 hb3 HC HZ
      simp only [show str [] = ⟨#[]⟩ from rfl] at r3
      go_wp2_with (at_builtin; refine Lib.wpList_append_run_sl _ rfl _ _ 33 rfl _ _ rfl rfl r3 ?_)
      go_ret3
      exact Gives.good HD.out rfl (by rw [size_list]; exact H3.out) H4.out
end Go.Proofs.YthohfegnphocbaaGreatDoor
