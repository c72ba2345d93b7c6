/- Contract of the reference's one: the token at a place. Condition: the text is no longer than 4096. -/
import Derived.Test.YtjnecobamobieaaDoorTokRef7
namespace Go.Proofs.YtjnecobamobieaaDoor
open Go.RowKit
theorem told_shape {o : Option Tk} {i : Nat} {v : Value} (h : Told o i v) : ∃ (a : Int) (b : ByteArray) (c d y : Int) (q : Bool), v = .tuple #[.agg #[.int .i64 a, .string b, .int .i64 c, .int .i64 d], .int .i64 y, .bool q] := by
  cases o with
  | none =>
    obtain ⟨u, y, rfl⟩ := h
    exact ⟨_, _, _, _, _, _, rfl⟩
  | some t => exact ⟨_, _, _, _, _, _, h⟩
theorem oneT_numR {c : UInt8} {r : List UInt8} (hc : isDig c = true) : oneT (c :: r) = numR (c :: r) := by
  have hx := (isDig_iff c).1 hc
  have h1 : ¬ ((c = 120 ∨ c = 88) ∧ r.head? = some 39) := fun h => by rcases h.1 with h | h <;> (subst h; exact absurd hx.2 (by decide))
  have h2 : isLet c = false := by
    rw [isLet_eq]
    exact decide_eq_false (by omega)
  simp only [oneT]
  rw [if_neg h1, if_neg (by simp [h2]), if_pos hc]
  rfl
set_option maxRecDepth 100000 in
set_option maxHeartbeats 8000000 in
theorem one_any (s : ByteArray) (i : Nat) (w : World) (hs : s.size ≤ 4096) (hi : i < s.size) : Calls Tryd.prog 29 #[.string s, .int .i64 i] w fun e w' => (∃ v, e = .returned v ∧ Told (oneT (s.data.toList.drop i)) i v) ∧ Below w.heap.size w w' := by
  have hcons := drop_cons hi
  have HA : Hid (∀ (w : World), Calls Tryd.prog 39 #[.string s, .int .i64 ((i : Int) + 1)] w fun e w' => e = .returned (.int .u8 (byteAt s.data.toList (i + 1)).toNat) ∧ w' = w) := fun w => at_any s (i + 1) w
  have HL := Lib.hid (fun w => letter_any s[i] w)
  have HD := Lib.hid (fun w => digit_any s[i] w)
  have hb := bgB_iff s[i] (s.data.toList.drop (i + 1))
  rw [head_at 39 (by decide)] at hb
  have bz := zbox w
  have hb0 := (Below.refl w.heap.size w).alloc (Nat.le_refl _) (.cells #[.int .i64 0, .string ⟨#[]⟩, .int .i64 0, .int .i64 0] 30)
  by_cases hx : s[i] = 120 ∨ s[i] = 88
  · have hxz : (((s[i].toNat : Nat) : Int) == 120) = true ∨ ((((s[i].toNat : Nat) : Int) == 120) = false ∧ (((s[i].toNat : Nat) : Int) == 88) = true) := by
      rcases hx with h | h
      · exact Or.inl (by rw [h]; rfl)
      · exact Or.inr (by rw [h]; exact ⟨rfl, rfl⟩)
    by_cases h39 : byteAt s.data.toList (i + 1) = 39
    · have hbg : bgB (s[i] :: s.data.toList.drop (i + 1)) = true := hb.2 ⟨hx, h39⟩
      have hi2 : i + 2 ≤ s.size := by
        rcases Nat.lt_or_ge (i + 1) s.size with h | h
        · omega
        · rw [byteAt_ge h] at h39
          cases h39
      have HR : Hid (∀ w, Calls Tryd.prog 40 #[.string s, .int .i64 i] w fun e w' => (∃ v, e = .returned v ∧ Told (oneT (s.data.toList.drop i)) i v) ∧ Below w.heap.size w w') := fun w => by
        rw [hcons, oneT_blob hbg, ← hcons]
        exact rblob_any s i w hs hi2
      rw [h39, show ((39 : UInt8).toNat : Int) = 39 from rfl] at HA
      clear hcons hb hbg h39 hx
      generalize oneT (s.data.toList.drop i) = o at *
      rcases hxz with hxz | ⟨hxz1, hxz2⟩
      all_goals
        go_enter Tryd.func29, Tryd.ntmps29
        go_wp2_with fail
        generalize w.alloc (.cells #[.int .i64 0, .string ⟨#[]⟩, .int .i64 0, .int .i64 0] 30) = W1 at *
        refine (HA.out _).mono ?_
        rintro e w2 ⟨rfl, rfl⟩
        go_wp2_with fail
        refine (HR.out _).mono ?_
        rintro e w3 ⟨⟨v, rfl, hv⟩, b3⟩
        have HV := Lib.hid hv
        obtain ⟨va, vb, vc, vd, vy, vq, rfl⟩ := told_shape hv
        have HB3 := Lib.hid (bthen hb0 b3)
        obtain ⟨c0, c1, c2, c3⟩ := (bz.later b3).zcells
        obtain ⟨f0, f1, f2, f3⟩ := (bz.later b3).free
        clear hv b3
        go_wp2_with fail
        exact bodyPost_ret (v := .tuple #[.agg #[.int .i64 va, .string vb, .int .i64 vc, .int .i64 vd], .int .i64 vy, .bool vq]) (by simp [results, Tryd.results29, go_sem, c0, c1, c2, c3]) rfl ⟨⟨_, rfl, HV.out⟩, Below.set4 HB3.out (Nat.le_refl _) _ _ _ _⟩
    · have hbg : bgB (s[i] :: s.data.toList.drop (i + 1)) = false := by rw [← Bool.not_eq_true, hb]; exact fun h => h39 h.2
      have hlet : isLet s[i] = true := by rcases hx with h | h <;> (rw [h]; rfl)
      have HR : Hid (∀ w, Calls Tryd.prog 41 #[.string s, .int .i64 i] w fun e w' => (∃ v, e = .returned v ∧ Told (oneT (s.data.toList.drop i)) i v) ∧ Below w.heap.size w w') := fun w => by
        rw [hcons, oneT_word hbg hlet, ← hcons]
        exact rword_any s i w hs (Nat.le_of_lt hi)
      rw [hlet] at HL
      have hq : (((byteAt s.data.toList (i + 1)).toNat : Int) == 39) = false := by
        rw [beq_eq_false_iff_ne]
        intro h
        exact h39 (UInt8.toNat_inj.1 (by show (byteAt s.data.toList (i + 1)).toNat = 39; omega))
      clear hcons hb hbg h39 hx hlet
      generalize oneT (s.data.toList.drop i) = o at *
      generalize byteAt s.data.toList (i + 1) = bb at *
      rcases hxz with hxz | ⟨hxz1, hxz2⟩
      all_goals
        go_enter Tryd.func29, Tryd.ntmps29
        go_wp2_with fail
        generalize w.alloc (.cells #[.int .i64 0, .string ⟨#[]⟩, .int .i64 0, .int .i64 0] 30) = W1 at *
        refine (HA.out _).mono ?_
        rintro e w2 ⟨rfl, rfl⟩
        go_wp2_with fail
        refine (HL.out _).mono ?_
        rintro e w2 ⟨rfl, rfl⟩
        go_wp2_with fail
        refine (HR.out _).mono ?_
        rintro e w3 ⟨⟨v, rfl, hv⟩, b3⟩
        have HV := Lib.hid hv
        obtain ⟨va, vb, vc, vd, vy, vq, rfl⟩ := told_shape hv
        have HB3 := Lib.hid (bthen hb0 b3)
        obtain ⟨c0, c1, c2, c3⟩ := (bz.later b3).zcells
        obtain ⟨f0, f1, f2, f3⟩ := (bz.later b3).free
        clear hv b3
        go_wp2_with fail
        exact bodyPost_ret (v := .tuple #[.agg #[.int .i64 va, .string vb, .int .i64 vc, .int .i64 vd], .int .i64 vy, .bool vq]) (by simp [results, Tryd.results29, go_sem, c0, c1, c2, c3]) rfl ⟨⟨_, rfl, HV.out⟩, Below.set4 HB3.out (Nat.le_refl _) _ _ _ _⟩
  · have hx1 : (((s[i].toNat : Nat) : Int) == 120) = false := by
      rw [beq_eq_false_iff_ne]
      intro h
      exact hx (Or.inl (UInt8.toNat_inj.1 (by show s[i].toNat = 120; omega)))
    have hx2 : (((s[i].toNat : Nat) : Int) == 88) = false := by
      rw [beq_eq_false_iff_ne]
      intro h
      exact hx (Or.inr (UInt8.toNat_inj.1 (by show s[i].toNat = 88; omega)))
    have hbg : bgB (s[i] :: s.data.toList.drop (i + 1)) = false := by rw [← Bool.not_eq_true, hb]; exact fun h => hx h.1
    clear hb hx
    cases hl : isLet s[i]
    · rw [hl] at HL
      cases hd : isDig s[i]
      · rw [hd] at HD
        by_cases h39 : s[i] = 39
        · have e39 : (((s[i].toNat : Nat) : Int) == 39) = true := by rw [h39]; rfl
          have HR : Hid (∀ w, Calls Tryd.prog 43 #[.string s, .int .i64 i] w fun e w' => (∃ v, e = .returned v ∧ Told (oneT (s.data.toList.drop i)) i v) ∧ Below w.heap.size w w') := fun w => by
            rw [hcons, oneT_text h39, ← hcons]
            exact rtext_any s i w hs hi
          clear hcons hbg hl hd h39
          generalize oneT (s.data.toList.drop i) = o at *
          go_enter Tryd.func29, Tryd.ntmps29
          go_wp2_with fail
          generalize w.alloc (.cells #[.int .i64 0, .string ⟨#[]⟩, .int .i64 0, .int .i64 0] 30) = W1 at *
          refine (HL.out _).mono ?_
          rintro e w2 ⟨rfl, rfl⟩
          go_wp2_with fail
          refine (HD.out _).mono ?_
          rintro e w2 ⟨rfl, rfl⟩
          go_wp2_with fail
          refine (HR.out _).mono ?_
          rintro e w3 ⟨⟨v, rfl, hv⟩, b3⟩
          have HV := Lib.hid hv
          obtain ⟨va, vb, vc, vd, vy, vq, rfl⟩ := told_shape hv
          have HB3 := Lib.hid (bthen hb0 b3)
          obtain ⟨c0, c1, c2, c3⟩ := (bz.later b3).zcells
          obtain ⟨f0, f1, f2, f3⟩ := (bz.later b3).free
          clear hv b3
          go_wp2_with fail
          exact bodyPost_ret (v := .tuple #[.agg #[.int .i64 va, .string vb, .int .i64 vc, .int .i64 vd], .int .i64 vy, .bool vq]) (by simp [results, Tryd.results29, go_sem, c0, c1, c2, c3]) rfl ⟨⟨_, rfl, HV.out⟩, Below.set4 HB3.out (Nat.le_refl _) _ _ _ _⟩
        · have e39 : (((s[i].toNat : Nat) : Int) == 39) = false := by
            rw [beq_eq_false_iff_ne]
            intro h
            exact h39 (UInt8.toNat_inj.1 (by show s[i].toNat = 39; omega))
          have HR : Hid (∀ w, Calls Tryd.prog 44 #[.string s, .int .i64 i] w fun e w' => (∃ v, e = .returned v ∧ Told (oneT (s.data.toList.drop i)) i v) ∧ Below w.heap.size w w') := fun w => by
            rw [hcons, oneT_sign hbg hl hd h39, ← hcons]
            exact rsign_any s i w hs hi
          clear hcons hbg hl hd h39
          generalize oneT (s.data.toList.drop i) = o at *
          go_enter Tryd.func29, Tryd.ntmps29
          go_wp2_with fail
          generalize w.alloc (.cells #[.int .i64 0, .string ⟨#[]⟩, .int .i64 0, .int .i64 0] 30) = W1 at *
          refine (HL.out _).mono ?_
          rintro e w2 ⟨rfl, rfl⟩
          go_wp2_with fail
          refine (HD.out _).mono ?_
          rintro e w2 ⟨rfl, rfl⟩
          go_wp2_with fail
          refine (HR.out _).mono ?_
          rintro e w3 ⟨⟨v, rfl, hv⟩, b3⟩
          have HV := Lib.hid hv
          obtain ⟨va, vb, vc, vd, vy, vq, rfl⟩ := told_shape hv
          have HB3 := Lib.hid (bthen hb0 b3)
          obtain ⟨c0, c1, c2, c3⟩ := (bz.later b3).zcells
          obtain ⟨f0, f1, f2, f3⟩ := (bz.later b3).free
          clear hv b3
          go_wp2_with fail
          exact bodyPost_ret (v := .tuple #[.agg #[.int .i64 va, .string vb, .int .i64 vc, .int .i64 vd], .int .i64 vy, .bool vq]) (by simp [results, Tryd.results29, go_sem, c0, c1, c2, c3]) rfl ⟨⟨_, rfl, HV.out⟩, Below.set4 HB3.out (Nat.le_refl _) _ _ _ _⟩
      · rw [hd] at HD
        have HR : Hid (∀ w, Calls Tryd.prog 42 #[.string s, .int .i64 i] w fun e w' => (∃ v, e = .returned v ∧ Told (oneT (s.data.toList.drop i)) i v) ∧ Below w.heap.size w w') := fun w => by
          rw [hcons, oneT_numR hd, ← hcons]
          exact rnumber_any s i w hs hi
        clear hcons hbg hl hd
        generalize oneT (s.data.toList.drop i) = o at *
        go_enter Tryd.func29, Tryd.ntmps29
        go_wp2_with fail
        generalize w.alloc (.cells #[.int .i64 0, .string ⟨#[]⟩, .int .i64 0, .int .i64 0] 30) = W1 at *
        refine (HL.out _).mono ?_
        rintro e w2 ⟨rfl, rfl⟩
        go_wp2_with fail
        refine (HD.out _).mono ?_
        rintro e w2 ⟨rfl, rfl⟩
        go_wp2_with fail
        refine (HR.out _).mono ?_
        rintro e w3 ⟨⟨v, rfl, hv⟩, b3⟩
        have HV := Lib.hid hv
        obtain ⟨va, vb, vc, vd, vy, vq, rfl⟩ := told_shape hv
        have HB3 := Lib.hid (bthen hb0 b3)
        obtain ⟨c0, c1, c2, c3⟩ := (bz.later b3).zcells
        obtain ⟨f0, f1, f2, f3⟩ := (bz.later b3).free
        clear hv b3
        go_wp2_with fail
        exact bodyPost_ret (v := .tuple #[.agg #[.int .i64 va, .string vb, .int .i64 vc, .int .i64 vd], .int .i64 vy, .bool vq]) (by simp [results, Tryd.results29, go_sem, c0, c1, c2, c3]) rfl ⟨⟨_, rfl, HV.out⟩, Below.set4 HB3.out (Nat.le_refl _) _ _ _ _⟩
    · rw [hl] at HL
      have HR : Hid (∀ w, Calls Tryd.prog 41 #[.string s, .int .i64 i] w fun e w' => (∃ v, e = .returned v ∧ Told (oneT (s.data.toList.drop i)) i v) ∧ Below w.heap.size w w') := fun w => by
        rw [hcons, oneT_word hbg hl, ← hcons]
        exact rword_any s i w hs (Nat.le_of_lt hi)
      clear hcons hbg hl
      generalize oneT (s.data.toList.drop i) = o at *
      go_enter Tryd.func29, Tryd.ntmps29
      go_wp2_with fail
      generalize w.alloc (.cells #[.int .i64 0, .string ⟨#[]⟩, .int .i64 0, .int .i64 0] 30) = W1 at *
      refine (HL.out _).mono ?_
      rintro e w2 ⟨rfl, rfl⟩
      go_wp2_with fail
      refine (HR.out _).mono ?_
      rintro e w3 ⟨⟨v, rfl, hv⟩, b3⟩
      have HV := Lib.hid hv
      obtain ⟨va, vb, vc, vd, vy, vq, rfl⟩ := told_shape hv
      have HB3 := Lib.hid (bthen hb0 b3)
      obtain ⟨c0, c1, c2, c3⟩ := (bz.later b3).zcells
      obtain ⟨f0, f1, f2, f3⟩ := (bz.later b3).free
      clear hv b3
      go_wp2_with fail
      exact bodyPost_ret (v := .tuple #[.agg #[.int .i64 va, .string vb, .int .i64 vc, .int .i64 vd], .int .i64 vy, .bool vq]) (by simp [results, Tryd.results29, go_sem, c0, c1, c2, c3]) rfl ⟨⟨_, rfl, HV.out⟩, Below.set4 HB3.out (Nat.le_refl _) _ _ _ _⟩
end Go.Proofs.YtjnecobamobieaaDoor
