/- Contract of like's read: a pattern's units, or that it is none. Condition: the pattern is no longer than 2000. -/
import Derived.Test.YtimlkgbhmkmacaaLikReadP
namespace Go.Proofs.Ytimlkgbhmkmacaa
open Go.RowKit
theorem bne_byte {x : UInt8} {n : Nat} (hn : n < 256) (h : x ≠ UInt8.ofNat n) : ((x.toNat : Int) == (n : Int)) = false := by
  rw [beq_eq_false_iff_ne]
  intro e
  apply h
  apply UInt8.toNat_inj.1
  rw [UInt8.toNat_ofNat']
  omega
set_option maxRecDepth 100000 in
set_option maxHeartbeats 4000000 in
theorem read_any (s : ByteArray) (w : World) (hs : s.size ≤ 2000) :
    Calls Try.prog 15 #[.string s] w (ReadPost s.data.toList w) := by
  obtain ⟨i0, hi, hz0, hz1, hz2⟩ := info_parts info45
  have HL : Hid (s.data.toList.length = s.size) := size_list s
  go_enter Try.func15, Try.ntmps15
  go_wp2_with (at_make; refine wpList_make_own _ rfl _ _ 33 rfl w.heap.size 45 i0 (.int .i16 0) 1 Try.underlying33 hi hz0 hz1 _ _ _ s.size rfl rfl rfl ?b1 ?b2 ?b3 ?_)
  case b1 => rw [hz2]; omega
  case b2 => unfold maxLen; omega
  case b3 => exact Nat.le_refl _
  intro w0 hown0 hgrow0
  go_wp2_with fail
  go_loopg [4, 5] s.size (fun g s4 s5 wx => ∃ (k : Nat) (us : List Int), k + g = s.size ∧ s5 = .int .i64 k ∧ us.length ≤ k ∧ Hid (Rd s.data.toList k us) ∧ Hid (wx.ownsRow w.heap.size 45 1 s4 us.length (us.map (Value.int .i16))) ∧ Below w.heap.size w wx)
  case atStart => exact ⟨0, [], by omega, rfl, Nat.le_refl _, Rd.start _, hown0, (Below.refl _ _).grown hgrow0 (Nat.le_refl _) (by simp)⟩
  case round =>
    obtain ⟨k, us, hkg, rfl, hul, HR, HO, hb⟩ := hrel
    have hBw := hb.size
    cases gk with
    | zero =>
      have hkz : ¬ ((k : Int) < (s.size : Int)) := by omega
      obtain ⟨A, c, rfl, hu, huc⟩ := uat_of HO.out
      go_wp2_with fail
      go_ret2
      exact ⟨Or.inr ⟨us, A, c, HR.out.done (by rw [HL.out]; omega), rfl, hu, huc⟩, hb⟩
    | succ g =>
      have hkz : (k : Int) < (s.size : Int) := by omega
      have hkl : k < s.data.toList.length := by rw [HL.out]; omega
      obtain ⟨x, hx⟩ : ∃ x, x = s[k]'(by omega) := ⟨_, rfl⟩
      have HX : Hid (s.data.toList[k] = x) := hx.symm
      by_cases h1 : x = 37
      · have e1 : (s[k]'(by omega)).toNat = 37 := by rw [← hx, h1]; rfl
        rw [h1] at HX
        clear hx h1
        go_wp2_with (at_builtin; refine wpList_append_own _ rfl _ _ 33 rfl w.heap.size 45 i0 (.int .i16 0) 1 2 Try.underlying33 hi hz0 hz1 hz2 rfl (by decide) _ _ _ rfl (HO.out.alloc _) ⟨wr.heap.size, 0, none⟩ 1 1 [.int .i16 (-2)] rfl rfl (cell_new _ _ _) (one_cell _ _) (by unfold maxLen; omega) (by omega) (by simp; omega) ?_)
        intro v' w2 hown' hgrow _
        obtain ⟨ho2, hb2⟩ := own_step hb hBw HO.out hown' hgrow
        have HO2 := Lib.hid ho2
        clear ho2 hown' hgrow
        go_wp2_with fail
        go_roundg g
        case measure => omega
        case rel => exact ⟨k + 1, _, by omega, by go_num, by simp; omega, HR.out.many hkl HX.out, HO2.out, hb2⟩
      · by_cases h2 : x = 95
        · have e1 : (s[k]'(by omega)).toNat = 95 := by rw [← hx, h2]; rfl
          rw [h2] at HX
          clear hx h1 h2
          go_wp2_with (at_builtin; refine wpList_append_own _ rfl _ _ 33 rfl w.heap.size 45 i0 (.int .i16 0) 1 2 Try.underlying33 hi hz0 hz1 hz2 rfl (by decide) _ _ _ rfl (HO.out.alloc _) ⟨wr.heap.size, 0, none⟩ 1 1 [.int .i16 (-1)] rfl rfl (cell_new _ _ _) (one_cell _ _) (by unfold maxLen; omega) (by omega) (by simp; omega) ?_)
          intro v' w2 hown' hgrow _
          obtain ⟨ho2, hb2⟩ := own_step hb hBw HO.out hown' hgrow
          have HO2 := Lib.hid ho2
          clear ho2 hown' hgrow
          go_wp2_with fail
          go_roundg g
          case measure => omega
          case rel => exact ⟨k + 1, _, by omega, by go_num, by simp; omega, HR.out.one hkl HX.out, HO2.out, hb2⟩
        · by_cases h3 : x = 92
          · have e1 : (s[k]'(by omega)).toNat = 92 := by rw [← hx, h3]; rfl
            rw [h3] at HX
            clear hx h1 h2 h3
            by_cases h4 : k + 1 = s.size
            · have e4 : ((k : Int) + 1 == (s.size : Int)) = true := by rw [beq_iff_eq]; omega
              have HB := Lib.hid (HR.out.cut (by rw [HL.out]; exact h4) HX.out)
              clear h4
              go_wp2_with fail
              go_ret2
              exact ⟨Or.inl ⟨HB.out, rfl⟩, hb⟩
            · have hk1 : k + 1 < s.size := by omega
              have e4 : ((k : Int) + 1 == (s.size : Int)) = false := by rw [beq_eq_false_iff_ne]; omega
              have hkl1 : k + 1 < s.data.toList.length := by rw [HL.out]; omega
              obtain ⟨y, hy⟩ : ∃ y, y = s[k + 1]'(by omega) := ⟨_, rfl⟩
              have HY : Hid (s.data.toList[k + 1] = y) := hy.symm
              have HS := special_any (s[k + 1]'(by omega))
              rw [← hy] at HS
              clear h4
              cases hsp : sp y
              · rw [hsp] at HS
                have HB := Lib.hid (HR.out.bad hkl1 HX.out (by rw [HY.out]; exact hsp))
                clear hsp
                subst hy
                go_wp2_with (go_at_call 18; refine (HS _).mono ?_; rintro e w' ⟨rfl, rfl⟩)
                go_ret2
                exact ⟨Or.inl ⟨HB.out, rfl⟩, hb⟩
              · rw [hsp] at HS
                have HE := Lib.hid (HR.out.esc hkl1 HX.out (by rw [HY.out]; exact hsp))
                have ew := wrap_byte y
                clear hsp
                subst hy
                go_wp2_with (first | (go_at_call 18; refine (HS _).mono ?_; rintro e w' ⟨rfl, rfl⟩) | (at_builtin; refine wpList_append_own _ rfl _ _ 33 rfl w.heap.size 45 i0 (.int .i16 0) 1 2 Try.underlying33 hi hz0 hz1 hz2 rfl (by decide) _ _ _ rfl (HO.out.alloc _) ⟨wr.heap.size, 0, none⟩ 1 1 [.int .i16 ((s[k + 1]'(by omega)).toNat)] rfl rfl (cell_new _ _ _) (one_cell _ _) (by unfold maxLen; omega) (by omega) (by simp; omega) ?_))
                intro v' w2 hown' hgrow _
                obtain ⟨ho2, hb2⟩ := own_step hb hBw HO.out hown' hgrow
                have HO2 := Lib.hid ho2
                clear ho2 hown' hgrow
                go_wp2_with fail
                go_roundg (g - 1)
                case measure => omega
                case rel => exact ⟨k + 1 + 1, _, by omega, by go_num, by simp; omega, HE.out, HO2.out, hb2⟩
          · have e1 := bne_byte (n := 37) (by decide) h1
            have e2 := bne_byte (n := 95) (by decide) h2
            have e3 := bne_byte (n := 92) (by decide) h3
            have ew := wrap_byte x
            have HE := Lib.hid (HR.out.lit hkl (by rw [HX.out]; exact h1) (by rw [HX.out]; exact h2) (by rw [HX.out]; exact h3))
            clear h1 h2 h3
            subst hx
            go_wp2_with (at_builtin; refine wpList_append_own _ rfl _ _ 33 rfl w.heap.size 45 i0 (.int .i16 0) 1 2 Try.underlying33 hi hz0 hz1 hz2 rfl (by decide) _ _ _ rfl (HO.out.alloc _) ⟨wr.heap.size, 0, none⟩ 1 1 [.int .i16 ((s[k]'(by omega)).toNat)] rfl rfl (cell_new _ _ _) (one_cell _ _) (by unfold maxLen; omega) (by omega) (by simp; omega) ?_)
            intro v' w2 hown' hgrow _
            obtain ⟨ho2, hb2⟩ := own_step hb hBw HO.out hown' hgrow
            have HO2 := Lib.hid ho2
            clear ho2 hown' hgrow
            go_wp2_with fail
            go_roundg g
            case measure => omega
            case rel => exact ⟨k + 1, _, by omega, by go_num, by simp; omega, HE.out, HO2.out, hb2⟩
end Go.Proofs.Ytimlkgbhmkmacaa
