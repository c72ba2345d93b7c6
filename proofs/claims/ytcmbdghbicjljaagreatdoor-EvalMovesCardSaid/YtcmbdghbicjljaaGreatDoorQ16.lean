/- Contract of like's read: a pattern's units, or that it is none. Condition: the pattern is no longer than 100000000. -/
import Derived.Test.YtcmbdghbicjljaaGreatDoorQ15
namespace Go.Proofs.YtcmbdghbicjljaaGreatDoor.BV
end Go.Proofs.YtcmbdghbicjljaaGreatDoor.BV
namespace Go.Proofs.YtcmbdghbicjljaaGreatDoor.LK
open Go.Proofs.YtcmbdghbicjljaaGreatDoor.BV
open Go.RowKit
theorem bne_byte {x : UInt8} {n : Nat} (hn : n < 256) (h : x ≠ UInt8.ofNat n) : ((x.toNat : Int) == (n : Int)) = false := by
  rw [beq_eq_false_iff_ne]
  intro e
  apply h
  apply UInt8.toNat_inj.1
  rw [UInt8.toNat_ofNat']
  omega
set_option maxRecDepth 100000 in
set_option maxHeartbeats 4000000 in
theorem read_any (s : ByteArray) (w : World) (hs : s.size ≤ 100000000) :
    Calls Tryz.prog 121 #[.string s] w (ReadPost s.data.toList w) := by
  obtain ⟨i0, hi, hz0, hz1, hz2⟩ := info_parts info45
  have HL : Hid (s.data.toList.length = s.size) := size_list s
  go_enter Tryz.func121, Tryz.ntmps121
  go_wp2_with (at_make; refine wpList_make_own _ rfl _ _ 121 rfl w.heap.size 149 i0 (.int .i16 0) 1 Tryz.underlying121 hi hz0 hz1 _ _ _ s.size rfl rfl rfl ?b1 ?b2 ?b3 ?_)
  case b1 => rw [hz2]; omega
  case b2 => unfold maxLen; omega
  case b3 => exact Nat.le_refl _
  intro w0 hown0 hgrow0
  go_wp2_with fail
  go_loopg [4, 5] s.size (fun g s4 s5 wx => ∃ (k : Nat) (us : List Int), k + g = s.size ∧ s5 = .int .i64 k ∧ us.length ≤ k ∧ Hid (Rd s.data.toList k us) ∧ Hid (wx.ownsRow w.heap.size 149 1 s4 us.length (us.map (Value.int .i16))) ∧ Below w.heap.size w wx)
  case atStart => exact ⟨0, [], by omega, rfl, Nat.le_refl _, Rd.start _, hown0, (Below.refl _ _).grown hgrow0 (Nat.le_refl _) (by simp)⟩
  case round =>
    obtain ⟨k, us, hkg, rfl, hul, HR, HO, hb⟩ := hrel
    have hBw := hb.size
    cases gk with
    | zero =>
      have hkz : ¬ ((k : Int) < (s.size : Int)) := by omega
      obtain ⟨A, c, rfl, hu, huc⟩ := uat_of HO.out
      go_wp2_with fail
      go_ret2
      exact ⟨Or.inr ⟨us, A, c, HR.out.done (by rw [HL.out]; omega), rfl, hu, huc⟩, hb⟩
    | succ g =>
      have hkz : (k : Int) < (s.size : Int) := by omega
      have hkl : k < s.data.toList.length := by rw [HL.out]; omega
      obtain ⟨x, hx⟩ : ∃ x, x = s[k]'(by omega) := ⟨_, rfl⟩
      have HX : Hid (s.data.toList[k] = x) := hx.symm
      by_cases h1 : x = 37
      · have e1 : (s[k]'(by omega)).toNat = 37 := by rw [← hx, h1]; rfl
        rw [h1] at HX
        clear hx h1
        go_wp2_with (at_builtin; refine wpList_append_own _ rfl _ _ 121 rfl w.heap.size 149 i0 (.int .i16 0) 1 2 Tryz.underlying121 hi hz0 hz1 hz2 rfl (by decide) _ _ _ rfl (HO.out.alloc _) ⟨wr.heap.size, 0, none⟩ 1 1 [.int .i16 (-2)] rfl rfl (cell_new _ _ _) (one_cell _ _) (by unfold maxLen; omega) (by omega) (by simp; omega) ?_)
        intro v' w2 hown' hgrow _
        obtain ⟨ho2, hb2⟩ := own_step hb hBw HO.out hown' hgrow
        have HO2 := Lib.hid ho2
        clear ho2 hown' hgrow
        go_wp2_with fail
        go_roundg g
        case measure => omega
        case rel => exact ⟨k + 1, _, by omega, by go_num, by simp; omega, HR.out.many hkl HX.out, HO2.out, hb2⟩
      · by_cases h2 : x = 95
        · have e1 : (s[k]'(by omega)).toNat = 95 := by rw [← hx, h2]; rfl
          rw [h2] at HX
          clear hx h1 h2
          go_wp2_with (at_builtin; refine wpList_append_own _ rfl _ _ 121 rfl w.heap.size 149 i0 (.int .i16 0) 1 2 Tryz.underlying121 hi hz0 hz1 hz2 rfl (by decide) _ _ _ rfl (HO.out.alloc _) ⟨wr.heap.size, 0, none⟩ 1 1 [.int .i16 (-1)] rfl rfl (cell_new _ _ _) (one_cell _ _) (by unfold maxLen; omega) (by omega) (by simp; omega) ?_)
          intro v' w2 hown' hgrow _
          obtain ⟨ho2, hb2⟩ := own_step hb hBw HO.out hown' hgrow
          have HO2 := Lib.hid ho2
          clear ho2 hown' hgrow
          go_wp2_with fail
          go_roundg g
          case measure => omega
          case rel => exact ⟨k + 1, _, by omega, by go_num, by simp; omega, HR.out.one hkl HX.out, HO2.out, hb2⟩
        · by_cases h3 : x = 92
          · have e1 : (s[k]'(by omega)).toNat = 92 := by rw [← hx, h3]; rfl
            rw [h3] at HX
            clear hx h1 h2 h3
            by_cases h4 : k + 1 = s.size
            · have e4 : ((k : Int) + 1 == (s.size : Int)) = true := by rw [beq_iff_eq]; omega
              have HB := Lib.hid (HR.out.cut (by rw [HL.out]; exact h4) HX.out)
              clear h4
              go_wp2_with fail
              go_ret2
              exact ⟨Or.inl ⟨HB.out, rfl⟩, hb⟩
            · have hk1 : k + 1 < s.size := by omega
              have e4 : ((k : Int) + 1 == (s.size : Int)) = false := by rw [beq_eq_false_iff_ne]; omega
              have hkl1 : k + 1 < s.data.toList.length := by rw [HL.out]; omega
              obtain ⟨y, hy⟩ : ∃ y, y = s[k + 1]'(by omega) := ⟨_, rfl⟩
              have HY : Hid (s.data.toList[k + 1] = y) := hy.symm
              have HS := special_any (s[k + 1]'(by omega))
              rw [← hy] at HS
              clear h4
              cases hsp : sp y
              · rw [hsp] at HS
                have HB := Lib.hid (HR.out.bad hkl1 HX.out (by rw [HY.out]; exact hsp))
                clear hsp
                subst hy
                go_wp2_with (go_at_call 161; refine (HS _).mono ?_; rintro e w' ⟨rfl, rfl⟩)
                go_ret2
                exact ⟨Or.inl ⟨HB.out, rfl⟩, hb⟩
              · rw [hsp] at HS
                have HE := Lib.hid (HR.out.esc hkl1 HX.out (by rw [HY.out]; exact hsp))
                have ew := wrap_byte y
                clear hsp
                subst hy
                go_wp2_with (first | (go_at_call 161; refine (HS _).mono ?_; rintro e w' ⟨rfl, rfl⟩) | (at_builtin; refine wpList_append_own _ rfl _ _ 121 rfl w.heap.size 149 i0 (.int .i16 0) 1 2 Tryz.underlying121 hi hz0 hz1 hz2 rfl (by decide) _ _ _ rfl (HO.out.alloc _) ⟨wr.heap.size, 0, none⟩ 1 1 [.int .i16 ((s[k + 1]'(by omega)).toNat)] rfl rfl (cell_new _ _ _) (one_cell _ _) (by unfold maxLen; omega) (by omega) (by simp; omega) ?_))
                intro v' w2 hown' hgrow _
                obtain ⟨ho2, hb2⟩ := own_step hb hBw HO.out hown' hgrow
                have HO2 := Lib.hid ho2
                clear ho2 hown' hgrow
                go_wp2_with fail
                go_roundg (g - 1)
                case measure => omega
                case rel => exact ⟨k + 1 + 1, _, by omega, by go_num, by simp; omega, HE.out, HO2.out, hb2⟩
          · have e1 := bne_byte (n := 37) (by decide) h1
            have e2 := bne_byte (n := 95) (by decide) h2
            have e3 := bne_byte (n := 92) (by decide) h3
            have ew := wrap_byte x
            have HE := Lib.hid (HR.out.lit hkl (by rw [HX.out]; exact h1) (by rw [HX.out]; exact h2) (by rw [HX.out]; exact h3))
            clear h1 h2 h3
            subst hx
            go_wp2_with (at_builtin; refine wpList_append_own _ rfl _ _ 121 rfl w.heap.size 149 i0 (.int .i16 0) 1 2 Tryz.underlying121 hi hz0 hz1 hz2 rfl (by decide) _ _ _ rfl (HO.out.alloc _) ⟨wr.heap.size, 0, none⟩ 1 1 [.int .i16 ((s[k]'(by omega)).toNat)] rfl rfl (cell_new _ _ _) (one_cell _ _) (by unfold maxLen; omega) (by omega) (by simp; omega) ?_)
            intro v' w2 hown' hgrow _
            obtain ⟨ho2, hb2⟩ := own_step hb hBw HO.out hown' hgrow
            have HO2 := Lib.hid ho2
            clear ho2 hown' hgrow
            go_wp2_with fail
            go_roundg g
            case measure => omega
            case rel => exact ⟨k + 1, _, by omega, by go_num, by simp; omega, HE.out, HO2.out, hb2⟩
end Go.Proofs.YtcmbdghbicjljaaGreatDoor.LK
namespace Go.Proofs.YtcmbdghbicjljaaGreatDoor.BV
end Go.Proofs.YtcmbdghbicjljaaGreatDoor.BV
namespace Go.Proofs.YtcmbdghbicjljaaGreatDoor.LK
open Go.Proofs.YtcmbdghbicjljaaGreatDoor.BV
open Go.RowKit
theorem read_none (s : ByteArray) (w : World) (hs : s.size ≤ 100000000) (h : rd s.data.toList = none) :
    Calls Tryz.prog 121 #[.string s] w fun e w' => e = .returned (.tuple #[.slice none 0 0, .int .i64 40]) ∧ Below w.heap.size w w' :=
  (read_any s w hs).mono fun e w' ⟨h1, h2⟩ => by
    rcases h1 with ⟨_, h1⟩ | ⟨us, A, c, h1, _⟩
    · exact ⟨h1, h2⟩
    · rw [h] at h1; cases h1
def Units (us : List Int) (w : World) (e : Ending) (w' : World) : Prop := ∃ A c, e = .returned (.tuple #[.slice A us.length c, .int .i64 0]) ∧ UAt w' A us ∧ us.length ≤ c ∧ Below w.heap.size w w'
theorem read_some (s : ByteArray) (us : List Int) (w : World) (hs : s.size ≤ 100000000) (h : rd s.data.toList = some us) :
    Calls Tryz.prog 121 #[.string s] w (Units us w) :=
  (read_any s w hs).mono fun e w' ⟨h1, h2⟩ => by
    rcases h1 with ⟨h1, _⟩ | ⟨us', A, c, h1, he, hu, hc⟩
    · rw [h] at h1; cases h1
    · rw [h] at h1
      obtain rfl := Option.some.inj h1
      exact ⟨A, c, he, hu, hc, h2⟩
theorem units_len {s : ByteArray} {us : List Int} (hs : s.size ≤ 100000000) (h : rd s.data.toList = some us) : us.length ≤ 100000000 := by
  have := (rd_units _ _ _ (Nat.le_refl _) h).1
  rw [size_list] at this
  omega
theorem stands_any (us : List Int) (s : ByteArray) (A : Option Addr) (c : Nat) (w : World) (h : UAt w A us) (hm : us.length ≤ 100000000) (hcap : us.length ≤ c) (hs : s.size ≤ 100000000) :
    Calls Tryz.prog 122 #[.string s, .slice A us.length c] w fun e w' => e = .returned (.bool (M us s.data.toList)) ∧ Below w.heap.size w w' := by
  cases hf : fm us with
  | none => exact stands_none us s A c w h hm hs hf
  | some k =>
    obtain ⟨b, off, rfl, -, -⟩ := h (by have := (fm_some hf).1; omega)
    exact stands_some us s b off c k w h hm hcap hs hf
set_option maxHeartbeats 1000000 in
theorem like_none (s p : ByteArray) (w : World) (hp : p.size ≤ 100000000) (h : rd p.data.toList = none) :
    Calls Tryz.prog 97 #[.string s, .string p] w fun e w' => e = .returned (.tuple #[.bool false, .int .i64 40]) ∧ Below w.heap.size w w' := by
  have HR := Lib.hid (read_none p w hp h)
  clear h
  go_enter Tryz.func97, Tryz.ntmps97
  go_wp2_with fail
  refine HR.out.mono ?_
  rintro e w1 ⟨rfl, hb1⟩
  go_wp2_with fail
  go_ret2
  exact ⟨rfl, hb1⟩
set_option maxHeartbeats 1000000 in
theorem like_some (s p : ByteArray) (us : List Int) (w : World) (hs : s.size ≤ 100000000) (hp : p.size ≤ 100000000) (h : rd p.data.toList = some us) :
    Calls Tryz.prog 97 #[.string s, .string p] w fun e w' => e = .returned (.tuple #[.bool (M us s.data.toList), .int .i64 0]) ∧ Below w.heap.size w w' := by
  have HR := Lib.hid (read_some p us w hp h)
  have hm := units_len hp h
  have HS := Lib.hid (fun A c w1 hu hc => stands_any us s A c w1 hu hm hc hs)
  clear h
  generalize hn : us.length = n at *
  generalize M us s.data.toList = r at *
  go_enter Tryz.func97, Tryz.ntmps97
  go_wp2_with fail
  refine HR.out.mono ?_
  rintro e w1 ⟨A, c, rfl, hu, hc, hb1⟩
  rw [hn] at hc ⊢
  clear hn
  go_wp2_with fail
  refine (HS.out A c w1 hu hc).mono ?_
  rintro e w2 ⟨rfl, hb2⟩
  go_wp2_with fail
  go_ret2
  exact ⟨rfl, bthen hb1 hb2⟩
end Go.Proofs.YtcmbdghbicjljaaGreatDoor.LK
