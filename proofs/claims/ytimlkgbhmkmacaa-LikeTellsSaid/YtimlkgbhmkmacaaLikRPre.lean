/- Contracts of the reference's Check and Prefix, by a pattern's units. Condition: the pattern is no longer than 2000. -/
import Derived.Test.YtimlkgbhmkmacaaLikPcs
namespace Go.Proofs.Ytimlkgbhmkmacaa
open Go.RowKit
theorem pieces_none (s : ByteArray) (w : World) (hs : s.size ≤ 2000) (h : rd s.data.toList = none) :
    Calls Try.prog 17 #[.string s] w fun e w' => e = .returned (.tuple #[.slice none 0 0, .bool false]) ∧ Below w.heap.size w w' :=
  (pieces_any s w hs).mono fun e w' ⟨h1, h2⟩ => by
    rcases h1 with ⟨_, h1⟩ | ⟨us, A, c, h1, _⟩
    · exact ⟨h1, h2⟩
    · rw [h] at h1; cases h1
def Pcs (us : List Int) (w : World) (e : Ending) (w' : World) : Prop := ∃ A c, e = .returned (.tuple #[.slice A us.length c, .bool true]) ∧ PAt w' A us ∧ Below w.heap.size w w'
theorem pieces_some (s : ByteArray) (us : List Int) (w : World) (hs : s.size ≤ 2000) (h : rd s.data.toList = some us) :
    Calls Try.prog 17 #[.string s] w (Pcs us w) :=
  (pieces_any s w hs).mono fun e w' ⟨h1, h2⟩ => by
    rcases h1 with ⟨h1, _⟩ | ⟨us', A, c, h1, he, hu⟩
    · rw [h] at h1; cases h1
    · rw [h] at h1
      obtain rfl := Option.some.inj h1
      exact ⟨A, c, he, hu, h2⟩
set_option maxHeartbeats 1000000 in
theorem rcheck_none (p : ByteArray) (w : World) (hp : p.size ≤ 2000) (h : rd p.data.toList = none) :
    Calls Try.prog 13 #[.string p] w fun e w' => e = .returned (.int .i64 40) ∧ Below w.heap.size w w' := by
  have HR := Lib.hid (pieces_none p w hp h)
  clear h
  go_enter Try.func13, Try.ntmps13
  go_wp2_with fail
  refine HR.out.mono ?_
  rintro e w1 ⟨rfl, hb1⟩
  go_wp2_with fail
  go_ret
  exact ⟨rfl, hb1⟩
set_option maxHeartbeats 1000000 in
theorem rcheck_some (p : ByteArray) (us : List Int) (w : World) (hp : p.size ≤ 2000) (h : rd p.data.toList = some us) :
    Calls Try.prog 13 #[.string p] w fun e w' => e = .returned (.int .i64 0) ∧ Below w.heap.size w w' := by
  have HR := Lib.hid (pieces_some p us w hp h)
  clear h
  go_enter Try.func13, Try.ntmps13
  go_wp2_with fail
  refine HR.out.mono ?_
  rintro e w1 ⟨A, c, rfl, hu, hb1⟩
  go_wp2_with fail
  go_ret
  exact ⟨rfl, hb1⟩
set_option maxHeartbeats 1000000 in
theorem rprefix_none (p : ByteArray) (w : World) (hp : p.size ≤ 2000) (h : rd p.data.toList = none) :
    Calls Try.prog 11 #[.string p] w fun e w' => e = .returned (.tuple #[.string ⟨#[]⟩, .bool false]) ∧ Below w.heap.size w w' := by
  have HR := Lib.hid (pieces_none p w hp h)
  clear h
  go_enter Try.func11, Try.ntmps11
  go_wp2_with fail
  refine HR.out.mono ?_
  rintro e w1 ⟨rfl, hb1⟩
  go_wp2_with fail
  go_ret2
  exact ⟨rfl, hb1⟩
theorem one_back (w : World) (C : Array Value) (y : UInt8) : (convert 43 9 (.slice (some ⟨w.heap.size + 1, 0, none⟩) 1 1)).run Try.prog ((w.alloc (.cells C 42)).alloc (.cells #[.int .u8 y.toNat] 5)) = .ok (.string ⟨#[y]⟩) ((w.alloc (.cells C 42)).alloc (.cells #[.int .u8 y.toNat] 5)) := by
  refine run_convert_bytes_back _ 43 9 5 ⟨w.heap.size + 1, 0, none⟩ 1 [y] Try.underlying43 Try.underlying5 Try.underlying9 fun j hj => ?_
  have := cell_new (w.alloc (.cells C 42)) (.int .u8 y.toNat) 5 j (.int .u8 y.toNat) (by simp at hj; subst hj; rfl)
  simp at hj
  subst hj
  simpa using this
theorem str_list {a : ByteArray} {l : List UInt8} (h : a.data.toList = l) : a = ⟨l.toArray⟩ := by
  apply bytes_ext
  rw [h]
set_option maxRecDepth 100000 in
set_option maxHeartbeats 2000000 in
theorem rprefix_some (p : ByteArray) (us : List Int) (w : World) (hp : p.size ≤ 2000) (h : rd p.data.toList = some us) :
    Calls Try.prog 11 #[.string p] w fun e w' => e = .returned (.tuple #[.string (preS us), .bool (pre us).2]) ∧ Below w.heap.size w w' := by
  have HR := Lib.hid (pieces_some p us w hp h)
  have hm := units_len hp h
  have HU := Lib.hid (rd_units _ _ _ (Nat.le_refl _) h).2
  clear h
  obtain ⟨n, hn⟩ : ∃ n, n = us.length := ⟨_, rfl⟩
  have HN := Lib.hid hn
  rw [← hn] at hm
  clear hn
  go_enter Try.func11, Try.ntmps11
  go_wp2_with fail
  refine HR.out.mono ?_
  rintro e w1 ⟨A, c, rfl, hu, hb1⟩
  have HA := Lib.hid hu
  rw [← HN.out]
  clear hu
  have hbs := hb1.size
  go_wp2_with fail
  go_loopg [6, 18] n (fun g s6 s18 wx => ∃ (k : Nat) (r : ByteArray), k + g = n ∧ s18 = .int .i64 k ∧ s6 = .string r ∧ r.size ≤ k ∧ Hid (Pre us k r.data.toList) ∧ Hid (Below w1.heap.size w1 wx) ∧ Below w.heap.size w wx)
  case atStart => exact ⟨0, ⟨#[]⟩, by omega, rfl, rfl, Nat.le_refl _, ⟨rfl, fun j hj hjk => by omega⟩, Below.refl _ _, hb1⟩
  case round =>
    obtain ⟨k, r, hkg, rfl, rfl, hrk, HP, HB1, hb⟩ := hrel
    have hBw := HB1.out.size
    cases gk with
    | zero =>
      have hkz : ¬ ((k : Int) < (n : Int)) := by omega
      have HQ := Lib.hid (preS_of (HP.out.whole (by rw [← HN.out]; omega)))
      go_wp2_with fail
      go_ret2
      exact ⟨ret_sb HQ.out, hb⟩
    | succ g =>
      have hkz : (k : Int) < (n : Int) := by omega
      have hkl : k < us.length := by rw [← HN.out]; omega
      obtain ⟨b, off, hA, hbl, hcell⟩ := HA.out (by omega)
      subst hA
      obtain ⟨c1, c2, c3⟩ := hcell k hkl
      have d1 := (HB1.out.cell (p := ⟨b, _, none⟩) hbl).trans c1
      have d2 := (HB1.out.cell (p := ⟨b, _, none⟩) hbl).trans c2
      have d3 := (HB1.out.cell (p := ⟨b, _, none⟩) hbl).trans c3
      clear hcell c1 c2 c3
      rcases HU.out us[k] (List.getElem_mem hkl) with h2 | h2 | ⟨h2, h3⟩
      · have HQ := Lib.hid (preS_of (HP.out.stop hkl (Or.inr h2)))
        rw [h2] at d1 d2 d3
        clear h2
        go_wp2_with fail
        go_ret2
        exact ⟨ret_sb HQ.out, hb.alloc (by omega) _⟩
      · have HQ := Lib.hid (preS_of (HP.out.stop hkl (Or.inl h2)))
        rw [h2] at d1 d2 d3
        clear h2
        go_wp2_with fail
        go_ret2
        exact ⟨ret_sb HQ.out, hb.alloc (by omega) _⟩
      · obtain ⟨y, hy⟩ : ∃ y : UInt8, us[k] = (y.toNat : Int) := ⟨UInt8.ofNat us[k].toNat, by rw [UInt8.toNat_ofNat']; omega⟩
        have HQ := Lib.hid (HP.out.step hkl hy)
        rw [hy, show ((y.toNat : Int) == -2) = false by rw [beq_eq_false_iff_ne]; omega] at d1
        rw [hy, show ((y.toNat : Int) == -1) = false by rw [beq_eq_false_iff_ne]; omega] at d2
        rw [hy, show max (y.toNat : Int) 0 = y.toNat by omega] at d3
        clear h2 h3 hy
        have hcv := one_back wr #[.bool false, .bool false, .int .u8 y.toNat] y
        go_wp2_with fail
        go_roundg g
        case measure => omega
        case rel => exact ⟨k + 1, _, by omega, by go_num, rfl, by rw [size_app]; show _ + 1 ≤ _; omega, by show Pre _ _ _; rw [app_list]; exact HQ.out, (HB1.out.alloc hBw _).alloc (by simp; omega) _, (hb.alloc (by omega) _).alloc (by simp; omega) _⟩
end Go.Proofs.Ytimlkgbhmkmacaa
