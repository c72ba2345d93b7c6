/- Contracts of scalar's wrong and of the reference's may: whether values, whatever they are, all may be. Condition: no list longer than a number of 64 bits. -/
import Derived.Test.YtdffnkopbackiaaDoorRowDef
import Derived.Test.YtdffnkopbackiaaDoorScaNum
namespace Go.Proofs.YtdffnkopbackiaaDoor
open Go.RowKit
theorem ret_bool {a b : Bool} (h : a = b) : Ending.returned (.bool a) = .returned (.bool b) := by rw [h]
theorem bad_at {xs : List V} {k : Nat} {r : Int} (h : k < xs.length) (hx : xs[k].chk = r) (hr : ¬ r = 0) : allOk xs = false := by
  unfold allOk
  rw [List.all_eq_false]
  exact ⟨xs[k], List.getElem_mem h, by rw [hx]; simpa using hr⟩
theorem good_all {xs : List V} {n : Nat} (hn : n = xs.length) (ha : allOk (xs.take n) = true) : allOk xs = true := by
  subst hn
  rwa [List.take_length] at ha
set_option maxHeartbeats 400000 in
theorem rmay_any (xs : List V) (A : Option Addr) (c : Nat) (w : World) (hr : RowAt w w.heap.size A xs) (hm : xs.length ≤ 9223372036854775807) :
    Calls Tryd.prog 26 #[.slice A xs.length c] w fun e w' => e = .returned (.bool (allOk xs)) ∧ Below w.heap.size w w' := by
  obtain ⟨n, hn⟩ : ∃ n, n = xs.length := ⟨_, rfl⟩
  have HN := Lib.hid hn
  rw [← hn] at hm ⊢
  clear hn
  have HR := Lib.hid hr
  clear hr
  go_enter Tryd.func26, Tryd.ntmps26
  go_wp2_with fail
  go_loopw [7] (fun i wr => ∃ k : Nat, k ≤ n ∧ i = .int .i64 k ∧ Below w.heap.size w wr ∧ Hid (allOk (xs.take k) = true)) (fun i _ => n - (intOf i).toNat)
  case atStart => exact ⟨0, Nat.zero_le _, rfl, Below.refl _ _, rfl⟩
  case round =>
    obtain ⟨k, hk, rfl, hb, hall⟩ := hrel
    by_cases hlt : k < n
    · have hkx : k < xs.length := by rw [← HN.out]; exact hlt
      obtain ⟨b, off, hA, hbl, hc⟩ := HR.out (by omega)
      subst hA
      obtain ⟨c1, c2, c3⟩ := hc k hkx
      have d1 := (hb.cell (p := ⟨b, _, none⟩) hbl).trans c1
      have d2 := (hb.cell (p := ⟨b, _, none⟩) hbl).trans c2
      have d3 := (hb.cell (p := ⟨b, _, none⟩) hbl).trans c3
      clear c1 c2 c3 hc
      have hcall := rcheck_any xs[k].k xs[k].i xs[k].s
      obtain ⟨r, hr⟩ : ∃ r, r = chkI xs[k].k xs[k].i xs[k].s := ⟨_, rfl⟩
      rw [← hr] at hcall
      have HX : Hid (xs[k].chk = r) := hr.symm
      clear hr
      generalize xs[k].k = vk at *
      generalize xs[k].i = vi at *
      generalize xs[k].s = vs at *
      by_cases h0 : r = 0
      · subst h0
        go_wp2_with (go_at_call 19; refine (hcall _).mono ?_; rintro e w1 ⟨rfl, hb1⟩)
        go_roundw
        case rel => exact ⟨k + 1, by omega, by go_num, (hb.alloc hb.size _).trans (hb1.mono (by have := hb.size; simp; omega)), allOk_snoc hkx HX.out hall.out⟩
        case measure => simp [intOf]; omega
      · have h1 : (r != 0) = true := by simpa using h0
        have H0 := Lib.hid h0
        clear h0
        go_wp2_with (go_at_call 19; refine (hcall _).mono ?_; rintro e w1 ⟨rfl, hb1⟩)
        go_ret
        exact ⟨ret_bool (bad_at hkx HX.out H0.out).symm, (hb.alloc hb.size _).trans (hb1.mono (by have := hb.size; simp; omega))⟩
    · obtain rfl : k = n := by omega
      go_wp2_with fail
      go_ret
      exact ⟨ret_bool (good_all HN.out hall.out).symm, hb⟩
theorem bad1_any (k i : Int) (s : ByteArray) (w : World) :
    Calls Tryd.prog 36 #[.agg #[.int .i64 k, .int .i64 i, .string s]] w fun e w' => e = .returned (.bool (chkI k i s != 0)) ∧ Below w.heap.size w w' := by
  have HC := check_any k i s
  generalize chkI k i s = r at *
  go_enter Tryd.func36, Tryd.ntmps36
  go_wp2_with (go_at_call 37; refine (HC _).mono ?_; rintro e w' ⟨rfl, hb⟩)
  go_ret
  exact ⟨rfl, ((Below.refl _ _).alloc (Nat.le_refl _) _).trans (hb.mono (by simp))⟩
def IdxPost (xs : List V) (w : World) (e : Ending) (w' : World) : Prop := ∃ n : Int, e = .returned (.int .i64 n) ∧ (0 ≤ n ↔ allOk xs = false) ∧ Below w.heap.size w w'
set_option maxHeartbeats 400000 in
theorem idx_any (xs : List V) (A : Option Addr) (c : Nat) (w : World) (hr : RowAt w w.heap.size A xs) (hm : xs.length ≤ 9223372036854775807) :
    Calls Tryd.prog 42 #[.slice A xs.length c, .func (.func 36) #[] #[]] w (IdxPost xs w) := by
  obtain ⟨n, hn⟩ : ∃ n, n = xs.length := ⟨_, rfl⟩
  have HN := Lib.hid hn
  rw [← hn] at hm ⊢
  clear hn
  have HR := Lib.hid hr
  clear hr
  go_enter Tryd.func42, Tryd.ntmps42
  go_wp2_with fail
  go_loopw [8] (fun i wr => ∃ k : Nat, k ≤ n ∧ i = .int .i64 k ∧ Below w.heap.size w wr ∧ Hid (allOk (xs.take k) = true)) (fun i _ => n - (intOf i).toNat)
  case atStart => exact ⟨0, Nat.zero_le _, rfl, Below.refl _ _, rfl⟩
  case round =>
    obtain ⟨k, hk, rfl, hb, hall⟩ := hrel
    by_cases hlt : k < n
    · have hkx : k < xs.length := by rw [← HN.out]; exact hlt
      obtain ⟨b, off, hA, hbl, hc⟩ := HR.out (by omega)
      subst hA
      obtain ⟨c1, c2, c3⟩ := hc k hkx
      have d1 := (hb.cell (p := ⟨b, _, none⟩) hbl).trans c1
      have d2 := (hb.cell (p := ⟨b, _, none⟩) hbl).trans c2
      have d3 := (hb.cell (p := ⟨b, _, none⟩) hbl).trans c3
      clear c1 c2 c3 hc
      have hcall := bad1_any xs[k].k xs[k].i xs[k].s
      obtain ⟨r, hr⟩ : ∃ r, r = chkI xs[k].k xs[k].i xs[k].s := ⟨_, rfl⟩
      rw [← hr] at hcall
      have HX : Hid (xs[k].chk = r) := hr.symm
      clear hr
      generalize xs[k].k = vk at *
      generalize xs[k].i = vi at *
      generalize xs[k].s = vs at *
      by_cases h0 : r = 0
      · subst h0
        simp only [bne_self_eq_false] at hcall
        go_wp2_with (go_at_call 36; refine (hcall _).mono ?_; rintro e w1 ⟨rfl, hb1⟩)
        go_roundw
        case rel => exact ⟨k + 1, by omega, by go_num, hb.trans (hb1.mono (by have := hb.size; omega)), allOk_snoc hkx HX.out hall.out⟩
        case measure => simp [intOf]; omega
      · have h1 : (r != 0) = true := by simpa using h0
        rw [h1] at hcall
        have H0 := Lib.hid h0
        clear h0
        go_wp2_with (go_at_call 36; refine (hcall _).mono ?_; rintro e w1 ⟨rfl, hb1⟩)
        go_ret
        exact ⟨_, rfl, ⟨fun _ => bad_at hkx HX.out H0.out, fun _ => by omega⟩, hb.trans (hb1.mono (by have := hb.size; omega))⟩
    · obtain rfl : k = n := by omega
      go_wp2_with fail
      go_ret
      exact ⟨_, rfl, ⟨fun h => by omega, fun h => by rw [good_all HN.out hall.out] at h; cases h⟩, hb⟩
theorem wrong_any (xs : List V) (A : Option Addr) (c : Nat) (w : World) (hr : RowAt w w.heap.size A xs) (hm : xs.length ≤ 9223372036854775807) :
    Calls Tryd.prog 23 #[.slice A xs.length c] w fun e w' => e = .returned (.bool (!allOk xs)) ∧ Below w.heap.size w w' := by
  have hi := idx_any xs A c w hr hm
  have h35 : Calls Tryd.prog 35 #[.slice A xs.length c, .func (.func 36) #[] #[]] w fun e w' => e = .returned (.bool (!allOk xs)) ∧ Below w.heap.size w w' := by
    generalize xs.length = l at *
    clear hr hm
    go_enter Tryd.func35, Tryd.ntmps35
    go_wp2_with (go_at_call 42; refine hi.mono ?_; rintro e w1 ⟨n, rfl, hn, hb⟩; have HN := Lib.hid hn; clear hn)
    go_ret
    refine ⟨ret_bool ?_, hb⟩
    have := HN.out
    cases h : allOk xs
    · rw [h] at this; simp at this ⊢; exact this
    · rw [h] at this; simp at this ⊢; omega
  generalize xs.length = l at *
  clear hr hm hi
  go_enter Tryd.func23, Tryd.ntmps23
  go_wp2_with (go_at_call 35; refine h35.mono ?_; rintro e w1 ⟨rfl, hb⟩)
  go_ret
  exact ⟨rfl, hb⟩
end Go.Proofs.YtdffnkopbackiaaDoor
