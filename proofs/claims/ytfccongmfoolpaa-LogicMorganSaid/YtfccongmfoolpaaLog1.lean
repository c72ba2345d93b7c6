/- Contracts of logic's and the reference's leaf functions on truths: truth, Bool1, check, may, checkTruths; plain functions say what they answer. Condition: no list is longer than the greatest int. -/
import Derived.Test.YtfccongmfoolpaaLogPlain
namespace Go.Proofs.Ytfccongmfoolpaa
open Go.RowKit
theorem truth_any (b : Bool) (w : World) : Calls Try.prog 33 #[.bool b] w fun e w' => e = .returned (.agg #[.int .i64 1, .int .i64 (bi b), .string ⟨#[]⟩]) ∧ Below w.heap.size w w' := by
  cases b
  · go_enter Try.func33, Try.ntmps33
    go_wp2
    exact bodyPost_ret (v := .agg #[.int .i64 1, .int .i64 0, .string ⟨#[]⟩]) (by simp [results, Try.results33, go_sem]) rfl ⟨rfl, ((Below.refl _ w).alloc (Nat.le_refl _) _)⟩
  · go_enter Try.func33, Try.ntmps33
    go_wp2
    exact bodyPost_ret (v := .agg #[.int .i64 1, .int .i64 1, .string ⟨#[]⟩]) (by simp [results, Try.results33, go_sem]) rfl ⟨rfl, ((Below.refl _ w).alloc (Nat.le_refl _) _)⟩
theorem bool1_any (b : Bool) (w : World) : Calls Try.prog 26 #[.bool b] w fun e w' => e = .returned (.agg #[.int .i64 1, .int .i64 (bi b), .string ⟨#[]⟩]) ∧ Below w.heap.size w w' := by
  cases b
  · go_enter Try.func26, Try.ntmps26
    go_wp2
    exact bodyPost_ret (v := .agg #[.int .i64 1, .int .i64 0, .string ⟨#[]⟩]) (by simp [results, Try.results26, go_sem]) rfl ⟨rfl, ((Below.refl _ w).alloc (Nat.le_refl _) _)⟩
  · go_enter Try.func26, Try.ntmps26
    go_wp2
    exact bodyPost_ret (v := .agg #[.int .i64 1, .int .i64 1, .string ⟨#[]⟩]) (by simp [results, Try.results26, go_sem]) rfl ⟨rfl, ((Below.refl _ w).alloc (Nat.le_refl _) _)⟩
theorem chkA_bad {xs : List V} {k : Nat} {r : Int} (h : k < xs.length) (hx : xs[k].chk = r) (hr : ¬ r = 0) : r = chkA xs ∧ allOk xs = false := by
  have := chkR_bad h hx hr
  unfold chkR at this
  unfold chkA
  cases ha : allOk xs
  · rw [ha] at this; simp at this; simp [this]
  · exfalso
    have := List.all_eq_true.1 (show xs.all _ = true from ha) xs[k] (List.getElem_mem h)
    rw [hx] at this
    exact hr (by simpa using this)
theorem chkA_good {xs : List V} {n : Nat} (hn : n = xs.length) (ha : allOk (xs.take n) = true) : 0 = chkA xs ∧ allOk xs = true := by
  subst hn
  rw [List.take_length] at ha
  unfold chkA
  rw [ha]
  simp
set_option maxHeartbeats 400000 in
theorem lcheck_any (xs : List V) (A : Option Addr) (c : Nat) (w : World) (hr : RowAt w w.heap.size A xs) (hm : xs.length ≤ 9223372036854775807) :
    Calls Try.prog 38 #[.slice A xs.length c] w fun e w' => e = .returned (.int .i64 (chkA xs)) ∧ Below w.heap.size w w' := by
  obtain ⟨n, hn⟩ : ∃ n, n = xs.length := ⟨_, rfl⟩
  have HN := Lib.hid hn
  rw [← hn] at hm ⊢
  clear hn
  have HR := Lib.hid hr
  clear hr
  go_enter Try.func38, Try.ntmps38
  go_wp2_with fail
  go_loopw [8] (fun i wr => ∃ k : Nat, k ≤ n ∧ i = .int .i64 k ∧ Below w.heap.size w wr ∧ Hid (allOk (xs.take k) = true)) (fun i _ => n - (intOf i).toNat)
  case atStart => exact ⟨0, Nat.zero_le _, rfl, Below.refl _ _, rfl⟩
  case round =>
    obtain ⟨k, hk, rfl, hb, hall⟩ := hrel
    by_cases hlt : k < n
    · have hkx : k < xs.length := by rw [← HN.out]; exact hlt
      obtain ⟨b, off, hA, hbl, hc⟩ := HR.out (by omega)
      subst hA
      obtain ⟨c1, c2, c3⟩ := hc k hkx
      have d1 := (hb.cell (p := ⟨b, _, none⟩) hbl).trans c1
      have d2 := (hb.cell (p := ⟨b, _, none⟩) hbl).trans c2
      have d3 := (hb.cell (p := ⟨b, _, none⟩) hbl).trans c3
      clear c1 c2 c3 hc
      have hcall := check_any xs[k].k xs[k].i xs[k].s
      obtain ⟨r, hr⟩ : ∃ r, r = chkI xs[k].k xs[k].i xs[k].s := ⟨_, rfl⟩
      rw [← hr] at hcall
      have HX : Hid (xs[k].chk = r) := hr.symm
      clear hr
      generalize xs[k].k = vk at *
      generalize xs[k].i = vi at *
      generalize xs[k].s = vs at *
      by_cases h0 : r = 0
      · subst h0
        go_wp2_with (go_at_call 44; refine (hcall _).mono ?_; rintro e w1 ⟨rfl, hb1⟩)
        go_roundw
        case rel => exact ⟨k + 1, by omega, by go_num, (hb.alloc hb.size _).trans (hb1.mono (by have := hb.size; simp; omega)), allOk_snoc hkx HX.out hall.out⟩
        case measure => simp [intOf]; omega
      · have h1 : (r != 0) = true := by simpa using h0
        have H0 := Lib.hid h0
        clear h0
        go_wp2_with (go_at_call 44; refine (hcall _).mono ?_; rintro e w1 ⟨rfl, hb1⟩)
        go_ret
        exact ⟨ret_int (chkA_bad hkx HX.out H0.out).1, (hb.alloc hb.size _).trans (hb1.mono (by have := hb.size; simp; omega))⟩
    · obtain rfl : k = n := by omega
      go_wp2_with fail
      go_ret
      exact ⟨ret_int (chkA_good HN.out hall.out).1, hb⟩
theorem ret_bool {a b : Bool} (h : a = b) : Ending.returned (.bool a) = .returned (.bool b) := by rw [h]
set_option maxHeartbeats 400000 in
theorem may_any (xs : List V) (A : Option Addr) (c : Nat) (w : World) (hr : RowAt w w.heap.size A xs) (hm : xs.length ≤ 9223372036854775807) :
    Calls Try.prog 39 #[.slice A xs.length c] w fun e w' => e = .returned (.bool (allOk xs)) ∧ Below w.heap.size w w' := by
  obtain ⟨n, hn⟩ : ∃ n, n = xs.length := ⟨_, rfl⟩
  have HN := Lib.hid hn
  rw [← hn] at hm ⊢
  clear hn
  have HR := Lib.hid hr
  clear hr
  go_enter Try.func39, Try.ntmps39
  go_wp2_with fail
  go_loopw [7] (fun i wr => ∃ k : Nat, k ≤ n ∧ i = .int .i64 k ∧ Below w.heap.size w wr ∧ Hid (allOk (xs.take k) = true)) (fun i _ => n - (intOf i).toNat)
  case atStart => exact ⟨0, Nat.zero_le _, rfl, Below.refl _ _, rfl⟩
  case round =>
    obtain ⟨k, hk, rfl, hb, hall⟩ := hrel
    by_cases hlt : k < n
    · have hkx : k < xs.length := by rw [← HN.out]; exact hlt
      obtain ⟨b, off, hA, hbl, hc⟩ := HR.out (by omega)
      subst hA
      obtain ⟨c1, c2, c3⟩ := hc k hkx
      have d1 := (hb.cell (p := ⟨b, _, none⟩) hbl).trans c1
      have d2 := (hb.cell (p := ⟨b, _, none⟩) hbl).trans c2
      have d3 := (hb.cell (p := ⟨b, _, none⟩) hbl).trans c3
      clear c1 c2 c3 hc
      have hcall := rcheck_any xs[k].k xs[k].i xs[k].s
      obtain ⟨r, hr⟩ : ∃ r, r = chkI xs[k].k xs[k].i xs[k].s := ⟨_, rfl⟩
      rw [← hr] at hcall
      have HX : Hid (xs[k].chk = r) := hr.symm
      clear hr
      generalize xs[k].k = vk at *
      generalize xs[k].i = vi at *
      generalize xs[k].s = vs at *
      by_cases h0 : r = 0
      · subst h0
        go_wp2_with (go_at_call 25; refine (hcall _).mono ?_; rintro e w1 ⟨rfl, hb1⟩)
        go_roundw
        case rel => exact ⟨k + 1, by omega, by go_num, (hb.alloc hb.size _).trans (hb1.mono (by have := hb.size; simp; omega)), allOk_snoc hkx HX.out hall.out⟩
        case measure => simp [intOf]; omega
      · have h1 : (r != 0) = true := by simpa using h0
        have H0 := Lib.hid h0
        clear h0
        go_wp2_with (go_at_call 25; refine (hcall _).mono ?_; rintro e w1 ⟨rfl, hb1⟩)
        go_ret
        exact ⟨ret_bool (chkA_bad hkx HX.out H0.out).2.symm, (hb.alloc hb.size _).trans (hb1.mono (by have := hb.size; simp; omega))⟩
    · obtain rfl : k = n := by omega
      go_wp2_with fail
      go_ret
      exact ⟨ret_bool (chkA_good HN.out hall.out).2.symm, hb⟩
set_option maxHeartbeats 400000 in
theorem checkTruths_any (xs : List V) (A : Option Addr) (c : Nat) (w : World) (hr : RowAt w w.heap.size A xs) (hm : xs.length ≤ 9223372036854775807) :
    Calls Try.prog 32 #[.slice A xs.length c] w fun e w' => e = .returned (.int .i64 (ctL xs)) ∧ Below w.heap.size w w' := by
  have hcall := lcheck_any xs A c w hr hm
  unfold ctL
  unfold chkA at hcall
  cases ha : allOk xs
  · rw [ha] at hcall
    simp only [Bool.false_eq_true, if_false] at hcall ⊢
    generalize xs.length = n at *
    clear hr ha
    go_enter Try.func32, Try.ntmps32
    go_wp2_with (go_at_call 38; refine hcall.mono ?_; rintro e w1 ⟨rfl, hb1⟩)
    go_ret
    exact ⟨rfl, hb1⟩
  · rw [ha] at hcall
    simp only [if_true] at hcall ⊢
    obtain ⟨q, hq⟩ : ∃ q : Int, q = if allT xs = true then 0 else 20 := ⟨_, rfl⟩
    have HQ := Lib.hid hq
    rw [← hq]
    clear hq
    obtain ⟨n, hn⟩ : ∃ n, n = xs.length := ⟨_, rfl⟩
    have HN := Lib.hid hn
    rw [← hn] at hm hcall ⊢
    clear hn ha
    have HR := Lib.hid hr
    clear hr
    go_enter Try.func32, Try.ntmps32
    go_wp2_with (go_at_call 38; refine hcall.mono ?_; rintro e w1 ⟨rfl, hb1⟩)
    clear hcall
    go_loopw [13] (fun i wr => ∃ k : Nat, k ≤ n ∧ i = .int .i64 k ∧ Below w.heap.size w wr ∧ Hid (allT (xs.take k) = true)) (fun i _ => n - (intOf i).toNat)
    case atStart => exact ⟨0, Nat.zero_le _, rfl, hb1, rfl⟩
    case round =>
      obtain ⟨k, hk, rfl, hb, hall⟩ := hrel
      clear hb1
      by_cases hlt : k < n
      · have hkx : k < xs.length := by rw [← HN.out]; exact hlt
        obtain ⟨b, off, hA, hbl, hc⟩ := HR.out (by omega)
        subst hA
        obtain ⟨c1, c2, c3⟩ := hc k hkx
        have d1 := (hb.cell (p := ⟨b, _, none⟩) hbl).trans c1
        have d2 := (hb.cell (p := ⟨b, _, none⟩) hbl).trans c2
        have d3 := (hb.cell (p := ⟨b, _, none⟩) hbl).trans c3
        clear c1 c2 c3 hc
        have HT : Hid (xs[k].isT = (xs[k].k == 0 || xs[k].k == 1)) := rfl
        generalize xs[k].k = vk at *
        generalize xs[k].i = vi at *
        generalize xs[k].s = vs at *
        by_cases h0 : vk = 0
        · subst h0
          go_wp2_with fail
          go_roundw
          case rel => exact ⟨k + 1, by omega, by go_num, hb.alloc hb.size _, by have := hall.out; have := HT.out; show _ = _; rw [allT_snoc hkx]; simp_all⟩
          case measure => simp [intOf]; omega
        · by_cases h1 : vk = 1
          · subst h1
            go_wp2_with fail
            go_roundw
            case rel => exact ⟨k + 1, by omega, by go_num, hb.alloc hb.size _, by have := hall.out; have := HT.out; show _ = _; rw [allT_snoc hkx]; simp_all⟩
            case measure => simp [intOf]; omega
          · have e0 : (vk != 0) = true := by simpa using h0
            have e1 : (vk != 1) = true := by simpa using h1
            have HF : Hid (allT xs = false) := allT_no hkx (by rw [HT.out]; simp [h0, h1])
            clear h0 h1
            go_wp2_with fail
            go_ret
            exact ⟨ret_int (by rw [HQ.out, HF.out]; rfl), hb.alloc hb.size _⟩
      · obtain rfl : k = n := by omega
        go_wp2_with fail
        go_ret
        exact ⟨ret_int (by have := hall.out; rw [List.take_of_length_le (by rw [← HN.out]; omega)] at this; rw [HQ.out, this]; rfl), hb⟩
end Go.Proofs.Ytfccongmfoolpaa
