/- Contracts of the loops over a row: CheckRow of value, CompareRows of the reference, whatever rows lie in memory. Condition: no row is longer than the greatest int. -/
import Derived.Test.YtnpemegklndegaaDoorRowDef
import Derived.Test.YtnpemegklndegaaDoorCodVal
import Derived.StillTailTactics
namespace Go.Proofs.YtnpemegklndegaaDoor
open Go.RowKit
set_option maxHeartbeats 400000 in
theorem checkRow_any (xs : List V) (A : Option Addr) (c : Nat) (w : World) (hr : RowAt w w.heap.size A xs) (hm : xs.length ≤ 9223372036854775807) :
    Calls Tryd.prog 26 #[.slice A xs.length c] w fun e w' => e = .returned (.int .i64 (chkR xs)) ∧ Below w.heap.size w w' := by
  obtain ⟨n, hn⟩ : ∃ n, n = xs.length := ⟨_, rfl⟩
  have HN := Lib.hid hn
  rw [← hn] at hm ⊢
  clear hn
  have HR := Lib.hid hr
  clear hr
  go_enter Tryd.func26, Tryd.ntmps26
  go_wp2_with fail
  go_loopw [8] (fun i wr => ∃ k : Nat, k ≤ n ∧ i = .int .i64 k ∧ Below w.heap.size w wr ∧ Hid (allOk (xs.take k) = true)) (fun i _ => n - (intOf i).toNat)
  case atStart => exact ⟨0, Nat.zero_le _, rfl, Below.refl _ _, rfl⟩
  case round =>
    obtain ⟨k, hk, rfl, hb, hall⟩ := hrel
    by_cases hlt : k < n
    · have hkx : k < xs.length := by rw [← HN.out]; exact hlt
      obtain ⟨b, off, hA, hbl, hc⟩ := HR.out (by omega)
      subst hA
      obtain ⟨c1, c2, c3⟩ := hc k hkx
      have d1 := (hb.cell (p := ⟨b, _, none⟩) hbl).trans c1
      have d2 := (hb.cell (p := ⟨b, _, none⟩) hbl).trans c2
      have d3 := (hb.cell (p := ⟨b, _, none⟩) hbl).trans c3
      clear c1 c2 c3 hc
      have hcall := check_any xs[k].k xs[k].i xs[k].s
      obtain ⟨r, hr⟩ : ∃ r, r = chkI xs[k].k xs[k].i xs[k].s := ⟨_, rfl⟩
      rw [← hr] at hcall
      have HX : Hid (xs[k].chk = r) := hr.symm
      clear hr
      generalize xs[k].k = vk at *
      generalize xs[k].i = vi at *
      generalize xs[k].s = vs at *
      by_cases h0 : r = 0
      · subst h0
        go_wp2_with (go_at_call 36; refine (hcall _).mono ?_; rintro e w1 ⟨rfl, hb1⟩)
        go_roundw
        case rel => exact ⟨k + 1, by omega, by go_num, (hb.alloc hb.size _).trans (hb1.mono (by have := hb.size; simp; omega)), allOk_snoc hkx HX.out hall.out⟩
        case measure => simp [intOf]; omega
      · have h1 : (r != 0) = true := by simpa using h0
        have H0 := Lib.hid h0
        clear h0
        go_wp2_with (go_at_call 36; refine (hcall _).mono ?_; rintro e w1 ⟨rfl, hb1⟩)
        go_ret
        exact ⟨ret_int (chkR_bad hkx HX.out H0.out), (hb.alloc hb.size _).trans (hb1.mono (by have := hb.size; simp; omega))⟩
    · obtain rfl : k = n := by omega
      go_wp2_with fail
      all_goals go_ret
      all_goals exact ⟨ret_int (chkR_good HN.out hall.out (by omega)), hb⟩
theorem cmpR_step {xs ys : List V} {k : Nat} (h : k < xs.length) (h' : k < ys.length) : cmpR (xs.drop k) (ys.drop k) = if cmpVV xs[k] ys[k] = 0 then cmpR (xs.drop (k + 1)) (ys.drop (k + 1)) else cmpVV xs[k] ys[k] := by
  rw [List.drop_eq_getElem_cons h, List.drop_eq_getElem_cons h']
  rfl
theorem cmpR_more {xs ys : List V} {k : Nat} (h : k < xs.length) (h' : ys.length ≤ k) : cmpR (xs.drop k) (ys.drop k) = 1 := by
  rw [List.drop_eq_getElem_cons h, List.drop_eq_nil_of_le h']
  rfl
theorem cmpR_less {xs ys : List V} {k : Nat} (h : xs.length ≤ k) (h' : k < ys.length) : cmpR (xs.drop k) (ys.drop k) = -1 := by
  rw [List.drop_eq_getElem_cons h', List.drop_eq_nil_of_le h]
  rfl
theorem cmpR_end {xs ys : List V} {k : Nat} (h : xs.length ≤ k) (h' : ys.length ≤ k) : cmpR (xs.drop k) (ys.drop k) = 0 := by
  rw [List.drop_eq_nil_of_le h', List.drop_eq_nil_of_le h]
  rfl
set_option maxRecDepth 100000 in
set_option maxHeartbeats 400000 in
theorem rcmpR_any (xs ys : List V) (A A' : Option Addr) (c c' : Nat) (w : World) (hr : RowAt w w.heap.size A xs) (hr' : RowAt w w.heap.size A' ys) (hm : xs.length ≤ 9223372036854775807) :
    Calls Tryd.prog 22 #[.slice A xs.length c, .slice A' ys.length c'] w fun e w' => e = .returned (.int .i64 (cmpR xs ys)) ∧ Below w.heap.size w w' := by
  obtain ⟨n, hn⟩ : ∃ n, n = xs.length := ⟨_, rfl⟩
  obtain ⟨m, hn'⟩ : ∃ m, m = ys.length := ⟨_, rfl⟩
  have HN := Lib.hid hn
  have HM := Lib.hid hn'
  rw [← hn] at hm ⊢
  rw [← hn']
  clear hn hn'
  have HR := Lib.hid hr
  have HR' := Lib.hid hr'
  clear hr hr'
  go_enter Tryd.func22, Tryd.ntmps22
  go_wp2_with fail
  go_loopw [9] (fun i wr => ∃ k : Nat, k ≤ n ∧ i = .int .i64 k ∧ Below w.heap.size w wr ∧ k ≤ m ∧ Hid (cmpR xs ys = cmpR (xs.drop k) (ys.drop k))) (fun i _ => n - (intOf i).toNat)
  case atStart => exact ⟨0, Nat.zero_le _, rfl, Below.refl _ _, Nat.zero_le _, rfl⟩
  case round =>
    obtain ⟨k, hk, rfl, hb, hkm, heq⟩ := hrel
    by_cases hlt : k < n
    · have hkx : k < xs.length := by rw [← HN.out]; exact hlt
      obtain ⟨b, off, hA, hbl, hc⟩ := HR.out (by omega)
      subst hA
      obtain ⟨c1, c2, c3⟩ := hc k hkx
      have d1 := (hb.cell (p := ⟨b, _, none⟩) hbl).trans c1
      have d2 := (hb.cell (p := ⟨b, _, none⟩) hbl).trans c2
      have d3 := (hb.cell (p := ⟨b, _, none⟩) hbl).trans c3
      clear c1 c2 c3 hc
      have hbs := hb.size
      by_cases hlt' : k < m
      · have hky : k < ys.length := by rw [← HM.out]; exact hlt'
        obtain ⟨b', off', hA', hbl', hc'⟩ := HR'.out (by omega)
        subst hA'
        obtain ⟨c1, c2, c3⟩ := hc' k hky
        have e1 := (hb.cell (p := ⟨b', _, none⟩) hbl').trans c1
        have e2 := (hb.cell (p := ⟨b', _, none⟩) hbl').trans c2
        have e3 := (hb.cell (p := ⟨b', _, none⟩) hbl').trans c3
        clear c1 c2 c3 hc'
        have hcall := rcmpV_any xs[k].k xs[k].i ys[k].k ys[k].i xs[k].s ys[k].s
        have hst : cmpR (xs.drop k) (ys.drop k) = _ := cmpR_step hkx hky
        rw [show cmpVV xs[k] ys[k] = cmpV xs[k].k xs[k].i xs[k].s ys[k].k ys[k].i ys[k].s from rfl] at hst
        obtain ⟨r, hr⟩ : ∃ r, r = cmpV xs[k].k xs[k].i xs[k].s ys[k].k ys[k].i ys[k].s := ⟨_, rfl⟩
        rw [← hr] at hcall hst
        clear hr
        have HS := Lib.hid hst
        clear hst
        generalize xs[k].k = vk at *
        generalize xs[k].i = vi at *
        generalize xs[k].s = vs at *
        generalize ys[k].k = uk at *
        generalize ys[k].i = ui at *
        generalize ys[k].s = us at *
        by_cases h0 : r = 0
        · subst h0
          go_wp2_with fail
          go_still_tail 8, (by kernel_rfl)
          change wpList _ _ _ _ _ wr.drew
          go_wp2_with (go_at_call 35; refine (hcall _).mono ?_; rintro e w1 ⟨rfl, hb1⟩)
          go_roundw
          case rel => exact ⟨k + 1, by omega, by go_num, hb.drew.trans (hb1.mono (by simp; omega)), by omega, heq.out.trans (HS.out.trans (by simp))⟩
          case measure => simp [intOf]; omega
        · have h1 : (r != 0) = true := by simpa using h0
          have H0 := Lib.hid h0
          clear h0
          go_wp2_with fail
          go_still_tail 8, (by kernel_rfl)
          change wpList _ _ _ _ _ wr.drew
          go_wp2_with (go_at_call 35; refine (hcall _).mono ?_; rintro e w1 ⟨rfl, hb1⟩)
          go_ret
          exact ⟨ret_int (heq.out.trans (HS.out.trans (if_neg H0.out))).symm, hb.drew.trans (hb1.mono (by simp; omega))⟩
      · go_wp2_with fail
        go_ret
        exact ⟨ret_int (heq.out.trans (cmpR_more hkx (by rw [← HM.out]; omega))).symm, hb⟩
    · obtain rfl : k = n := by omega
      by_cases hlt' : k < m
      · go_wp2_with fail
        go_ret
        exact ⟨ret_int (heq.out.trans (cmpR_less (by rw [← HN.out]; omega) (by rw [← HM.out]; omega))).symm, hb⟩
      · go_wp2_with fail
        go_ret
        exact ⟨ret_int (heq.out.trans (cmpR_end (by rw [← HN.out]; omega) (by rw [← HM.out]; omega))).symm, hb⟩
end Go.Proofs.YtnpemegklndegaaDoor
