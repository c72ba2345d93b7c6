/- Contracts of the loops over a row: CheckRow and CompareRows of value and of the reference, whatever rows lie in memory. Condition: no row is longer than the greatest int. -/
import Derived.Test.YtpmigbhfhccegaaDoorVal
import Derived.StillTailTactics
namespace Go.Proofs.YtpmigbhfhccegaaDoor
open Go.RowKit

def CellsAt (w : World) (b off : Nat) (v : V) : Prop := w.cell? ⟨b, off, none⟩ = some (.int .i64 v.k) ∧ w.cell? ⟨b, off + 1, none⟩ = some (.int .i64 v.i) ∧ w.cell? ⟨b, off + 2, none⟩ = some (.string v.s)
def RowAt (w : World) (B : Nat) (A : Option Addr) (xs : List V) : Prop := 0 < xs.length → ∃ b off, A = some ⟨b, off, none⟩ ∧ b < B ∧ ∀ j (h : j < xs.length), CellsAt w b (off + j * 3) xs[j]
def V.chk (v : V) : Int := chkI v.k v.i v.s
def allOk (xs : List V) : Bool := xs.all fun v => v.chk == 0
def chkR (xs : List V) : Int := if allOk xs then (if 64 < xs.length then 2 else 0) else 1

theorem allOk_snoc {xs : List V} {k : Nat} (h : k < xs.length) (h0 : xs[k].chk = 0) (ha : allOk (xs.take k) = true) : allOk (xs.take (k + 1)) = true := by
  unfold allOk at ha ⊢
  rw [List.take_succ_eq_append_getElem h, List.all_append, ha]
  simp [h0]
theorem chkR_bad {xs : List V} {k : Nat} {r : Int} (h : k < xs.length) (hx : xs[k].chk = r) (hr : ¬ r = 0) : r = chkR xs := by
  have h1 : r = 1 := by
    rw [← hx] at hr ⊢
    unfold V.chk chkI at hr ⊢
    split at hr <;> simp_all
  have h2 : allOk xs = false := by
    unfold allOk
    rw [List.all_eq_false]
    exact ⟨xs[k], List.getElem_mem h, by rw [hx]; simpa using hr⟩
  unfold chkR
  rw [h2, h1]
  rfl
theorem chkR_good {xs : List V} {n : Nat} {r : Int} (hn : n = xs.length) (ha : allOk (xs.take n) = true) (hr : r = if 64 < n then 2 else 0) : r = chkR xs := by
  subst hn
  rw [List.take_length] at ha
  unfold chkR
  rw [ha, hr]
  rfl

theorem RowAt.below {w w' : World} {B : Nat} {A : Option Addr} {xs : List V} (h : RowAt w B A xs) (hb : Below B w w') : RowAt w' B A xs := by
  intro hl
  obtain ⟨b, off, hA, hlt, hc⟩ := h hl
  refine ⟨b, off, hA, hlt, fun j hj => ?_⟩
  obtain ⟨h1, h2, h3⟩ := hc j hj
  exact ⟨(hb.cell (p := ⟨b, _, none⟩) hlt).trans h1, (hb.cell (p := ⟨b, _, none⟩) hlt).trans h2, (hb.cell (p := ⟨b, _, none⟩) hlt).trans h3⟩

set_option maxHeartbeats 400000 in
theorem checkRow_any (xs : List V) (A : Option Addr) (c : Nat) (w : World) (hr : RowAt w w.heap.size A xs) (hm : xs.length ≤ 9223372036854775807) :
    Calls Tryd.prog 18 #[.slice A xs.length c] w fun e w' => e = .returned (.int .i64 (chkR xs)) ∧ Below w.heap.size w w' := by
  obtain ⟨n, hn⟩ : ∃ n, n = xs.length := ⟨_, rfl⟩
  have HN := Lib.hid hn
  rw [← hn] at hm ⊢
  clear hn
  have HR := Lib.hid hr
  clear hr
  go_enter Tryd.func18, Tryd.ntmps18
  go_wp2_with fail
  go_loopw [8] (fun i wr => ∃ k : Nat, k ≤ n ∧ i = .int .i64 k ∧ Below w.heap.size w wr ∧ Hid (allOk (xs.take k) = true)) (fun i _ => n - (intOf i).toNat)
  case atStart => exact ⟨0, Nat.zero_le _, rfl, Below.refl _ _, rfl⟩
  case round =>
    obtain ⟨k, hk, rfl, hb, hall⟩ := hrel
    by_cases hlt : k < n
    · have hkx : k < xs.length := by rw [← HN.out]; exact hlt
      obtain ⟨b, off, hA, hbl, hc⟩ := HR.out (by omega)
      subst hA
      obtain ⟨c1, c2, c3⟩ := hc k hkx
      have d1 := (hb.cell (p := ⟨b, _, none⟩) hbl).trans c1
      have d2 := (hb.cell (p := ⟨b, _, none⟩) hbl).trans c2
      have d3 := (hb.cell (p := ⟨b, _, none⟩) hbl).trans c3
      clear c1 c2 c3 hc
      have hcall := check_any xs[k].k xs[k].i xs[k].s
      obtain ⟨r, hr⟩ : ∃ r, r = chkI xs[k].k xs[k].i xs[k].s := ⟨_, rfl⟩
      rw [← hr] at hcall
      have HX : Hid (xs[k].chk = r) := hr.symm
      clear hr
      generalize xs[k].k = vk at *
      generalize xs[k].i = vi at *
      generalize xs[k].s = vs at *
      by_cases h0 : r = 0
      · subst h0
        go_wp2_with (go_at_call 12; refine (hcall _).mono ?_; rintro e w1 ⟨rfl, hb1⟩)
        go_roundw
        case rel => exact ⟨k + 1, by omega, by go_num, (hb.alloc hb.size _).trans (hb1.mono (by have := hb.size; simp; omega)), allOk_snoc hkx HX.out hall.out⟩
        case measure => simp [intOf]; omega
      · have h1 : (r != 0) = true := by simpa using h0
        have H0 := Lib.hid h0
        clear h0
        go_wp2_with (go_at_call 12; refine (hcall _).mono ?_; rintro e w1 ⟨rfl, hb1⟩)
        go_ret
        exact ⟨ret_int (chkR_bad hkx HX.out H0.out), (hb.alloc hb.size _).trans (hb1.mono (by have := hb.size; simp; omega))⟩
    · obtain rfl : k = n := by omega
      go_wp2_with fail
      all_goals go_ret
      all_goals exact ⟨ret_int (chkR_good HN.out hall.out (by omega)), hb⟩
set_option maxHeartbeats 400000 in
theorem rcheckRow_any (xs : List V) (A : Option Addr) (c : Nat) (w : World) (hr : RowAt w w.heap.size A xs) (hm : xs.length ≤ 9223372036854775807) :
    Calls Tryd.prog 19 #[.slice A xs.length c] w fun e w' => e = .returned (.int .i64 (chkR xs)) ∧ Below w.heap.size w w' := by
  obtain ⟨n, hn⟩ : ∃ n, n = xs.length := ⟨_, rfl⟩
  have HN := Lib.hid hn
  rw [← hn] at hm ⊢
  clear hn
  have HR := Lib.hid hr
  clear hr
  go_enter Tryd.func19, Tryd.ntmps19
  go_wp2_with fail
  go_loopw [8] (fun i wr => ∃ k : Nat, k ≤ n ∧ i = .int .i64 k ∧ Below w.heap.size w wr ∧ Hid (allOk (xs.take k) = true)) (fun i _ => n - (intOf i).toNat)
  case atStart => exact ⟨0, Nat.zero_le _, rfl, Below.refl _ _, rfl⟩
  case round =>
    obtain ⟨k, hk, rfl, hb, hall⟩ := hrel
    by_cases hlt : k < n
    · have hkx : k < xs.length := by rw [← HN.out]; exact hlt
      obtain ⟨b, off, hA, hbl, hc⟩ := HR.out (by omega)
      subst hA
      obtain ⟨c1, c2, c3⟩ := hc k hkx
      have d1 := (hb.cell (p := ⟨b, _, none⟩) hbl).trans c1
      have d2 := (hb.cell (p := ⟨b, _, none⟩) hbl).trans c2
      have d3 := (hb.cell (p := ⟨b, _, none⟩) hbl).trans c3
      clear c1 c2 c3 hc
      have hcall := rcheck_any xs[k].k xs[k].i xs[k].s
      obtain ⟨r, hr⟩ : ∃ r, r = chkI xs[k].k xs[k].i xs[k].s := ⟨_, rfl⟩
      rw [← hr] at hcall
      have HX : Hid (xs[k].chk = r) := hr.symm
      clear hr
      generalize xs[k].k = vk at *
      generalize xs[k].i = vi at *
      generalize xs[k].s = vs at *
      by_cases h0 : r = 0
      · subst h0
        go_wp2_with (go_at_call 13; refine (hcall _).mono ?_; rintro e w1 ⟨rfl, hb1⟩)
        go_roundw
        case rel => exact ⟨k + 1, by omega, by go_num, (hb.alloc hb.size _).trans (hb1.mono (by have := hb.size; simp; omega)), allOk_snoc hkx HX.out hall.out⟩
        case measure => simp [intOf]; omega
      · have h1 : (r != 0) = true := by simpa using h0
        have H0 := Lib.hid h0
        clear h0
        go_wp2_with (go_at_call 13; refine (hcall _).mono ?_; rintro e w1 ⟨rfl, hb1⟩)
        go_ret
        exact ⟨ret_int (chkR_bad hkx HX.out H0.out), (hb.alloc hb.size _).trans (hb1.mono (by have := hb.size; simp; omega))⟩
    · obtain rfl : k = n := by omega
      go_wp2_with fail
      all_goals go_ret
      all_goals exact ⟨ret_int (chkR_good HN.out hall.out (by omega)), hb⟩
theorem cmpR_step {xs ys : List V} {k : Nat} (h : k < xs.length) (h' : k < ys.length) : cmpR (xs.drop k) (ys.drop k) = if cmpVV xs[k] ys[k] = 0 then cmpR (xs.drop (k + 1)) (ys.drop (k + 1)) else cmpVV xs[k] ys[k] := by
  rw [List.drop_eq_getElem_cons h, List.drop_eq_getElem_cons h']
  rfl
theorem cmpR_more {xs ys : List V} {k : Nat} (h : k < xs.length) (h' : ys.length ≤ k) : cmpR (xs.drop k) (ys.drop k) = 1 := by
  rw [List.drop_eq_getElem_cons h, List.drop_eq_nil_of_le h']
  rfl
theorem cmpR_less {xs ys : List V} {k : Nat} (h : xs.length ≤ k) (h' : k < ys.length) : cmpR (xs.drop k) (ys.drop k) = -1 := by
  rw [List.drop_eq_getElem_cons h', List.drop_eq_nil_of_le h]
  rfl
theorem cmpR_end {xs ys : List V} {k : Nat} (h : xs.length ≤ k) (h' : ys.length ≤ k) : cmpR (xs.drop k) (ys.drop k) = 0 := by
  rw [List.drop_eq_nil_of_le h', List.drop_eq_nil_of_le h]
  rfl
set_option maxHeartbeats 400000 in
theorem compareFunc_any (xs ys : List V) (A A' : Option Addr) (c c' : Nat) (w : World) (hr : RowAt w w.heap.size A xs) (hr' : RowAt w w.heap.size A' ys) (hm : xs.length ≤ 9223372036854775807) :
    Calls Tryd.prog 40 #[.slice A xs.length c, .slice A' ys.length c', .func (.func 16) #[] #[]] w fun e w' => e = .returned (.int .i64 (cmpR xs ys)) ∧ Below w.heap.size w w' := by
  obtain ⟨n, hn⟩ : ∃ n, n = xs.length := ⟨_, rfl⟩
  obtain ⟨m, hn'⟩ : ∃ m, m = ys.length := ⟨_, rfl⟩
  have HN := Lib.hid hn
  have HM := Lib.hid hn'
  rw [← hn] at hm ⊢
  rw [← hn']
  clear hn hn'
  have HR := Lib.hid hr
  have HR' := Lib.hid hr'
  clear hr hr'
  go_enter Tryd.func40, Tryd.ntmps40
  go_wp2_with fail
  go_loopw [13] (fun i wr => ∃ k : Nat, k ≤ n ∧ i = .int .i64 k ∧ Below w.heap.size w wr ∧ k ≤ m ∧ Hid (cmpR xs ys = cmpR (xs.drop k) (ys.drop k))) (fun i _ => n - (intOf i).toNat)
  case atStart => exact ⟨0, Nat.zero_le _, rfl, Below.refl _ _, Nat.zero_le _, rfl⟩
  case round =>
    obtain ⟨k, hk, rfl, hb, hkm, heq⟩ := hrel
    by_cases hlt : k < n
    · have hkx : k < xs.length := by rw [← HN.out]; exact hlt
      obtain ⟨b, off, hA, hbl, hc⟩ := HR.out (by omega)
      subst hA
      obtain ⟨c1, c2, c3⟩ := hc k hkx
      have d1 := (hb.cell (p := ⟨b, _, none⟩) hbl).trans c1
      have d2 := (hb.cell (p := ⟨b, _, none⟩) hbl).trans c2
      have d3 := (hb.cell (p := ⟨b, _, none⟩) hbl).trans c3
      clear c1 c2 c3 hc
      have hbs := hb.size
      by_cases hlt' : k < m
      · have hky : k < ys.length := by rw [← HM.out]; exact hlt'
        obtain ⟨b', off', hA', hbl', hc'⟩ := HR'.out (by omega)
        subst hA'
        obtain ⟨c1, c2, c3⟩ := hc' k hky
        have e1 := fun o => (World.cell?_alloc_lt wr o ⟨b', _, none⟩ (by show b' < _; omega)).trans ((hb.cell (p := ⟨b', _, none⟩) hbl').trans c1)
        have e2 := fun o => (World.cell?_alloc_lt wr o ⟨b', _, none⟩ (by show b' < _; omega)).trans ((hb.cell (p := ⟨b', _, none⟩) hbl').trans c2)
        have e3 := fun o => (World.cell?_alloc_lt wr o ⟨b', _, none⟩ (by show b' < _; omega)).trans ((hb.cell (p := ⟨b', _, none⟩) hbl').trans c3)
        clear c1 c2 c3 hc'
        have hcall := cmpV_any xs[k].k xs[k].i ys[k].k ys[k].i xs[k].s ys[k].s
        have hst : cmpR (xs.drop k) (ys.drop k) = _ := cmpR_step hkx hky
        rw [show cmpVV xs[k] ys[k] = cmpV xs[k].k xs[k].i xs[k].s ys[k].k ys[k].i ys[k].s from rfl] at hst
        obtain ⟨r, hr⟩ : ∃ r, r = cmpV xs[k].k xs[k].i xs[k].s ys[k].k ys[k].i ys[k].s := ⟨_, rfl⟩
        rw [← hr] at hcall hst
        clear hr
        have HS := Lib.hid hst
        clear hst
        generalize xs[k].k = vk at *
        generalize xs[k].i = vi at *
        generalize xs[k].s = vs at *
        generalize ys[k].k = uk at *
        generalize ys[k].i = ui at *
        generalize ys[k].s = us at *
        by_cases h0 : r = 0
        · subst h0
          go_wp2_with (go_at_call 16; refine (hcall _).mono ?_; rintro e w1 ⟨rfl, hb1⟩)
          go_roundw
          case rel => exact ⟨k + 1, by omega, by go_num, ((hb.alloc hb.size _).alloc (by simp; omega) _).trans (hb1.mono (by simp; omega)), by omega, heq.out.trans (HS.out.trans (by simp))⟩
          case measure => simp [intOf]; omega
        · have h1 : (r != 0) = true := by simpa using h0
          have H0 := Lib.hid h0
          clear h0
          go_wp2_with (go_at_call 16; refine (hcall _).mono ?_; rintro e w1 ⟨rfl, hb1⟩)
          go_ret
          exact ⟨ret_int (heq.out.trans (HS.out.trans (if_neg H0.out))).symm, ((hb.alloc hb.size _).alloc (by simp; omega) _).trans (hb1.mono (by simp; omega))⟩
      · go_wp2_with fail
        go_ret
        exact ⟨ret_int (heq.out.trans (cmpR_more hkx (by rw [← HM.out]; omega))).symm, hb.alloc hb.size _⟩
    · obtain rfl : k = n := by omega
      by_cases hlt' : k < m
      · go_wp2_with fail
        go_ret
        exact ⟨ret_int (heq.out.trans (cmpR_less (by rw [← HN.out]; omega) (by rw [← HM.out]; omega))).symm, hb⟩
      · go_wp2_with fail
        go_ret
        exact ⟨ret_int (heq.out.trans (cmpR_end (by rw [← HN.out]; omega) (by rw [← HM.out]; omega))).symm, hb⟩
set_option maxHeartbeats 400000 in
theorem cmpR_any (xs ys : List V) (A A' : Option Addr) (c c' : Nat) (w : World) (hr : RowAt w w.heap.size A xs) (hr' : RowAt w w.heap.size A' ys) (hm : xs.length ≤ 9223372036854775807) :
    Calls Tryd.prog 20 #[.slice A xs.length c, .slice A' ys.length c'] w fun e w' => e = .returned (.int .i64 (cmpR xs ys)) ∧ Below w.heap.size w w' := by
  have h40 := compareFunc_any xs ys A A' c c' w hr hr' hm
  generalize cmpR xs ys = r at *
  clear hr hr'
  go_enter Tryd.func20, Tryd.ntmps20
  go_wp2_with (go_at_call 40; refine h40.mono ?_; rintro e w1 ⟨rfl, hb1⟩)
  go_ret
  exact ⟨rfl, hb1⟩
set_option maxRecDepth 100000 in
set_option maxHeartbeats 400000 in
theorem rcmpR_any (xs ys : List V) (A A' : Option Addr) (c c' : Nat) (w : World) (hr : RowAt w w.heap.size A xs) (hr' : RowAt w w.heap.size A' ys) (hm : xs.length ≤ 9223372036854775807) :
    Calls Tryd.prog 21 #[.slice A xs.length c, .slice A' ys.length c'] w fun e w' => e = .returned (.int .i64 (cmpR xs ys)) ∧ Below w.heap.size w w' := by
  obtain ⟨n, hn⟩ : ∃ n, n = xs.length := ⟨_, rfl⟩
  obtain ⟨m, hn'⟩ : ∃ m, m = ys.length := ⟨_, rfl⟩
  have HN := Lib.hid hn
  have HM := Lib.hid hn'
  rw [← hn] at hm ⊢
  rw [← hn']
  clear hn hn'
  have HR := Lib.hid hr
  have HR' := Lib.hid hr'
  clear hr hr'
  go_enter Tryd.func21, Tryd.ntmps21
  go_wp2_with fail
  go_loopw [9] (fun i wr => ∃ k : Nat, k ≤ n ∧ i = .int .i64 k ∧ Below w.heap.size w wr ∧ k ≤ m ∧ Hid (cmpR xs ys = cmpR (xs.drop k) (ys.drop k))) (fun i _ => n - (intOf i).toNat)
  case atStart => exact ⟨0, Nat.zero_le _, rfl, Below.refl _ _, Nat.zero_le _, rfl⟩
  case round =>
    obtain ⟨k, hk, rfl, hb, hkm, heq⟩ := hrel
    by_cases hlt : k < n
    · have hkx : k < xs.length := by rw [← HN.out]; exact hlt
      obtain ⟨b, off, hA, hbl, hc⟩ := HR.out (by omega)
      subst hA
      obtain ⟨c1, c2, c3⟩ := hc k hkx
      have d1 := (hb.cell (p := ⟨b, _, none⟩) hbl).trans c1
      have d2 := (hb.cell (p := ⟨b, _, none⟩) hbl).trans c2
      have d3 := (hb.cell (p := ⟨b, _, none⟩) hbl).trans c3
      clear c1 c2 c3 hc
      have hbs := hb.size
      by_cases hlt' : k < m
      · have hky : k < ys.length := by rw [← HM.out]; exact hlt'
        obtain ⟨b', off', hA', hbl', hc'⟩ := HR'.out (by omega)
        subst hA'
        obtain ⟨c1, c2, c3⟩ := hc' k hky
        have e1 := (hb.cell (p := ⟨b', _, none⟩) hbl').trans c1
        have e2 := (hb.cell (p := ⟨b', _, none⟩) hbl').trans c2
        have e3 := (hb.cell (p := ⟨b', _, none⟩) hbl').trans c3
        clear c1 c2 c3 hc'
        have hcall := rcmpV_any xs[k].k xs[k].i ys[k].k ys[k].i xs[k].s ys[k].s
        have hst : cmpR (xs.drop k) (ys.drop k) = _ := cmpR_step hkx hky
        rw [show cmpVV xs[k] ys[k] = cmpV xs[k].k xs[k].i xs[k].s ys[k].k ys[k].i ys[k].s from rfl] at hst
        obtain ⟨r, hr⟩ : ∃ r, r = cmpV xs[k].k xs[k].i xs[k].s ys[k].k ys[k].i ys[k].s := ⟨_, rfl⟩
        rw [← hr] at hcall hst
        clear hr
        have HS := Lib.hid hst
        clear hst
        generalize xs[k].k = vk at *
        generalize xs[k].i = vi at *
        generalize xs[k].s = vs at *
        generalize ys[k].k = uk at *
        generalize ys[k].i = ui at *
        generalize ys[k].s = us at *
        by_cases h0 : r = 0
        · subst h0
          go_wp2_with fail
          go_still_tail 8, (by kernel_rfl)
          change wpList _ _ _ _ _ wr.drew
          go_wp2_with (go_at_call 17; refine (hcall _).mono ?_; rintro e w1 ⟨rfl, hb1⟩)
          go_roundw
          case rel => exact ⟨k + 1, by omega, by go_num, hb.drew.trans (hb1.mono (by simp; omega)), by omega, heq.out.trans (HS.out.trans (by simp))⟩
          case measure => simp [intOf]; omega
        · have h1 : (r != 0) = true := by simpa using h0
          have H0 := Lib.hid h0
          clear h0
          go_wp2_with fail
          go_still_tail 8, (by kernel_rfl)
          change wpList _ _ _ _ _ wr.drew
          go_wp2_with (go_at_call 17; refine (hcall _).mono ?_; rintro e w1 ⟨rfl, hb1⟩)
          go_ret
          exact ⟨ret_int (heq.out.trans (HS.out.trans (if_neg H0.out))).symm, hb.drew.trans (hb1.mono (by simp; omega))⟩
      · go_wp2_with fail
        go_ret
        exact ⟨ret_int (heq.out.trans (cmpR_more hkx (by rw [← HM.out]; omega))).symm, hb⟩
    · obtain rfl : k = n := by omega
      by_cases hlt' : k < m
      · go_wp2_with fail
        go_ret
        exact ⟨ret_int (heq.out.trans (cmpR_less (by rw [← HN.out]; omega) (by rw [← HM.out]; omega))).symm, hb⟩
      · go_wp2_with fail
        go_ret
        exact ⟨ret_int (heq.out.trans (cmpR_end (by rw [← HN.out]; omega) (by rw [← HM.out]; omega))).symm, hb⟩
end Go.Proofs.YtpmigbhfhccegaaDoor
