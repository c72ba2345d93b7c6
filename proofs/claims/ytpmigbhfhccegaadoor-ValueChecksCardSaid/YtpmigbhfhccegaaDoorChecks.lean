/- The walk of the law ValueChecks: it answers true, whatever two rows. Conditions: rows and texts shorter than 2 to the 47, and the library's two variables hold what they hold at the start. -/
import Derived.Test.YtpmigbhfhccegaaDoorOrders
import Derived.Deep.RegionHeld3
import Derived.Deep.QuietTactic
import Derived.BigQuiet
namespace Go.Proofs.YtpmigbhfhccegaaDoor
open Go.RowKit
/-- A value in old memory, and all that was there when the call began. -/
def One (w : World) (b o : Nat) (x : V) (w' : World) : Prop := w'.cell? ⟨b, o, none⟩ = some (.int .i64 x.k) ∧ w'.cell? ⟨b, o + 1, none⟩ = some (.int .i64 x.i) ∧ w'.cell? ⟨b, o + 2, none⟩ = some (.string x.s) ∧ Below w.heap.size w w'
theorem One.of {w : World} {b o : Nat} {x : V} {w' : World} (h : CellsAt w b o x) (hb : Below w.heap.size w w') (hlt : b < w.heap.size) : One w b o x w' :=
  ⟨(hb.cell (p := ⟨b, o, none⟩) hlt).trans h.1, (hb.cell (p := ⟨b, o + 1, none⟩) hlt).trans h.2.1, (hb.cell (p := ⟨b, o + 2, none⟩) hlt).trans h.2.2, hb⟩
theorem One.later {w : World} {b o : Nat} {x : V} {w' w2 : World} (h : One w b o x w') (hlt : b < w.heap.size) (hb : Below w'.heap.size w' w2) : One w b o x w2 := by
  obtain ⟨h0, h1, h2, h7⟩ := h
  have hz : b < w'.heap.size := Nat.lt_of_lt_of_le hlt h7.size
  exact ⟨(hb.cell (p := ⟨b, o, none⟩) hz).trans h0, (hb.cell (p := ⟨b, o + 1, none⟩) hz).trans h1, (hb.cell (p := ⟨b, o + 2, none⟩) hz).trans h2, bthen h7 hb⟩
theorem One.drew {w : World} {b o : Nat} {x : V} {w' : World} (h : One w b o x w') : One w b o x w'.drew := ⟨h.1, h.2.1, h.2.2.1, h.2.2.2.drew⟩
/-- Two values in old memory, and all that was there when the call began. -/
def Two (w : World) (b o b' o' : Nat) (x y : V) (w' : World) : Prop := w'.cell? ⟨b, o, none⟩ = some (.int .i64 x.k) ∧ w'.cell? ⟨b, o + 1, none⟩ = some (.int .i64 x.i) ∧ w'.cell? ⟨b, o + 2, none⟩ = some (.string x.s) ∧ w'.cell? ⟨b', o', none⟩ = some (.int .i64 y.k) ∧ w'.cell? ⟨b', o' + 1, none⟩ = some (.int .i64 y.i) ∧ w'.cell? ⟨b', o' + 2, none⟩ = some (.string y.s) ∧ Below w.heap.size w w'
theorem Two.of {w : World} {b o b' o' : Nat} {x y : V} {w' : World} (h : One w b o x w') (h' : One w b' o' y w') : Two w b o b' o' x y w' := ⟨h.1, h.2.1, h.2.2.1, h'.1, h'.2.1, h'.2.2.1, h.2.2.2⟩
theorem Two.later {w : World} {b o b' o' : Nat} {x y : V} {w' w2 : World} (h : Two w b o b' o' x y w') (hlt : b < w.heap.size) (hlt' : b' < w.heap.size) (hb : Below w'.heap.size w' w2) : Two w b o b' o' x y w2 := by
  obtain ⟨h0, h1, h2, h3, h4, h5, h7⟩ := h
  exact Two.of (One.later ⟨h0, h1, h2, h7⟩ hlt hb) (One.later ⟨h3, h4, h5, h7⟩ hlt' hb)
theorem Two.drew {w : World} {b o b' o' : Nat} {x y : V} {w' : World} (h : Two w b o b' o' x y w') : Two w b o b' o' x y w'.drew := ⟨h.1, h.2.1, h.2.2.1, h.2.2.2.1, h.2.2.2.2.1, h.2.2.2.2.2.1, h.2.2.2.2.2.2.drew⟩
set_option maxRecDepth 100000 in
set_option maxHeartbeats 4000000 in
theorem checks_core (a b : R) (w : World) (hE : Env w) (ha : RowAt w w.heap.size a.A a.xs) (hb : RowAt w w.heap.size b.A b.xs) (sa : RowSmall a.xs) (sb : RowSmall b.xs) :
    Calls Tryd.prog 3 #[a.val, b.val] w fun e w' => e = .returned (.bool true) ∧ Below w.heap.size w w' := by
  have hab : ∀ w', Below w.heap.size w w' → Calls Tryd.prog 20 #[a.val, b.val] w' fun e w2 => e = .returned (.int .i64 (cmpR a.xs b.xs)) ∧ Below w'.heap.size w' w2 := fun w' h => cmpR_any _ _ _ _ _ _ w' (ha.later h) (hb.later h) (by have := sa.1; omega)
  have hrab : ∀ w', Below w.heap.size w w' → Calls Tryd.prog 21 #[a.val, b.val] w' fun e w2 => e = .returned (.int .i64 (cmpR a.xs b.xs)) ∧ Below w'.heap.size w' w2 := fun w' h => rcmpR_any _ _ _ _ _ _ w' (ha.later h) (hb.later h) (by have := sa.1; omega)
  have hca : ∀ w', Below w.heap.size w w' → Calls Tryd.prog 18 #[a.val] w' fun e w2 => e = .returned (.int .i64 (chkR a.xs)) ∧ Below w'.heap.size w' w2 := fun w' h => checkRow_any _ _ _ w' (ha.later h) (by have := sa.1; omega)
  have hrca : ∀ w', Below w.heap.size w w' → Calls Tryd.prog 19 #[a.val] w' fun e w2 => e = .returned (.int .i64 (chkR a.xs)) ∧ Below w'.heap.size w' w2 := fun w' h => rcheckRow_any _ _ _ w' (ha.later h) (by have := sa.1; omega)
  have hbig : ∀ w', Below w.heap.size w w' → ∃ f : Bool, Calls Tryd.prog 11 #[.slice (some ⟨w'.heap.size, 0, none⟩) 2 2] (w'.alloc (.cells #[a.val, b.val] 23)) fun e w2 => e = .returned (.bool f) ∧ Below (w'.alloc (.cells #[a.val, b.val] 23)).heap.size (w'.alloc (.cells #[a.val, b.val] 23)) w2 := fun w' h =>
    ⟨_, big_any [a, b] _ 2 _ (rows_made w' [a, b] (all2 (P := fun r => RowAt w' w'.heap.size r.A r.xs) (ha.later h) (hb.later h)) _ rfl 23) (by simp) (all2 (P := fun r => RowSmall r.xs) sa sb)⟩
  generalize cmpR a.xs b.xs = c at *
  generalize chkR a.xs = d at *
  have sa1 := sa.1
  have sb1 := sb.1
  clear sa sb
  have HA := Lib.hid ha
  have HB := Lib.hid hb
  clear ha hb
  unfold R.val at *
  generalize a.A = aa at *
  generalize b.A = ab at *
  generalize a.c = ca at *
  generalize b.c = cb at *
  generalize a.xs = xs at *
  generalize b.xs = ys at *
  generalize hn : xs.length = n at *
  generalize hn' : ys.length = m at *
  have HN := Lib.hid hn
  have HM := Lib.hid hn'
  have HE := Lib.hid hE
  have HAB := Lib.hid hab
  have HRAB := Lib.hid hrab
  have HCA := Lib.hid hca
  have HRCA := Lib.hid hrca
  have HBIG := Lib.hid hbig
  clear hE hab hrab hca hrca hbig hn hn'
  go_enter Tryd.func3, Tryd.ntmps3
  go_wp2_with fail
  refine (live_any w HE.out).mono ?_
  rintro e w1 ⟨rfl, b1⟩
  go_wp2_with fail
  obtain ⟨f, hf⟩ := HBIG.out w1 b1
  refine hf.mono ?_
  clear hf
  rintro e w2 ⟨rfl, b2⟩
  have c2 : Below w.heap.size w w2 := (b1.alloc b1.size _).trans (b2.mono (by have := b1.size; simp; omega))
  clear b2
  cases f
  · go_wp2_with fail
    go_loopw [15] (fun i wr => ∃ k : Nat, k ≤ n ∧ i = .int .i64 k ∧ Below w.heap.size w wr) (fun i _ => n - (intOf i).toNat)
    case atStart => exact ⟨0, Nat.zero_le _, rfl, c2⟩
    case round =>
      obtain ⟨k, hk, rfl, hb⟩ := hrel
      by_cases hlt : k < n
      · have hkx : k < xs.length := by rw [HN.out]; exact hlt
        obtain ⟨g, off, hA, hbl, hc⟩ := HA.out (by omega)
        subst hA
        have hone := One.of (hc k hkx) hb hbl
        have hch := check_any xs[k].k xs[k].i xs[k].s
        have hrch := rcheck_any xs[k].k xs[k].i xs[k].s
        clear hc
        generalize xs[k] = x at *
        generalize chkI x.k x.i x.s = r at *
        have HONE := Lib.hid hone.drew
        have HCH := Lib.hid hch
        have HRCH := Lib.hid hrch
        clear hone hch hrch
        have hb4 := Below.refl wr.drew.heap.size wr.drew
        go_wp2_with fail
        go_region_held3 (fun w' => w'.cell? ⟨g, off + k * 3, none⟩ = some (.int .i64 x.k) ∧ w'.cell? ⟨g, off + k * 3 + 1, none⟩ = some (.int .i64 x.i) ∧ w'.cell? ⟨g, off + k * 3 + 2, none⟩ = some (.string x.s) ∧ Below w.heap.size w w') (first | exact HONE.out | exact One.later (by assumption) hbl hb4) (first | (go_at_call 12; go_must (refine (HCH.out _).mono ?_); rintro e w4 ⟨rfl, hb4⟩) | (go_at_call 13; go_must (refine (HRCH.out _).mono ?_); rintro e w4 ⟨rfl, hb4⟩))
        have hs : One w g (off + k * 3) x w4 := by assumption
        have c4 := hs.2.2.2
        have HS4 := Lib.hid hs
        clear hs
        by_cases hlt' : k < m
        · have hky : k < ys.length := by rw [HM.out]; exact hlt'
          obtain ⟨g', off', hA', hbl', hc'⟩ := HB.out (by omega)
          subst hA'
          have htwo := Two.of HS4.out (One.of (hc' k hky) c4 hbl')
          have hsm := same_any x.k x.i ys[k].k ys[k].i x.s ys[k].s
          have hrsm := rsame_any x.k x.i ys[k].k ys[k].i x.s ys[k].s
          have hcm := cmpV_any x.k x.i ys[k].k ys[k].i x.s ys[k].s
          have hrcm := rcmpV_any x.k x.i ys[k].k ys[k].i x.s ys[k].s
          clear hc'
          generalize ys[k] = y at *
          generalize sameB x.k x.i x.s y.k y.i y.s = q at *
          generalize cmpV x.k x.i x.s y.k y.i y.s = c' at *
          have HTWO := Lib.hid htwo.drew
          have HSM := Lib.hid hsm
          have HRSM := Lib.hid hrsm
          have HCM := Lib.hid hcm
          have HRCM := Lib.hid hrcm
          clear htwo hsm hrsm hcm hrcm
          have hb4 := Below.refl w4.drew.heap.size w4.drew
          go_wp2_with fail
          go_region_held3 (fun w' => w'.cell? ⟨g, off + k * 3, none⟩ = some (.int .i64 x.k) ∧ w'.cell? ⟨g, off + k * 3 + 1, none⟩ = some (.int .i64 x.i) ∧ w'.cell? ⟨g, off + k * 3 + 2, none⟩ = some (.string x.s) ∧ w'.cell? ⟨g', off' + k * 3, none⟩ = some (.int .i64 y.k) ∧ w'.cell? ⟨g', off' + k * 3 + 1, none⟩ = some (.int .i64 y.i) ∧ w'.cell? ⟨g', off' + k * 3 + 2, none⟩ = some (.string y.s) ∧ Below w.heap.size w w') (first | exact HTWO.out | exact Two.later (by assumption) hbl hbl' hb4) (first | (go_at_call 14; go_must (refine (HSM.out _).mono ?_); rintro e w5 ⟨rfl, hb4⟩) | (go_at_call 15; go_must (refine (HRSM.out _).mono ?_); rintro e w5 ⟨rfl, hb4⟩) | (go_at_call 16; go_must (refine (HCM.out _).mono ?_); rintro e w5 ⟨rfl, hb4⟩) | (go_at_call 17; go_must (refine (HRCM.out _).mono ?_); rintro e w5 ⟨rfl, hb4⟩))
          have hs : Two w g (off + k * 3) g' (off' + k * 3) x y w5 := by assumption
          have c5 := hs.2.2.2.2.2.2
          clear hs
          go_wp2_with fail
          go_roundw
          case rel => exact ⟨k + 1, by omega, by go_num, c5⟩
          case measure => simp [intOf]; omega
        · have hd : decide (k < m) = false := by simpa using hlt'
          go_wp2_with fail
          go_quiet (fail)
          go_wp2_with fail
          go_roundw
          case rel => exact ⟨k + 1, by omega, by go_num, by first | exact c4 | exact c4.drew | exact below_drewN c4 _⟩
          case measure => simp [intOf]; omega
      · obtain rfl : k = n := by omega
        go_wp2_with fail
        refine (HCA.out _ hb).mono ?_
        rintro e w3 ⟨rfl, b3⟩
        have c3 := bthen hb b3
        go_wp2_with fail
        refine (HRCA.out _ c3).mono ?_
        rintro e w4 ⟨rfl, b4⟩
        have c4 := bthen c3 b4
        go_wp2_with fail
        refine (HAB.out _ c4).mono ?_
        rintro e w5 ⟨rfl, b5⟩
        have c5 := bthen c4 b5
        go_wp2_with fail
        refine (HRAB.out _ c5).mono ?_
        rintro e w6 ⟨rfl, b6⟩
        have c6 := bthen c5 b6
        go_wp2_with fail
        go_ret
        go_light
        exact ⟨by simp, c6⟩
  · go_wp2_with fail
    go_ret
    exact ⟨rfl, c2⟩
end Go.Proofs.YtpmigbhfhccegaaDoor
