/- The walk of the law CodeOrders: it answers true, whatever two rows lie in memory, of no more than 2 to the 47 values and texts no longer, and where the library's one variable that is read is there. -/
import Derived.Test.YtnpemegklndegaaDoorCodWrites
import Derived.Test.YtnpemegklndegaaDoorCodOrd
namespace Go.Proofs.YtnpemegklndegaaDoor
open Go.RowKit
theorem keys_ordered {xs ys : List V} (fx : ∀ v ∈ xs, v.fits) (fy : ∀ v ∈ ys, v.fits) (hx : chkR xs = 0) (hy : chkR ys = 0) : cmpS ⟨(encL true xs).toArray⟩ ⟨(encL true ys).toArray⟩ = cmpR xs ys := by
  unfold encL
  rw [if_pos hx, if_pos hy, if_pos rfl, if_pos rfl]
  rw [← cB_row xs ys (chk_okv hx fx).1 (chk_okv hy fy).1]
  unfold cmpS cB
  rw [compareBytes_cmpL]
set_option maxRecDepth 100000 in
set_option maxHeartbeats 1000000 in
theorem orders_core (a b : R) (w : World) (hE : Env w) (ha : RowAt w w.heap.size a.A a.xs) (hb : RowAt w w.heap.size b.A b.xs) (sa : RowSmall a.xs) (sb : RowSmall b.xs) (fa : ∀ v ∈ a.xs, v.fits) (fb : ∀ v ∈ b.xs, v.fits) :
    Calls Tryd.prog 6 #[a.val, b.val] w fun e w' => e = .returned (.bool true) ∧ Below w.heap.size w w' := by
  have hsz := hE.size
  have HL := Lib.hid (live_any w hE)
  have HB : Hid (∀ w', Below w.heap.size w w' → Calls Tryd.prog 10 #[.slice (some ⟨w'.heap.size, 0, none⟩) 2 2] (w'.alloc (.cells #[a.val, b.val] 23)) fun e w2 => e = .returned (.bool (!few [a, b] 20000)) ∧ Below w'.heap.size w' w2) := fun w' h => big2_at a b w' (ha.later h) sa (hb.later h) sb
  have HF : Hid (few [a, b] 20000 = true → ∀ w', Below w.heap.size w w' → Gives 13 a.val (encL true a.xs) (chkR a.xs) w' ∧ Gives 13 b.val (encL true b.xs) (chkR b.xs) w' ∧ Calls Tryd.prog 22 #[a.val, b.val] w' fun e w2 => e = .returned (.int .i64 (cmpR a.xs b.xs)) ∧ Below w'.heap.size w' w2) := fun h0 w' h => by
    obtain ⟨⟨h1, h2⟩, h3, h4, -⟩ := few2 h0
    exact ⟨.of (key_any _ _ _ _ (ha.later h) fa h1 (by omega) (hE.below h hsz)), .of (key_any _ _ _ _ (hb.later h) fb h3 (by omega) (hE.below h hsz)), rcmpR_any _ _ _ _ _ _ w' (ha.later h) (hb.later h) (by omega)⟩
  have HK : Hid (chkR a.xs = 0 → chkR b.xs = 0 → cmpS ⟨(encL true a.xs).toArray⟩ ⟨(encL true b.xs).toArray⟩ = cmpR a.xs b.xs) := keys_ordered fa fb
  have hx := cmpR_ok.range a.xs b.xs
  have hna := chk_cases a.xs
  have hnb := chk_cases b.xs
  generalize few [a, b] 20000 = f at *
  generalize encL true a.xs = l at *
  generalize encL true b.xs = m at *
  generalize chkR a.xs = na at *
  generalize chkR b.xs = nb at *
  generalize cmpR a.xs b.xs = x at *
  clear ha hb sa sb fa fb hE
  unfold Gives R.val at *
  generalize a.xs.length = la at *
  generalize b.xs.length = lb at *
  generalize a.A = aa at *
  generalize b.A = ab at *
  generalize a.c = ca at *
  generalize b.c = cb at *
  go_enter Tryd.func6, Tryd.ntmps6
  go_wp2_with fail
  refine HL.out.mono ?_
  rintro e w1 ⟨rfl, b1⟩
  go_wp2_with fail
  refine (HB.out w1 b1).mono ?_
  rintro e w2 ⟨rfl, b2⟩
  have B2 := bthen b1 b2
  cases f
  · go_wp2_with fail
    go_ret
    exact ⟨rfl, B2⟩
  · go_wp2_with fail
    refine ((HF.out (by trivial) w2 B2).1).mono ?_
    rintro e w3 ⟨A3, c3, rfl, y3, b3, -, -⟩
    have B3 := bthen B2 b3
    go_wp2_with fail
    refine ((HF.out (by trivial) w3 B3).2.1).mono ?_
    rintro e w4 ⟨A4, c4, rfl, y4, b4, -, -⟩
    have B4 := bthen B3 b4
    have k3 := conv_at (c := c3) (y3.later b4)
    have k4 := conv_at (c := c4) y4
    clear y3 y4
    by_cases h0 : na = 0 ∧ nb = 0
    · obtain ⟨rfl, rfl⟩ := h0
      have hc := HK.out rfl rfl
      have hc2 := cmpS_ok.flip ⟨l.toArray⟩ ⟨m.toArray⟩
      have hl1 := bytesLess_cmpS ⟨l.toArray⟩ ⟨m.toArray⟩
      have hl2 := bytesLess_cmpS ⟨m.toArray⟩ ⟨l.toArray⟩
      rw [hc2, hc] at hl2
      rw [hc] at hl1
      have hl3 : (l == m) = decide (x = 0) := by
        rw [Bool.eq_iff_iff, beq_iff_eq, decide_eq_true_iff, ← hc, cmpS_ok.zero]
        simp
      rw [Lib.toList_data, Lib.toList_data] at hl1 hl2
      change Op.bytesLess l m = _ at hl1
      change Op.bytesLess m l = _ at hl2
      clear hc hc2 hna hnb
      rcases hx with rfl | rfl | rfl
      · have e1 : Op.bytesLess l m = true := by rw [hl1]; rfl
        clear hl1 hl2 hl3
        go_wp2_with fail
        refine ((HF.out (by trivial) w4 B4).2.2).mono ?_
        rintro e w5 ⟨rfl, b5⟩
        go_wp2_with fail
        go_ret
        exact ⟨rfl, bthen B4 b5⟩
      · have e1 : Op.bytesLess l m = false := by rw [hl1]; rfl
        have e2 : (l == m) = true := by rw [hl3]; rfl
        clear hl1 hl2 hl3
        go_wp2_with fail
        refine ((HF.out (by trivial) w4 B4).2.2).mono ?_
        rintro e w5 ⟨rfl, b5⟩
        go_wp2_with fail
        go_ret
        exact ⟨rfl, bthen B4 b5⟩
      · have e1 : Op.bytesLess l m = false := by rw [hl1]; rfl
        have e2 : (l == m) = false := by rw [hl3]; rfl
        clear hl1 hl2 hl3
        go_wp2_with fail
        refine ((HF.out (by trivial) w4 B4).2.2).mono ?_
        rintro e w5 ⟨rfl, b5⟩
        go_wp2_with fail
        go_ret
        exact ⟨rfl, bthen B4 b5⟩
    · clear hx HK
      rcases hna with rfl | rfl | rfl <;> rcases hnb with rfl | rfl | rfl <;> (first | (exfalso; simp at h0; done) | skip)
      all_goals
        clear h0
        go_wp2_with fail
        go_ret
        exact ⟨rfl, B4⟩
end Go.Proofs.YtnpemegklndegaaDoor
