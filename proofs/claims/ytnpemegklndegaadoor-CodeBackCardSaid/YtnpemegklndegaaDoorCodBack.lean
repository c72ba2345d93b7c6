/- The walk of the law CodeBack: it answers true, whatever row and bytes lie in memory, of no more than 2 to the 47 values and texts no longer, and where the library's one variable that is read is there. -/
import Derived.Test.YtnpemegklndegaaDoorCodReads
namespace Go.Proofs.YtnpemegklndegaaDoor
open Go.RowKit
theorem okv_small {xs : List V} (hf : ∀ v ∈ xs, v.fits) (hw : rowW xs ≤ 1000000) (h : chkR xs = 0) : (∀ v ∈ xs, v.okv ∧ v.s.size ≤ 2147483647) ∧ xs.length ≤ 64 := by
  obtain ⟨h1, h2⟩ := chk_okv h hf
  exact ⟨fun v hv => ⟨h1 v hv, by have := rowW_mem hv; omega⟩, h2⟩
theorem back_of {xs : List V} (hf : ∀ v ∈ xs, v.fits) (hw : rowW xs ≤ 1000000) (h : chkR xs = 0) (l : List UInt8) : dec (encL false xs ++ l) = some (xs, (encL false xs).length) ∧ rAll 64 (encL true xs) = some xs := by
  obtain ⟨h1, h2⟩ := okv_small hf hw h
  unfold encL
  rw [if_pos h, if_pos h]
  simp only [Bool.false_eq_true, if_true, if_false]
  exact ⟨dec_enc xs l h2 h1, rAll_wRow 64 xs h2 h1⟩
theorem encL_len {f : Bool} {xs : List V} (hw : rowW xs ≤ 200000) : (encL f xs).length ≤ 300000 := by
  unfold encL
  split
  · cases f
    · have := wRow_len false xs
      simp
      omega
    · have := wRow_len true xs
      simp
      omega
  · simp
theorem few1w {r : R} (h : few [r] 20000 = true) : rowW r.xs ≤ 200000 := by
  unfold few rowsN at h
  have h := of_decide_eq_true h
  simp only [List.map_cons, List.map_nil, List.sum_cons, List.sum_nil] at h
  have key : ∀ l : List V, rowW l ≤ 9 * rowN l := by
    intro l
    induction l with
    | nil => simp [rowW, rowN]
    | cons v l ih => simp only [rowW, rowN, List.map_cons, List.sum_cons] at ih ⊢; omega
  have := key r.xs
  omega
set_option maxRecDepth 100000 in
set_option maxHeartbeats 2000000 in
theorem back_core (r : R) (l : List UInt8) (A : Option Addr) (c : Nat) (w : World) (hE : Env w) (hr : RowAt w w.heap.size r.A r.xs) (hs : RowSmall r.xs) (hf : ∀ v ∈ r.xs, v.fits) (hy : BytesAt w w.heap.size A l) :
    Calls Tryd.prog 5 #[r.val, .slice A l.length c] w fun e w' => e = .returned (.bool true) ∧ Below w.heap.size w w' := by
  have hsz := hE.size
  have HL := Lib.hid (live_any w hE)
  have HB : Hid (∀ w', Below w.heap.size w w' → Calls Tryd.prog 10 #[.slice (some ⟨w'.heap.size, 0, none⟩) 1 1] (w'.alloc (.cells #[r.val] 23)) fun e w2 => e = .returned (.bool (!few [r] 20000)) ∧ Below w'.heap.size w' w2) := fun w' h => big1_at r w' (hr.later h) hs
  have HF : Hid (few [r] 20000 = true → ∀ w', Below w.heap.size w w' → Gives 11 r.val (encL false r.xs) (chkR r.xs) w' ∧ Gives 13 r.val (encL true r.xs) (chkR r.xs) w') := fun h0 w' h => by
    obtain ⟨h1, h2⟩ := few1 h0
    exact ⟨.of (encode_any _ _ _ _ (hr.later h) hf h1 (by omega) (hE.below h hsz)), .of (key_any _ _ _ _ (hr.later h) hf h1 (by omega) (hE.below h hsz))⟩
  have HK : Hid (few [r] 20000 = true → chkR r.xs = 0 → dec (encL false r.xs ++ l) = some (r.xs, (encL false r.xs).length) ∧ rAll 64 (encL true r.xs) = some r.xs) := fun h0 h => back_of hf (few1 h0).1 h l
  have HN : Hid (few [r] 20000 = true → (encL false r.xs).length ≤ 300000 ∧ (encL true r.xs).length ≤ 300000 ∧ r.xs.length ≤ 20000) := fun h0 => ⟨encL_len (few1w h0), encL_len (few1w h0), (few1 h0).2⟩
  have HZ : Hid (chkR r.xs ≠ 0 → encL false r.xs = [] ∧ encL true r.xs = []) := fun h => by unfold encL; rw [if_neg h, if_neg h]; exact ⟨rfl, rfl⟩
  have HR : Hid (∀ w', Below w.heap.size w w' → RowAt w' w'.heap.size r.A r.xs) := fun w' h => hr.later h
  have HY : Hid (∀ w', Below w.heap.size w w' → BytesAt w' w'.heap.size A l) := fun w' h => hy.later h
  have hnc := chk_cases r.xs
  generalize few [r] 20000 = f at *
  generalize encL false r.xs = le at *
  generalize encL true r.xs = ke at *
  generalize chkR r.xs = n at *
  clear hr hs hf hE hy
  unfold Gives R.val at *
  obtain ⟨len, hlen⟩ : ∃ len, len = r.xs.length := ⟨_, rfl⟩
  have HLEN := Lib.hid hlen
  rw [← hlen] at HB HF HN ⊢
  clear hlen
  obtain ⟨nl, hnl⟩ : ∃ nl, nl = l.length := ⟨_, rfl⟩
  have HNL := Lib.hid hnl
  rw [← hnl]
  clear hnl
  go_enter Tryd.func5, Tryd.ntmps5
  go_wp2_with fail
  refine HL.out.mono ?_
  rintro e w1 ⟨rfl, b1⟩
  go_wp2_with fail
  refine (HB.out w1 b1).mono ?_
  rintro e w2 ⟨rfl, b2⟩
  have B2 := bthen b1 b2
  cases f
  · clear HF HK HN HR HY HZ
    go_wp2_with fail
    go_ret
    exact ⟨rfl, B2⟩
  · by_cases hbig : nl > 100000
    · have hbi : (nl : Int) > 100000 := by omega
      clear HF HK HN HR HY HZ
      go_wp2_with fail
      go_ret
      exact ⟨rfl, B2⟩
    · have hbi : ¬ ((nl : Int) > 100000) := by omega
      obtain ⟨hle, hke, hlen⟩ := HN.out rfl
      clear HN
      go_wp2_with fail
      refine ((HF.out (by trivial) w2 B2).1).mono ?_
      rintro e w3 ⟨A3, c3, rfl, y3, b3, -, -⟩
      have B3 := bthen B2 b3
      have Y3 := Lib.hid y3
      clear y3
      go_wp2_with fail
      refine ((HF.out (by trivial) w3 B3).2).mono ?_
      rintro e w4 ⟨A4, c4, rfl, y4, b4, hc4, -⟩
      have B4 := bthen B3 b4
      have Y4 := Lib.hid y4
      clear y4
      by_cases h0 : n = 0
      · subst h0
        obtain ⟨hd, hu⟩ := HK.out (by trivial) rfl
        obtain ⟨v5, w5, r5, o5, g5, -⟩ := own_app (Own.nil w4 w4.heap.size) le A3 c3 (Y3.out.later b4) (by simp; omega) (Nat.le_refl _)
        have b5 := grown_below (Below.refl _ w4) (Own.nil w4 w4.heap.size) g5 (Nat.le_refl _) (Nat.le_refl _)
        rw [List.nil_append] at o5
        obtain ⟨v6, w6, r6, o6, g6, -⟩ := own_app o5 l A c ((HY.out w4 B4).later b5) (by have := HNL.out; omega) b5.size
        have b6 := grown_below b5 o5 g6 b5.size (Nat.le_refl _)
        obtain ⟨A6, c6, rfl, hc6, -, y6⟩ := o6.bytes
        have h7 := decode_any (le ++ l) A6 c6 w6 y6 hc6 (by have := HNL.out; rw [List.length_append]; omega)
        rw [hd] at h7
        have B6 := bthen B4 b6
        have H7 := Lib.hid h7
        have HU := Lib.hid hu
        rw [List.length_append, ← HNL.out] at r6 H7
        clear h7 hd hu o5 o6 g5 g6 b5 y6 hc6 hnc HK HZ
        have H4 : Hid (∀ w', Below w4.heap.size w4 w' → Calls Tryd.prog 17 #[.slice A4 ke.length c4] w' (GaveU w' (some r.xs))) := fun w' h => by
          have := unkey_any ke A4 c4 w' (Y4.out.later h) hc4 (by omega)
          rwa [HU.out] at this
        generalize le.length = lel at *
        generalize ke.length = kel at *
        clear Y3 Y4
        go_wp2_with (at_builtin; first | (refine Lib.wpList_append_run_sl _ rfl _ _ 26 rfl _ _ rfl rfl r5 ?_) | (refine Lib.wpList_append_run_sl _ rfl _ _ 26 rfl _ _ rfl rfl r6 ?_))
        refine H7.out.mono ?_
        intro e w7 h7
        obtain ⟨A7, c7, rfl, b7, hr7, -⟩ := h7.take
        have B7 := bthen B6 b7
        have b47 := bthen b6 b7
        have HR7 := Lib.hid hr7
        clear h7 hr7 r5 r6
        go_wp2_with fail
        refine (H4.out w7 b47).mono ?_
        intro e w8 h8
        obtain ⟨A8, c8, rfl, b8, hr8, -⟩ := h8.take
        have B8 := bthen B7 b8
        have HR8 := Lib.hid hr8
        clear h8 hr8
        have hs1 := rsameRow_self r.xs A7 r.A c7 r.c w8 (HR7.out.later b8) (HR.out w8 B8) (by have := HLEN.out; omega)
        have hs2 := fun w9 (b9 : Below w8.heap.size w8 w9) => rsameRow_self r.xs A8 r.A c8 r.c w9 (HR8.out.later b9) (HR.out w9 (bthen B8 b9)) (by have := HLEN.out; omega)
        have HS1 := Lib.hid hs1
        have HS2 := Lib.hid hs2
        clear hs1 hs2
        rw [← HLEN.out] at HS1 HS2
        unfold rowD rowU numD errD errU
        dsimp only
        rw [← HLEN.out]
        go_wp2_with fail
        refine HS1.out.mono ?_
        rintro e w9 ⟨rfl, b9⟩
        have B9 := bthen B8 b9
        go_wp2_with fail
        refine (HS2.out w9 b9).mono ?_
        rintro e w10 ⟨rfl, b10⟩
        go_wp2_with fail
        go_ret
        exact ⟨rfl, bthen B9 b10⟩
      · obtain ⟨rfl, rfl⟩ := HZ.out h0
        simp only [List.length_nil] at *
        clear HK HF HR HY
        rcases hnc with rfl | rfl | rfl <;> (first | (exfalso; exact h0 rfl) | skip)
        all_goals
          clear h0
          go_wp2_with fail
          go_ret
          exact ⟨rfl, B4⟩
end Go.Proofs.YtnpemegklndegaaDoor
