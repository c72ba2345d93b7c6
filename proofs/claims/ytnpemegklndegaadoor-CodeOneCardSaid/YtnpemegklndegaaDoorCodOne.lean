/- The walk of the law CodeOne: it answers true, whatever bytes lie in memory, and where the library's one variable that is read is there. -/
import Derived.Test.YtnpemegklndegaaDoorCodBack
import Derived.BigQuiet
namespace Go.Proofs.YtnpemegklndegaaDoor
open Go.RowKit
theorem okv_fits {v : V} (h : v.okv) : v.fits := by
  obtain ⟨h1, h2, h3⟩ := h
  rcases may_cases h1 with rfl | rfl | rfl | ⟨i, rfl⟩ | ⟨s, rfl⟩ | ⟨s, rfl⟩ <;> exact ⟨by simp, by simp, h2, h3⟩
theorem esc_ge (l : List UInt8) : l.length ≤ (esc l).length := by
  induction l with
  | nil => simp
  | cons c l ih => rw [esc_cons, List.length_append, List.length_cons]; split <;> simp <;> omega
theorem size_le (f : Bool) {v : V} (h : v.okv) : v.s.size ≤ (wVal f v).length := by
  have key : ∀ s : ByteArray, s.size ≤ (wTxt f s.data.toList).length := fun s => by
    unfold wTxt
    have := esc_ge s.data.toList
    cases f <;> simp at this ⊢ <;> omega
  rcases may_cases h.1 with rfl | rfl | rfl | ⟨i, rfl⟩ | ⟨s, rfl⟩ | ⟨s, rfl⟩
  · simp [ByteArray.size]
  · simp [ByteArray.size]
  · simp [ByteArray.size]
  · simp [ByteArray.size]
  · have := key s; simp [wVal, wOf]; omega
  · have := key s; simp [wVal, wOf]; omega
theorem rowW_wRow (f : Bool) (xs : List V) (h : ∀ v ∈ xs, v.okv) : rowW xs ≤ 2 * (wRow f xs).length + 9 * xs.length := by
  induction xs with
  | nil => simp [rowW]
  | cons v xs ih =>
    have h1 := size_le f (h v (by simp))
    have h2 := ih (fun x hx => h x (by simp [hx]))
    have e : wRow f (v :: xs) = wVal f v ++ wRow f xs := rfl
    rw [e, List.length_append, List.length_cons]
    simp only [rowW, List.map_cons, List.sum_cons] at h2 ⊢
    omega
theorem chk_of {xs : List V} (h : ∀ v ∈ xs, v.okv) (hn : xs.length ≤ 64) : chkR xs = 0 := by
  have ha : allOk xs = true := by
    unfold allOk
    rw [List.all_eq_true]
    intro v hv
    simpa using (h v hv).1
  unfold chkR
  rw [if_pos ha, if_neg (by omega)]
theorem enc_dec {l : List UInt8} {xs : List V} {m : Nat} (h : dec l = some (xs, m)) (hl : l.length ≤ 100000) : chkR xs = 0 ∧ encL false xs = l.take m ∧ (∀ v ∈ xs, v.fits) ∧ rowW xs ≤ 1000000 ∧ xs.length ≤ 64 ∧ 0 < m ∧ m ≤ l.length := by
  obtain ⟨h1, h2, h3, h4, h5⟩ := dec_back l xs m h
  have hc := chk_of (fun v hv => (h5 v hv).1) h3
  refine ⟨hc, ?_, fun v hv => okv_fits (h5 v hv).1, ?_, h3, h1, h2⟩
  · unfold encL
    rw [if_pos hc]
    simpa using h4
  · have h6 := rowW_wRow false xs (fun v hv => (h5 v hv).1)
    have h7 := congrArg List.length h4
    rw [List.length_cons, List.length_take] at h7
    omega
theorem key_all {l : List UInt8} {xs : List V} (h : rAll 64 l = some xs) (hl : l.length ≤ 100000) : chkR xs = 0 ∧ encL true xs = l ∧ (∀ v ∈ xs, v.fits) ∧ rowW xs ≤ 1000000 ∧ xs.length ≤ 64 := by
  obtain ⟨h3, h4, h5⟩ := wRow_rAll 64 l xs h
  have hc := chk_of (fun v hv => (h5 v hv).1) h3
  refine ⟨hc, ?_, fun v hv => okv_fits (h5 v hv).1, ?_, h3⟩
  · unfold encL
    rw [if_pos hc, if_pos rfl, h4]
  · have h6 := rowW_wRow true xs (fun v hv => (h5 v hv).1)
    rw [h4] at h6
    omega
set_option maxRecDepth 100000 in
set_option maxHeartbeats 2000000 in
theorem one_core (l : List UInt8) (A : Option Addr) (c : Nat) (w : World) (hE : Env w) (hy : BytesAt w w.heap.size A l) (hc : l.length ≤ c) :
    Calls Tryd.prog 7 #[.slice A l.length c] w fun e w' => e = .returned (.bool true) ∧ Below w.heap.size w w' := by
  have hsz := hE.size
  have HL := Lib.hid (live_any w hE)
  by_cases hbig : l.length > 100000
  · have hbi : (l.length : Int) > 100000 := by omega
    clear hE hy hc
    generalize l.length = n at *
    go_enter Tryd.func7, Tryd.ntmps7
    go_wp2_with fail
    refine HL.out.mono ?_
    rintro e w1 ⟨rfl, b1⟩
    go_wp2_with fail
    go_ret
    exact ⟨rfl, b1⟩
  · have hbi : ¬ ((l.length : Int) > 100000) := by omega
    have hm : l.length ≤ 100000 := by omega
    have HF : Hid (∀ w', Below w.heap.size w w' → Calls Tryd.prog 15 #[.slice A l.length c] w' (GaveD w' (dec l)) ∧ Calls Tryd.prog 17 #[.slice A l.length c] w' (GaveU w' (rAll 64 l)) ∧ True) := fun w' h => ⟨decode_any l A c w' (hy.later h) hc (by omega), unkey_any l A c w' (hy.later h) hc (by omega), trivial⟩
    have HC : Hid (∀ w', Below w.heap.size w w' → (convert 26 9 (.slice A l.length c)).run Tryd.prog w' = .ok (.string ⟨l.toArray⟩) w') := fun w' h => conv_at (hy.later h)
    have HT : Hid (∀ m, m ≤ l.length → ∀ w', Below w.heap.size w w' → (convert 26 9 (.slice A m c)).run Tryd.prog w' = .ok (.string ⟨(l.take m).toArray⟩) w') := fun m h w' hb => by
      have := conv_at (c := c) ((hy.later hb).take m)
      rwa [List.length_take, Nat.min_eq_left h] at this
    have HEN : Hid (∀ xs m, dec l = some (xs, m) → ∀ w', Below w.heap.size w w' → ∀ A' c', RowAt w' w'.heap.size A' xs → Gives 11 (.slice A' xs.length c') (l.take m) 0 w') := fun xs m h w' hb A' c' hr => by
      obtain ⟨h1, h2, h3, h4, h5, -, -⟩ := enc_dec h hm
      have := Gives.of (encode_any xs A' c' w' hr h3 h4 (by omega) (hE.below hb hsz))
      rwa [h1, h2] at this
    have HKY : Hid (∀ xs, rAll 64 l = some xs → ∀ w', Below w.heap.size w w' → ∀ A' c', RowAt w' w'.heap.size A' xs → Gives 13 (.slice A' xs.length c') l 0 w') := fun xs h w' hb A' c' hr => by
      obtain ⟨h1, h2, h3, h4, h5⟩ := key_all h hm
      have := Gives.of (key_any xs A' c' w' hr h3 h4 (by omega) (hE.below hb hsz))
      rwa [h1, h2] at this
    have HDE : Hid (∀ xs m, dec l = some (xs, m) → 0 < m ∧ m ≤ l.length) := fun xs m h => (enc_dec h hm).2.2.2.2.2
    have HS : Hid (∀ m, m ≤ l.length → 0 < m → ∀ w, (Instr.slice 26 (.slice A l.length c) none (some (.int .i64 m)) none).run Tryd.prog w = .ok (.slice A m c) w) := fun m h h0 w => by
      obtain ⟨b, off, rfl, -, -⟩ := hy (by omega)
      exact slice_to b off l.length c m .i64 (by omega) w
    clear hE hy hbig
    unfold Gives at *
    obtain ⟨n, hn⟩ : ∃ n, n = l.length := ⟨_, rfl⟩
    have HNL : Hid (l.length = n) := hn.symm
    rw [← hn] at hbi HF HC HT HDE HS hc hm ⊢
    clear hn
    go_enter Tryd.func7, Tryd.ntmps7
    go_wp2_with fail
    refine HL.out.mono ?_
    rintro e w1 ⟨rfl, b1⟩
    go_wp2_with fail
    refine ((HF.out w1 b1).1).mono ?_
    intro e w2 h2
    obtain ⟨A2, c2, rfl, b2, hr2, -⟩ := h2.take
    have HR2 := Lib.hid hr2
    have B2 := bthen b1 b2
    clear h2 hr2
    cases hd : dec l with
    | none =>
      unfold rowD numD errD
      dsimp only
      clear HDE HS hd HR2 HEN HT
      go_wp2_with fail
      refine ((HF.out w2 B2).2.1).mono ?_
      clear HF
      intro e w5 h5
      obtain ⟨A5, c5, rfl, b5, hr5, -⟩ := h5.take
      have HR5 := Lib.hid hr5
      have B5 := bthen B2 b5
      clear h5 hr5
      cases hu : rAll 64 l with
      | none =>
        unfold rowU errU
        dsimp only
        clear HKY HC hu
        go_wp2_with fail
        go_ret
        exact ⟨rfl, B5⟩
      | some ys =>
        have hk := HKY.out ys hu w5 B5 A5 c5 (by have := HR5.out; rwa [hu] at this)
        have HK := Lib.hid hk
        unfold rowU errU
        dsimp only
        clear hk HKY HR5 hu
        generalize ys.length = ny at *
        go_wp2_with fail
        refine HK.out.mono ?_
        rintro e w6 ⟨A6, c6, rfl, y6, b6, -, -⟩
        have B6 := bthen B5 b6
        have k1 := conv_at (c := c6) y6
        rw [HNL.out] at k1
        have k2 := HC.out w6 B6
        clear y6 HC
        generalize l.toArray = la at *
        rw [HNL.out]
        go_wp2_with fail
        go_ret
        exact ⟨rfl, B6⟩
    | some p =>
      obtain ⟨xs, m⟩ := p
      have he := HEN.out xs m hd w2 B2 A2 c2 (by have := HR2.out; rwa [hd] at this)
      have HE := Lib.hid he
      obtain ⟨hm0, hml⟩ := HDE.out xs m hd
      have hs := HS.out m hml hm0
      have HTM := Lib.hid (HT.out m hml)
      unfold rowD numD errD
      dsimp only
      clear he HDE HS hd HR2 HEN HT
      have hmi : ¬ ((m : Int) < 1) := by omega
      have hmj : ¬ ((m : Int) > (n : Int)) := by omega
      generalize xs.length = nx at *
      go_wp2_with fail
      refine HE.out.mono ?_
      rintro e w3 ⟨A3, c3, rfl, y3, b3, -, -⟩
      have B3 := bthen B2 b3
      have HK3 : Hid (∀ x : LatC w3, (convert 26 9 (.slice A3 (l.take m).length c3)).run Tryd.prog x.1 = .ok (.string ⟨(l.take m).toArray⟩) x.1) := fun x => conv_at (y3.later x.2)
      have HK4 : Hid (∀ x : LatC w3, (convert 26 9 (.slice A m c)).run Tryd.prog x.1 = .ok (.string ⟨(l.take m).toArray⟩) x.1) := fun x => HTM.out x.1 (bthen B3 x.2)
      clear y3 HTM
      generalize (l.take m).toArray = ta at *
      generalize (l.take m).length = tl at *
      go_wp2_with fail
      have HNE : Nonempty (LatC w3) := ⟨⟨_, Below.refl _ w3⟩⟩
      have q1 := HK3.out
      have q2 := HK4.out
      have d1 : decide ((m : Int) < 1) = false := decide_eq_false (by omega)
      have d2 : decide (n < m) = false := decide_eq_false (by omega)
      refine wp_region_class (fun w' => ∃ x : LatC w3, w' = x.1) (by kernel_rfl) (by kernel_rfl) ⟨⟨_, (Below.refl _ w3).drew⟩, rfl⟩ ?_
      repeat (go_big_quiet_step (fail))
      refine wpQuiet_nil ?_
      rintro w4 ⟨⟨_, h4⟩, rfl⟩
      have B4 := bthen B3 h4
      clear q1 q2 d1 d2 HNE HK3 HK4
      go_wp2_with fail
      refine ((HF.out w4 B4).2.1).mono ?_
      clear HF
      intro e w5 h5
      obtain ⟨A5, c5, rfl, b5, hr5, -⟩ := h5.take
      have HR5 := Lib.hid hr5
      have B5 := bthen B4 b5
      clear h5 hr5
      cases hu : rAll 64 l with
      | none =>
        unfold rowU errU
        dsimp only
        clear HKY HC hu
        go_wp2_with fail
        go_ret
        exact ⟨rfl, B5⟩
      | some ys =>
        have hk := HKY.out ys hu w5 B5 A5 c5 (by have := HR5.out; rwa [hu] at this)
        have HK := Lib.hid hk
        unfold rowU errU
        dsimp only
        clear hk HKY HR5 hu
        generalize ys.length = ny at *
        go_wp2_with fail
        refine HK.out.mono ?_
        rintro e w6 ⟨A6, c6, rfl, y6, b6, -, -⟩
        have B6 := bthen B5 b6
        have k1 := conv_at (c := c6) y6
        rw [HNL.out] at k1
        have k2 := HC.out w6 B6
        clear y6 HC
        generalize l.toArray = la at *
        rw [HNL.out]
        go_wp2_with fail
        go_ret
        exact ⟨rfl, B6⟩
end Go.Proofs.YtnpemegklndegaaDoor
