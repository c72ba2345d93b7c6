/- Contracts of the reference's truths, And, Or, Not, and of logic's And, Or, Not, whatever values lie in memory. Condition: no list is longer than the greatest int. -/
import Derived.Test.YtfccongmfoolpaaLogDec
namespace Go.Proofs.Ytfccongmfoolpaa
open Go.RowKit
def trN (xs : List V) : Bool := ctL xs == 0 && anyN xs
def trB (b : Bool) (xs : List V) : Bool := ctL xs == 0 && anyB b xs
def Tru (xs : List V) (x y z : Bool) : Prop := allT xs = true ∧ x = anyN xs ∧ y = anyB false xs ∧ z = anyB true xs
theorem tru_null {xs : List V} {k : Nat} {x y z : Bool} (h : k < xs.length) (hf : Tru (xs.take k) x y z) (h0 : xs[k].k = 0) : Tru (xs.take (k + 1)) true y z := by
  obtain ⟨h1, h2, h3, h4⟩ := hf
  refine ⟨?_, ?_, ?_, ?_⟩
  · rw [allT_snoc h, h1]; simp [V.isT, h0]
  · rw [anyN_snoc h, h0]; simp
  · rw [anyB_snoc h, h3]; simp [V.isB, h0]
  · rw [anyB_snoc h, h4]; simp [V.isB, h0]
theorem tru_no {xs : List V} {k : Nat} {x y z : Bool} (h : k < xs.length) (hf : Tru (xs.take k) x y z) (h0 : xs[k].k = 1) (h5 : xs[k].i = 0) : Tru (xs.take (k + 1)) x true z := by
  obtain ⟨h1, h2, h3, h4⟩ := hf
  refine ⟨?_, ?_, ?_, ?_⟩
  · rw [allT_snoc h, h1]; simp [V.isT, h0]
  · rw [anyN_snoc h, h0, h2]; simp
  · rw [anyB_snoc h]; simp [V.isB, h0, h5, bi]
  · rw [anyB_snoc h, h4]; simp [V.isB, h0, h5, bi]
theorem tru_yes {xs : List V} {k : Nat} {x y z : Bool} (h : k < xs.length) (ha : allOk xs = true) (hf : Tru (xs.take k) x y z) (h0 : xs[k].k = 1) (h5 : ¬ xs[k].i = 0) : Tru (xs.take (k + 1)) x y true := by
  obtain ⟨h1, h2, h3, h4⟩ := hf
  have hm := allOk_get ha h
  have h6 : xs[k].i = 1 := by
    unfold mayB at hm
    rw [h0] at hm
    simp at hm
    rcases hm.1 with e | e
    · exact absurd e h5
    · exact e
  refine ⟨?_, ?_, ?_, ?_⟩
  · rw [allT_snoc h, h1]; simp [V.isT, h0]
  · rw [anyN_snoc h, h0, h2]; simp
  · rw [anyB_snoc h, h3]; simp [V.isB, h0, h5, bi]
  · rw [anyB_snoc h]; simp [V.isB, h0, h6, bi]
theorem tru_end {xs : List V} {n : Nat} {x y z : Bool} (hn : n = xs.length) (ha : allOk xs = true) (hf : Tru (xs.take n) x y z) : trN xs = x ∧ trB false xs = y ∧ trB true xs = z ∧ ctL xs = 0 := by
  subst hn
  rw [List.take_length] at hf
  obtain ⟨h1, h2, h3, h4⟩ := hf
  have hc : ctL xs = 0 := by unfold ctL; rw [ha, h1]; rfl
  unfold trN trB
  rw [hc, h2, h3, h4]
  simp
theorem tru_bad {xs : List V} (hc : ctL xs ≠ 0) : trN xs = false ∧ trB false xs = false ∧ trB true xs = false := by
  have : (ctL xs == 0) = false := by simpa using hc
  unfold trN trB
  rw [this]
  simp
theorem ret_4 {x y z x' y' z' : Bool} {r r' : Int} (h : x = x' ∧ y = y' ∧ z = z') (h' : r = r') : Ending.returned (.tuple #[.bool x, .bool y, .bool z, .int .i64 r]) = .returned (.tuple #[.bool x', .bool y', .bool z', .int .i64 r']) := by
  rw [h.1, h.2.1, h.2.2, h']
set_option maxHeartbeats 2000000 in
theorem truths_any (xs : List V) (A : Option Addr) (c : Nat) (w : World) (hr : RowAt w w.heap.size A xs) (hm : xs.length ≤ 9223372036854775807) :
    Calls Try.prog 31 #[.slice A xs.length c] w fun e w' => e = .returned (.tuple #[.bool (trN xs), .bool (trB false xs), .bool (trB true xs), .int .i64 (ctL xs)]) ∧ Below w.heap.size w w' := by
  have hcall := may_any xs A c w hr hm
  have HBad := Lib.hid (@tru_bad xs)
  have HCT : Hid (ctL xs = if allOk xs then (if allT xs then 0 else 20) else 1) := rfl
  obtain ⟨x0, hx0⟩ : ∃ x, x = trN xs := ⟨_, rfl⟩
  obtain ⟨y0, hy0⟩ : ∃ x, x = trB false xs := ⟨_, rfl⟩
  obtain ⟨z0, hz0⟩ : ∃ x, x = trB true xs := ⟨_, rfl⟩
  obtain ⟨r, hrr⟩ : ∃ r, r = ctL xs := ⟨_, rfl⟩
  rw [← hx0, ← hy0, ← hz0, ← hrr]
  have HX := Lib.hid hx0
  have HY := Lib.hid hy0
  have HZ := Lib.hid hz0
  have HRr := Lib.hid hrr
  obtain ⟨n, hn⟩ : ∃ n, n = xs.length := ⟨_, rfl⟩
  have HN := Lib.hid hn
  rw [← hn] at hm hcall ⊢
  have HR := Lib.hid hr
  clear hr hx0 hy0 hz0 hrr hn
  cases ha : allOk xs
  · rw [ha] at hcall
    have HA := Lib.hid ha
    clear ha
    have HE : Hid (r = 1) := by have := HRr.out; have h2 := HCT.out; rw [HA.out] at h2; show _ = _; rw [this, h2]; rfl
    go_enter Try.func31, Try.ntmps31
    go_wp2_with (go_at_call 39; refine hcall.mono ?_; rintro e w1 ⟨rfl, hb1⟩)
    refine bodyPost_ret (v := .tuple #[.bool false, .bool false, .bool false, .int .i64 1]) (by simp [results, Try.results31, go_sem]) rfl ⟨?_, hb1⟩
    have := HBad.out (by rw [← HRr.out, HE.out]; decide)
    exact ret_4 ⟨by rw [HX.out, this.1], by rw [HY.out, this.2.1], by rw [HZ.out, this.2.2]⟩ HE.out.symm
  · rw [ha] at hcall
    have HA := Lib.hid ha
    clear ha
    go_enter Try.func31, Try.ntmps31
    go_wp2_with (go_at_call 39; refine hcall.mono ?_; rintro e w1 ⟨rfl, hb1⟩)
    clear hcall
    go_loopw [16, 6, 7, 8] (fun i a b d wr => ∃ (k : Nat) (x y z : Bool), k ≤ n ∧ i = .int .i64 k ∧ a = .bool x ∧ b = .bool y ∧ d = .bool z ∧ Below w.heap.size w wr ∧ Hid (Tru (xs.take k) x y z)) (fun i _ _ _ _ => n - (intOf i).toNat)
    case atStart => exact ⟨0, false, false, false, Nat.zero_le _, rfl, rfl, rfl, rfl, hb1, ⟨rfl, rfl, rfl, rfl⟩⟩
    case round =>
      obtain ⟨k, x, y, z, hk, rfl, rfl, rfl, rfl, hb, hfar⟩ := hrel
      clear hb1
      by_cases hlt : k < n
      · have hkx : k < xs.length := by rw [← HN.out]; exact hlt
        obtain ⟨b, off, hA, hbl, hc⟩ := HR.out (by omega)
        subst hA
        obtain ⟨c1, c2, c3⟩ := hc k hkx
        have d1 := (hb.cell (p := ⟨b, _, none⟩) hbl).trans c1
        have d2 := (hb.cell (p := ⟨b, _, none⟩) hbl).trans c2
        have d3 := (hb.cell (p := ⟨b, _, none⟩) hbl).trans c3
        clear c1 c2 c3 hc
        have H0 : Hid (xs[k].k = 0 → Tru (xs.take (k + 1)) true y z) := fun h => tru_null hkx hfar.out h
        have H1 : Hid (xs[k].k = 1 → xs[k].i = 0 → Tru (xs.take (k + 1)) x true z) := fun h h' => tru_no hkx hfar.out h h'
        have H2 : Hid (xs[k].k = 1 → ¬ xs[k].i = 0 → Tru (xs.take (k + 1)) x y true) := fun h h' => tru_yes hkx HA.out hfar.out h h'
        have H3 : Hid (¬ xs[k].k = 0 → ¬ xs[k].k = 1 → r = 20) := fun h h' => by
          have h1 := HRr.out
          have h2 := HCT.out
          rw [HA.out, allT_no hkx (by unfold V.isT; simp [h, h'])] at h2
          rw [h1, h2]; rfl
        generalize xs[k].k = vk at *
        generalize xs[k].i = vi at *
        generalize xs[k].s = vs at *
        by_cases h0 : vk = 0
        · subst h0
          go_wp2_with fail
          go_roundw
          case rel => exact ⟨k + 1, true, y, z, by omega, by go_num, rfl, rfl, rfl, hb.alloc hb.size _, H0.out rfl⟩
          case measure => simp [intOf]; omega
        · by_cases h1 : vk = 1
          · subst h1
            by_cases h2 : vi = 0
            · subst h2
              go_wp2_with fail
              go_roundw
              case rel => exact ⟨k + 1, x, true, z, by omega, by go_num, rfl, rfl, rfl, hb.alloc hb.size _, H1.out rfl rfl⟩
              case measure => simp [intOf]; omega
            · have e2 : (vi == 0) = false := by simpa using h2
              have HH := Lib.hid h2
              clear h2
              go_wp2_with fail
              go_roundw
              case rel => exact ⟨k + 1, x, y, true, by omega, by go_num, rfl, rfl, rfl, hb.alloc hb.size _, H2.out rfl HH.out⟩
              case measure => simp [intOf]; omega
          · have e0 : (vk == 0) = false := by simpa using h0
            have e1 : (vk != 1) = true := by simpa using h1
            have HE := Lib.hid (H3.out h0 h1)
            clear h0 h1
            go_wp2_with fail
            refine bodyPost_ret (v := .tuple #[.bool false, .bool false, .bool false, .int .i64 20]) (by simp [results, Try.results31, go_sem]) rfl ⟨?_, hb.alloc hb.size _⟩
            have := HBad.out (by rw [← HRr.out, HE.out]; decide)
            exact ret_4 ⟨by rw [HX.out, this.1], by rw [HY.out, this.2.1], by rw [HZ.out, this.2.2]⟩ HE.out.symm
      · obtain rfl : k = n := by omega
        have he := tru_end HN.out HA.out hfar.out
        have HE := Lib.hid he
        clear he
        go_wp2_with fail
        refine bodyPost_ret (v := .tuple #[.bool x, .bool y, .bool z, .int .i64 0]) (by simp [results, Try.results31, go_sem]) rfl ⟨?_, hb⟩
        obtain ⟨g1, g2, g3, g4⟩ := HE.out
        exact ret_4 ⟨by rw [HX.out, g1], by rw [HY.out, g2], by rw [HZ.out, g3]⟩ (by rw [HRr.out, g4])
end Go.Proofs.Ytfccongmfoolpaa
