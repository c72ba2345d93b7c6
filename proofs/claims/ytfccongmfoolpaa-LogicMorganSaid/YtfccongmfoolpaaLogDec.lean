/- The contract of logic's decide (AND and OR of a list), whatever values lie in memory. Condition: no list is longer than the greatest int. -/
import Derived.Test.YtfccongmfoolpaaLogHold
import Derived.Lib.BufferMore
namespace Go.Proofs.Ytfccongmfoolpaa
open Go.RowKit
/-- A variable of the call's own that holds a value. -/
def VBox (w : World) (b : Nat) (v : V) : Prop := w.heap[b]? = some (.cells #[.int .i64 v.k, .int .i64 v.i, .string v.s] 24 (0, 0))
theorem VBox.lt {w : World} {b : Nat} {v : V} (h : VBox w b v) : b < w.heap.size := (Array.getElem?_eq_some_iff.1 h).1
theorem VBox.made (w : World) (v : V) : VBox (w.alloc (.cells #[.int .i64 v.k, .int .i64 v.i, .string v.s] 24)) w.heap.size v := heap_alloc_new w _
theorem VBox.below {w w' : World} {B b : Nat} {v : V} (h : VBox w b v) (hb : Below B w w') (hB : b < B) : VBox w' b v := (hb.block b hB).trans h
theorem VBox.drew {w : World} {b : Nat} {v : V} (h : VBox w b v) : VBox w.drew b v := h
theorem VBox.cells {w : World} {b : Nat} {v : V} (h : VBox w b v) : w.cell? ⟨b, 0, none⟩ = some (.int .i64 v.k) ∧ w.cell? ⟨b, 1, none⟩ = some (.int .i64 v.i) ∧ w.cell? ⟨b, 2, none⟩ = some (.string v.s) :=
  ⟨by rw [Lib.cell_of_heap h]; rfl, by rw [Lib.cell_of_heap h]; rfl, by rw [Lib.cell_of_heap h]; rfl⟩
theorem VBox.free {w : World} {b : Nat} {v : V} (h : VBox w b v) : w.frozen? ⟨b, 0, none⟩ = false ∧ w.frozen? ⟨b, 1, none⟩ = false ∧ w.frozen? ⟨b, 2, none⟩ = false :=
  ⟨Lib.frozen_of_heap h 0, Lib.frozen_of_heap h 1, Lib.frozen_of_heap h 2⟩
theorem VBox.set {w : World} {b : Nat} {v : V} (h : VBox w b v) (u : V) : VBox (((w.setCell ⟨b, 0, none⟩ (.int .i64 u.k)).setCell ⟨b, 1, none⟩ (.int .i64 u.i)).setCell ⟨b, 2, none⟩ (.string u.s)) b u := by
  unfold VBox
  rw [Lib.heap_setCell_same (Lib.heap_setCell_same (Lib.heap_setCell_same h _) _) _]
  rfl
theorem VBox.other {w : World} {b c o : Nat} {v : V} (h : VBox w b v) (hne : b ≠ c) (u : Value) : VBox (w.setCell ⟨c, o, none⟩ u) b v := (Below.heap_setCell w _ u b hne).trans h
set_option maxHeartbeats 1000000 in
theorem decide_bad (strong : Bool) (xs : List V) (A : Option Addr) (c : Nat) (w : World) (hr : RowAt w w.heap.size A xs) (hm : xs.length ≤ 9223372036854775807) (hc : ¬ ctL xs = 0) :
    Calls Try.prog 30 #[.bool strong, .slice A xs.length c] w fun e w' => e = .returned (.tuple #[.agg #[.int .i64 0, .int .i64 0, .string ⟨#[]⟩], .int .i64 (ctL xs)]) ∧ Below w.heap.size w w' := by
  have b0 := (Below.refl w.heap.size w).alloc (Nat.le_refl _) (.cells #[.int .i64 0, .int .i64 0, .string ⟨#[]⟩] 24)
  have hcall := checkTruths_any xs A c _ (hr.later b0) hm
  have hv := VBox.made w zV
  generalize ctL xs = r at *
  generalize xs.length = n at *
  have h1 : (r != 0) = true := by simpa using hc
  have HV := Lib.hid hv
  clear hc hr hv
  go_enter Try.func30, Try.ntmps30
  go_wp2_with (go_at_call 32; refine hcall.mono ?_; rintro e w1 ⟨rfl, hb1⟩; obtain ⟨e0, e1, e2⟩ := (HV.out.below hb1 (by simp)).cells; obtain ⟨f0, f1, f2⟩ := (HV.out.below hb1 (by simp)).free; simp only [zV] at e0 e1 e2)
  exact bodyPost_ret (v := .tuple #[.agg #[.int .i64 0, .int .i64 0, .string ⟨#[]⟩], .int .i64 r]) (by simp [results, Try.results30, go_sem, e0, e1, e2]) rfl ⟨rfl, (((b0.trans (hb1.mono (by simp))).setCell (Nat.le_refl _) _).setCell (Nat.le_refl _) _).setCell (Nat.le_refl _) _⟩
theorem One.vbox {w : World} {g : Nat} {v : V} {w' : World} (h : One w g v w') {b : Nat} {u : V} (hb : VBox w b u) : VBox w' b u := hb.below h.2.2.2.2.2 hb.lt
/-- How far decide has come: no strong truth yet; what it would answer. -/
def Far (strong : Bool) (ys : List V) (ans : V) : Prop := anyB strong ys = false ∧ ans = if anyN ys then zV else tV (!strong)
theorem decV_yes {strong : Bool} {xs : List V} {k : Nat} (h : k < xs.length) (hc : ctL xs = 0) (hv : isV xs[k] strong = true) : decV strong xs = xs[k] := by
  have hv := isV_iff.1 hv
  unfold decV
  rw [if_pos hc, if_pos (anyB_yes h (by rw [hv]; cases strong <;> rfl)), hv]
theorem ok_of_ct {xs : List V} (hc : ctL xs = 0) : allOk xs = true ∧ allT xs = true := by
  unfold ctL at hc
  cases h : allOk xs <;> cases h' : allT xs <;> simp_all
theorem far_null {strong : Bool} {xs : List V} {k : Nat} {ans : V} (h : k < xs.length) (hc : ctL xs = 0) (hf : Far strong (xs.take k) ans) (hn : isV xs[k] strong = false) (h0 : xs[k].k = 0) : Far strong (xs.take (k + 1)) xs[k] := by
  have hm := allOk_get (ok_of_ct hc).1 h
  refine ⟨?_, ?_⟩
  · rw [anyB_snoc h, hf.1]
    cases hb : xs[k].isB strong
    · rfl
    · rw [isV_iff.2 ((isB_iff hm).1 hb)] at hn; simp at hn
  · rw [anyN_snoc h, h0]
    simp only [beq_self_eq_true, Bool.or_true, if_true]
    exact (null_iff hm).1 h0
theorem far_weak {strong : Bool} {xs : List V} {k : Nat} {ans : V} (h : k < xs.length) (hc : ctL xs = 0) (hf : Far strong (xs.take k) ans) (hn : isV xs[k] strong = false) (h0 : ¬ xs[k].k = 0) : Far strong (xs.take (k + 1)) ans := by
  have hm := allOk_get (ok_of_ct hc).1 h
  refine ⟨?_, ?_⟩
  · rw [anyB_snoc h, hf.1]
    cases hb : xs[k].isB strong
    · rfl
    · rw [isV_iff.2 ((isB_iff hm).1 hb)] at hn; simp at hn
  · rw [anyN_snoc h, show (xs[k].k == 0) = false by simpa using h0, Bool.or_false]
    exact hf.2
theorem far_end {strong : Bool} {xs : List V} {n : Nat} {ans : V} (hn : n = xs.length) (hc : ctL xs = 0) (hf : Far strong (xs.take n) ans) : decV strong xs = ans := by
  subst hn
  rw [List.take_length] at hf
  unfold decV
  rw [if_pos hc, hf.1, hf.2]
  rfl
theorem ret_v {r u : V} (h : r = u) (x : Int) : Ending.returned (.tuple #[.agg #[.int .i64 u.k, .int .i64 u.i, .string u.s], .int .i64 x]) = .returned (.tuple #[.agg #[.int .i64 r.k, .int .i64 r.i, .string r.s], .int .i64 x]) := by rw [h]
set_option maxHeartbeats 2000000 in
theorem decide_good (strong : Bool) (xs : List V) (A : Option Addr) (c : Nat) (w : World) (hr : RowAt w w.heap.size A xs) (hm : xs.length ≤ 9223372036854775807) (hc : ctL xs = 0) :
    Calls Try.prog 30 #[.bool strong, .slice A xs.length c] w fun e w' => e = .returned (.tuple #[.agg #[.int .i64 (decV strong xs).k, .int .i64 (decV strong xs).i, .string (decV strong xs).s], .int .i64 0]) ∧ Below w.heap.size w w' := by
  have b0 := (Below.refl w.heap.size w).alloc (Nat.le_refl _) (.cells #[.int .i64 0, .int .i64 0, .string ⟨#[]⟩] 24)
  have hcall := checkTruths_any xs A c _ (hr.later b0) hm
  rw [hc] at hcall
  have HT := Lib.hid (fun b => truth_any b)
  have HV := Lib.hid (VBox.made w zV)
  obtain ⟨r, hdr⟩ : ∃ r, r = decV strong xs := ⟨_, rfl⟩
  have HD := Lib.hid hdr
  rw [← hdr]
  obtain ⟨n, hn⟩ : ∃ n, n = xs.length := ⟨_, rfl⟩
  have HN := Lib.hid hn
  rw [← hn] at hm hcall ⊢
  have HC := Lib.hid hc
  have HR := Lib.hid hr
  clear hc hr hdr hn
  go_enter Try.func30, Try.ntmps30
  go_wp2_with (first | (go_at_call 32; refine hcall.mono ?_; rintro e w1 ⟨rfl, hb1⟩) | (go_at_call 33; refine (HT.out _ _).mono ?_; rintro e w2 ⟨rfl, hb2⟩))
  clear hcall
  have B2 := (b0.trans (hb1.mono (by simp))).trans (hb2.mono (by have := hb1.size; simp at this; omega))
  have h12 : w.heap.size + 1 ≤ w2.heap.size := by have := hb1.size; have := hb2.size; simp at *; omega
  have HV2 : Hid (VBox w2 w.heap.size zV) := (HV.out.below hb1 (by simp)).below hb2 (by have := hb1.size; simp at *; omega)
  clear b0 hb1 hb2 HV
  go_loopw [21] (fun i wr => ∃ (k : Nat) (ans : V), k ≤ n ∧ i = .int .i64 k ∧ Below w.heap.size w wr ∧ w2.heap.size < wr.heap.size ∧ Hid (VBox wr w.heap.size zV) ∧ Hid (VBox wr w2.heap.size ans) ∧ Hid (Far strong (xs.take k) ans)) (fun i _ => n - (intOf i).toNat)
  case atStart => exact ⟨0, tV (!strong), Nat.zero_le _, rfl, B2.alloc (by omega) _, by simp, HV2.out.below (Below.alloc (Below.refl w2.heap.size w2) (Nat.le_refl _) _) (by omega), VBox.made w2 (tV (!strong)), ⟨rfl, rfl⟩⟩
  case round =>
    obtain ⟨k, ans, hk, rfl, hb, hbl2, h4, h7, hfar⟩ := hrel
    by_cases hlt : k < n
    · have hkx : k < xs.length := by rw [← HN.out]; exact hlt
      obtain ⟨b, off, hA, hbl, hc⟩ := HR.out (by omega)
      subst hA
      obtain ⟨c1, c2, c3⟩ := hc k hkx
      have d1 := (hb.cell (p := ⟨b, _, none⟩) hbl).trans c1
      have d2 := (hb.cell (p := ⟨b, _, none⟩) hbl).trans c2
      have d3 := (hb.cell (p := ⟨b, _, none⟩) hbl).trans c3
      clear c1 c2 c3 hc
      have HY : Hid (isV xs[k] strong = true → r = xs[k]) := fun h => HD.out.trans (decV_yes hkx HC.out h)
      have HNu : Hid (isV xs[k] strong = false → xs[k].k = 0 → Far strong (xs.take (k + 1)) xs[k]) := fun h h0 => far_null hkx HC.out hfar.out h h0
      have HWe : Hid (isV xs[k] strong = false → ¬ xs[k].k = 0 → Far strong (xs.take (k + 1)) ans) := fun h h0 => far_weak hkx HC.out hfar.out h h0
      generalize xs[k] = v at *
      have HB := Lib.hid (One.of (w := wr) (Box.made wr v) (Nat.le_refl _) ((Below.refl _ wr).alloc (Nat.le_refl _) (.cells #[.int .i64 v.k, .int .i64 v.i, .string v.s] 24))).drew
      have HS := same_any v.k v.i 1 (bi strong) v.s ⟨#[]⟩
      rw [show sameB v.k v.i v.s 1 (bi strong) ⟨#[]⟩ = isV v strong from rfl] at HS
      have HS := Lib.hid HS
      have hb4 := Below.refl (wr.alloc (.cells #[.int .i64 v.k, .int .i64 v.i, .string v.s] 24)).drew.heap.size (wr.alloc (.cells #[.int .i64 v.k, .int .i64 v.i, .string v.s] 24)).drew
      cases q : isV v strong
      · rw [q] at HS HY HNu HWe
        clear q
        by_cases h0 : v.k = 0
        · have e0 : (v.k == 0) = true := by simpa using h0
          have H0 := Lib.hid h0
          clear h0
          go_wp2_with fail
          go_region_held3 (fun w' => w'.cell? ⟨wr.heap.size, 0, none⟩ = some (.int .i64 v.k) ∧ w'.cell? ⟨wr.heap.size, 1, none⟩ = some (.int .i64 v.i) ∧ w'.cell? ⟨wr.heap.size, 2, none⟩ = some (.string v.s) ∧ wr.heap.size ≤ wr.heap.size ∧ wr.heap.size < w'.heap.size ∧ Below wr.heap.size wr w') (first | exact HB.out | exact One.later (by assumption) hb4) (first | (go_at_call 33; go_must (refine (HT.out _ _).mono ?_); rintro e w4 ⟨rfl, hb4⟩) | (go_at_call 34; go_must (refine (HS.out _).mono ?_); rintro e w4 ⟨rfl, hb4⟩))
          have hs : One wr wr.heap.size v w4 := by assumption
          obtain ⟨f0, f1, f2⟩ := (hs.vbox h7.out).free
          obtain ⟨g0, g1, g2⟩ := (hs.vbox h7.out).cells
          go_wp2_with fail
          go_roundw
          case rel =>
            have hb5 := bthen hb hs.2.2.2.2.2
            have hs5 := hs.2.2.2.2.1
            exact ⟨k + 1, v, by omega, by go_num, ((hb5.setCell (by show _ ≤ w2.heap.size; omega) _).setCell (by show _ ≤ w2.heap.size; omega) _).setCell (by show _ ≤ w2.heap.size; omega) _, by simp; omega, (((hs.vbox h4.out).other (by omega) _).other (by omega) _).other (by omega) _, (hs.vbox h7.out).set v, HNu.out trivial H0.out⟩
          case measure => simp [intOf]; omega
        · have e0 : (v.k == 0) = false := by simpa using h0
          have H0 := Lib.hid h0
          clear h0
          go_wp2_with fail
          go_region_held3 (fun w' => w'.cell? ⟨wr.heap.size, 0, none⟩ = some (.int .i64 v.k) ∧ w'.cell? ⟨wr.heap.size, 1, none⟩ = some (.int .i64 v.i) ∧ w'.cell? ⟨wr.heap.size, 2, none⟩ = some (.string v.s) ∧ wr.heap.size ≤ wr.heap.size ∧ wr.heap.size < w'.heap.size ∧ Below wr.heap.size wr w') (first | exact HB.out | exact One.later (by assumption) hb4) (first | (go_at_call 33; go_must (refine (HT.out _ _).mono ?_); rintro e w4 ⟨rfl, hb4⟩) | (go_at_call 34; go_must (refine (HS.out _).mono ?_); rintro e w4 ⟨rfl, hb4⟩))
          have hs : One wr wr.heap.size v w4 := by assumption
          go_wp2_with fail
          go_roundw
          case rel =>
            exact ⟨k + 1, ans, by omega, by go_num, bthen hb hs.2.2.2.2.2, by have := hs.2.2.2.2.1; omega, hs.vbox h4.out, hs.vbox h7.out, HWe.out trivial H0.out⟩
          case measure => simp [intOf]; omega
      · rw [q] at HS HY
        clear q
        go_wp2_with fail
        go_region_held3 (fun w' => w'.cell? ⟨wr.heap.size, 0, none⟩ = some (.int .i64 v.k) ∧ w'.cell? ⟨wr.heap.size, 1, none⟩ = some (.int .i64 v.i) ∧ w'.cell? ⟨wr.heap.size, 2, none⟩ = some (.string v.s) ∧ wr.heap.size ≤ wr.heap.size ∧ wr.heap.size < w'.heap.size ∧ Below wr.heap.size wr w') (first | exact HB.out | exact One.later (by assumption) hb4) (first | (go_at_call 33; go_must (refine (HT.out _ _).mono ?_); rintro e w4 ⟨rfl, hb4⟩) | (go_at_call 34; go_must (refine (HS.out _).mono ?_); rintro e w4 ⟨rfl, hb4⟩))
        have hs : One wr wr.heap.size v w4 := by assumption
        obtain ⟨f0, f1, f2⟩ := (hs.vbox h4.out).free
        obtain ⟨g0, g1, g2⟩ := (hs.vbox h4.out).cells
        have hb5 := bthen hb hs.2.2.2.2.2
        go_wp2_with fail
        refine bodyPost_ret (v := .tuple #[.agg #[.int .i64 v.k, .int .i64 v.i, .string v.s], .int .i64 0]) (by simp [results, Try.results30, go_sem, g0, g1, g2]) rfl ⟨ret_v (HY.out trivial) 0, ((hb5.setCell (Nat.le_refl _) _).setCell (Nat.le_refl _) _).setCell (Nat.le_refl _) _⟩
    · obtain rfl : k = n := by omega
      have HE : Hid (r = ans) := HD.out.trans (far_end HN.out HC.out hfar.out)
      obtain ⟨f0, f1, f2⟩ := h4.out.free
      obtain ⟨g0, g1, g2⟩ := h4.out.cells
      obtain ⟨e0, e1, e2⟩ := h7.out.cells
      go_wp2_with fail
      refine bodyPost_ret (v := .tuple #[.agg #[.int .i64 ans.k, .int .i64 ans.i, .string ans.s], .int .i64 0]) (by simp [results, Try.results30, go_sem, g0, g1, g2]) rfl ⟨ret_v HE.out 0, ((hb.setCell (Nat.le_refl _) _).setCell (Nat.le_refl _) _).setCell (Nat.le_refl _) _⟩
theorem ctL_z {xs : List V} (h : ¬ ctL xs = 0) (strong : Bool) : decV strong xs = zV := by unfold decV; rw [if_neg h]
theorem decide_any (strong : Bool) (xs : List V) (A : Option Addr) (c : Nat) (w : World) (hr : RowAt w w.heap.size A xs) (hm : xs.length ≤ 9223372036854775807) :
    Calls Try.prog 30 #[.bool strong, .slice A xs.length c] w fun e w' => e = .returned (.tuple #[.agg #[.int .i64 (decV strong xs).k, .int .i64 (decV strong xs).i, .string (decV strong xs).s], .int .i64 (ctL xs)]) ∧ Below w.heap.size w w' := by
  by_cases h : ctL xs = 0
  · rw [h]; exact decide_good strong xs A c w hr hm h
  · have := decide_bad strong xs A c w hr hm h
    rw [ctL_z h]
    exact this
end Go.Proofs.Ytfccongmfoolpaa
