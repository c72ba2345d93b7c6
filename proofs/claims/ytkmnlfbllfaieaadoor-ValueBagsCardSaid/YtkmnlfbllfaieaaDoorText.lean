/- Contracts of value.Text and value.RowText, whatever the value or row: its text and no error where it may be, no text and the error where it may not. Conditions: texts of no more than a million bytes, rows no longer than the greatest int, and the library's two variables hold what they hold at the start. -/
import Derived.Test.YtkmnlfbllfaieaaDoorWr
namespace Go.Proofs.YtkmnlfbllfaieaaDoor
open Go.RowKit
theorem txt_ne (k i : Int) (s : ByteArray) : txt k i s ≠ [] := by
  unfold txt
  split
  · simp
  split
  · split <;> simp
  split
  · unfold Lib.itoa
    have : ∀ u, Lib.decDigits u ≠ [] := fun u => by rw [Lib.decDigits]; split <;> simp
    split
    · simp
    · exact this _
  split <;> simp
theorem box3 {w w1 : World} {a b c : Value} (hb : Below (w.alloc (.cells #[a, b, c] 35)).heap.size (w.alloc (.cells #[a, b, c] 35)) w1) :
    (∀ o, (w1.alloc o).cell? ⟨w.heap.size, 0, none⟩ = some a ∧ (w1.alloc o).cell? ⟨w.heap.size, 1, none⟩ = some b ∧ (w1.alloc o).cell? ⟨w.heap.size, 2, none⟩ = some c) ∧
    (w1.cell? ⟨w.heap.size, 0, none⟩ = some a ∧ w1.cell? ⟨w.heap.size, 1, none⟩ = some b ∧ w1.cell? ⟨w.heap.size, 2, none⟩ = some c) ∧ Below w.heap.size w w1 ∧ w.heap.size < w1.heap.size := by
  have hz : w.heap.size < w1.heap.size := by have := hb.size; simp at this; omega
  have hn : (w.alloc (.cells #[a, b, c] 35)).heap[w.heap.size]? = some (.cells #[a, b, c] 35 (0, 0)) := heap_alloc_new w _
  have h1 := (hb.block w.heap.size (by simp)).trans hn
  refine ⟨fun o => ?_, ?_, ((Below.refl _ w).alloc (Nat.le_refl _) _).trans (hb.mono (by simp)), hz⟩
  · have h2 := (Below.heap_alloc w1 o _ hz).trans h1
    exact ⟨by rw [Lib.cell_of_heap h2]; rfl, by rw [Lib.cell_of_heap h2]; rfl, by rw [Lib.cell_of_heap h2]; rfl⟩
  · exact ⟨by rw [Lib.cell_of_heap h1]; rfl, by rw [Lib.cell_of_heap h1]; rfl, by rw [Lib.cell_of_heap h1]; rfl⟩
set_option maxRecDepth 100000 in
set_option maxHeartbeats 1000000 in
theorem text_ok (k i : Int) (s : ByteArray) (w : World) (hm : mayB k i s = true) (hs : s.size ≤ 1000000) (hi0 : -9223372036854775808 ≤ i) (hi1 : i ≤ 9223372036854775807) (hE : Env w) :
    Calls Tryd.prog 13 #[.agg #[.int .i64 k, .int .i64 i, .string s]] w fun e w' => e = .returned (.tuple #[.string ⟨(txt k i s).toArray⟩, .int .i64 0]) ∧ Below w.heap.size w w' := by
  have hc := check_any k i s
  rw [show chkI k i s = 0 by unfold chkI; rw [hm]; rfl] at hc
  have HM := Lib.hid hm
  have HE := Lib.hid hE
  have hsz := hE.size
  have HN := Lib.hid (txt_ne k i s)
  clear hm hE
  go_enter Tryd.func13, Tryd.ntmps13
  go_wp2_with (go_at_call 21; go_must (refine (hc _).mono ?_); rintro e w1 ⟨rfl, hb1⟩; obtain ⟨hb3, -, hb, hz⟩ := box3 hb1; have e0 := fun o => (hb3 o).1; have e1 := fun o => (hb3 o).2.1; have e2 := fun o => (hb3 o).2.2; clear hb3 hb1)
  have hw : W63 w1.heap.size w1.heap.size [] (w1.alloc (.cells #[.pointer none, .slice none 0 0] 55)) := Lib.fresh_isBuilder 55 5 w1
  have HE1 := HE.out.below (hb.alloc (by omega) (.cells #[.pointer none, .slice none 0 0] 55)) hsz
  have HW := Lib.hid hw
  have HE2 := Lib.hid HE1
  clear hw HE1
  go_wp2_with (go_at_call 28; go_must (refine (wvalue w1.heap.size w1.heap.size _ _ _ _ _ HW.out HM.out hs hi0 hi1 (by simp) (by simp) HE2.out (by omega)).mono ?_); rintro e w2 ⟨rfl, h2, hb2⟩)
  have hz2 := hb2.size
  go_wp2_with (go_at_call 29; go_must (refine (wText w1.heap.size w1.heap.size _ _ h2 (by simpa using HN.out)).mono ?_); rintro e w3 ⟨rfl, hb3⟩)
  go_ret2
  exact ⟨rfl, ((hb.alloc (by omega) _).trans (hb2.mono (by omega))).trans (hb3.mono (by omega))⟩
set_option maxRecDepth 100000 in
set_option maxHeartbeats 1000000 in
theorem text_bad (k i : Int) (s : ByteArray) (w : World) (hm : mayB k i s = false) :
    Calls Tryd.prog 13 #[.agg #[.int .i64 k, .int .i64 i, .string s]] w fun e w' => e = .returned (.tuple #[.string ⟨#[]⟩, .int .i64 1]) ∧ Below w.heap.size w w' := by
  have hc := check_any k i s
  rw [show chkI k i s = 1 by unfold chkI; rw [hm]; rfl] at hc
  clear hm
  go_enter Tryd.func13, Tryd.ntmps13
  go_wp2_with (go_at_call 21; go_must (refine (hc _).mono ?_); rintro e w1 ⟨rfl, hb1⟩)
  go_ret2
  exact ⟨rfl, ((Below.refl _ w).alloc (Nat.le_refl _) _).trans (hb1.mono (by simp))⟩
theorem rowTxt_ne (xs : List V) : rowTxt xs ≠ [] := by unfold rowTxt; simp
set_option maxRecDepth 100000 in
set_option maxHeartbeats 1000000 in
theorem rowText_ok (xs : List V) (A : Option Addr) (c : Nat) (w : World) (hr : RowAt w w.heap.size A xs) (hok : RowOk xs) (hm : xs.length ≤ 64) (hE : Env w) :
    Calls Tryd.prog 15 #[.slice A xs.length c] w fun e w' => e = .returned (.tuple #[.string ⟨(rowTxt xs).toArray⟩, .int .i64 0]) ∧ Below w.heap.size w w' := by
  have hc := checkRow_any xs A c w hr (by omega)
  rw [show chkR xs = 0 by
    unfold chkR
    rw [if_pos (by unfold allOk; rw [List.all_eq_true]; intro v hv; simpa using (hok v hv).1), if_neg (by omega)]] at hc
  have hrow := wrow
  have HR := Lib.hid hr
  have HO := Lib.hid hok
  have HE := Lib.hid hE
  have hsz := hE.size
  have HN := Lib.hid (rowTxt_ne xs)
  obtain ⟨n, hn⟩ : ∃ n, n = xs.length := ⟨_, rfl⟩
  have HL := Lib.hid hn
  rw [← hn] at hc hm ⊢
  clear hr hok hE hrow hn
  go_enter Tryd.func15, Tryd.ntmps15
  go_wp2_with (go_at_call 30; go_must (refine hc.mono ?_); rintro e w1 ⟨rfl, hb⟩)
  have hz := hb.size
  have hw : W63 w1.heap.size w1.heap.size [] (w1.alloc (.cells #[.pointer none, .slice none 0 0] 55)) := Lib.fresh_isBuilder 55 5 w1
  have hr1 : RowAt (w1.alloc (.cells #[.pointer none, .slice none 0 0] 55)) w1.heap.size A xs := fun hl => by
    obtain ⟨b, off, hA, hlt, hcell⟩ := (HR.out.below (hb.alloc (by omega) (.cells #[.pointer none, .slice none 0 0] 55))) hl
    exact ⟨b, off, hA, by omega, hcell⟩
  have HE1 := HE.out.below (hb.alloc (by omega) (.cells #[.pointer none, .slice none 0 0] 55)) hsz
  have hrow := wrow w1.heap.size w1.heap.size xs A c _ hw hr1 HO.out (by rw [← HL.out]; exact hm) (by simp) HE1 (by omega)
  rw [← HL.out] at hrow
  have HROW := Lib.hid hrow
  clear hw hr1 HE1 hrow
  go_wp2_with (go_at_call 31; go_must (refine HROW.out.mono ?_); rintro e w2 ⟨rfl, h2, hb2⟩)
  have hz2 := hb2.size
  go_wp2_with (go_at_call 29; go_must (refine (wText w1.heap.size w1.heap.size _ _ h2 HN.out).mono ?_); rintro e w3 ⟨rfl, hb3⟩)
  go_ret2
  exact ⟨rfl, ((hb.alloc (by omega) _).trans (hb2.mono (by omega))).trans (hb3.mono (by omega))⟩
set_option maxRecDepth 100000 in
set_option maxHeartbeats 1000000 in
theorem rowText_bad (xs : List V) (A : Option Addr) (c : Nat) (w : World) (hr : RowAt w w.heap.size A xs) (hm : xs.length ≤ 9223372036854775807) (hne : chkR xs ≠ 0) :
    Calls Tryd.prog 15 #[.slice A xs.length c] w fun e w' => e = .returned (.tuple #[.string ⟨#[]⟩, .int .i64 (chkR xs)]) ∧ Below w.heap.size w w' := by
  have hc := checkRow_any xs A c w hr hm
  generalize chkR xs = r at *
  generalize xs.length = n at *
  have h1 : (r != 0) = true := by simpa using hne
  clear hne hr hm
  go_enter Tryd.func15, Tryd.ntmps15
  go_wp2_with (go_at_call 30; go_must (refine hc.mono ?_); rintro e w1 ⟨rfl, hb⟩)
  go_ret2
  exact ⟨rfl, hb⟩
end Go.Proofs.YtkmnlfbllfaieaaDoor
