/- The law's own function live answers true, in whatever world in which the library's two variables hold what they hold at the start. -/
import Derived.Test.YtkmnlfbllfaieaaDoorText
namespace Go.Proofs.YtkmnlfbllfaieaaDoor
open Go.RowKit
theorem live_text (w : World) (hE : Env w) : Calls Tryd.prog 13 #[.agg #[.int .i64 3, .int .i64 0, .string ⟨#[105, 116, 39, 115]⟩]] w fun e w' => e = .returned (.tuple #[.string ⟨#[39, 105, 116, 39, 39, 115, 39]⟩, .int .i64 0]) ∧ Below w.heap.size w w' := by
  have h := text_ok 3 0 ⟨#[105, 116, 39, 115]⟩ w (by decide) (by decide) (by decide) (by decide) hE
  rwa [show txt 3 0 ⟨#[105, 116, 39, 115]⟩ = [39, 105, 116, 39, 39, 115, 39] by decide] at h
def liveRow : List V := [⟨2, 1, ⟨#[]⟩⟩, ⟨0, 0, ⟨#[]⟩⟩]
theorem live_row (A : Option Addr) (w : World) (hE : Env w) (hr : RowAt w w.heap.size A liveRow) : Calls Tryd.prog 15 #[.slice A 2 2] w fun e w' => e = .returned (.tuple #[.string ⟨#[40, 49, 44, 32, 78, 85, 76, 76, 41]⟩, .int .i64 0]) ∧ Below w.heap.size w w' := by
  have h := rowText_ok liveRow A 2 w hr (by intro v hv; simp [liveRow] at hv; rcases hv with rfl | rfl <;> refine ⟨by simp [V.chk, chkI, mayB, emp, Lib.toList_data], by decide, by decide, by decide⟩) (by decide) hE
  rwa [show rowTxt liveRow = [40, 49, 44, 32, 78, 85, 76, 76, 41] by
    unfold rowTxt liveRow body V.txt txt
    simp [Lib.itoa, Lib.decDigits_one (i := 1) (by decide)]] at h
theorem mk31 (s : ByteArray) (w : World) : Calls Tryd.prog 14 #[.string s] w fun e w' => e = .returned (.agg #[.int .i64 3, .int .i64 0, .string s]) ∧ Below w.heap.size w w' := by
  go_enter Tryd.func14, Tryd.ntmps14
  go_wp2
  exact bodyPost_ret (v := .agg #[.int .i64 3, .int .i64 0, .string s]) (by simp [results, Tryd.results14, go_sem]) rfl ⟨rfl, (Below.refl _ w).alloc (Nat.le_refl _) _⟩
theorem mk32 (n : Int) (w : World) : Calls Tryd.prog 16 #[.int .i64 n] w fun e w' => e = .returned (.agg #[.int .i64 2, .int .i64 n, .string ⟨#[]⟩]) ∧ Below w.heap.size w w' := by
  go_enter Tryd.func16, Tryd.ntmps16
  go_wp2
  exact bodyPost_ret (v := .agg #[.int .i64 2, .int .i64 n, .string ⟨#[]⟩]) (by simp [results, Tryd.results16, go_sem]) rfl ⟨rfl, (Below.refl _ w).alloc (Nat.le_refl _) _⟩
theorem mk33  (w : World) : Calls Tryd.prog 18 #[.bool true] w fun e w' => e = .returned (.agg #[.int .i64 1, .int .i64 1, .string ⟨#[]⟩]) ∧ Below w.heap.size w w' := by
  go_enter Tryd.func18, Tryd.ntmps18
  go_wp2
  exact bodyPost_ret (v := .agg #[.int .i64 1, .int .i64 1, .string ⟨#[]⟩]) (by simp [results, Tryd.results18, go_sem]) rfl ⟨rfl, (Below.refl _ w).alloc (Nat.le_refl _) _⟩
theorem mk34 (s : ByteArray) (w : World) : Calls Tryd.prog 19 #[.string s] w fun e w' => e = .returned (.agg #[.int .i64 4, .int .i64 0, .string s]) ∧ Below w.heap.size w w' := by
  go_enter Tryd.func19, Tryd.ntmps19
  go_wp2
  exact bodyPost_ret (v := .agg #[.int .i64 4, .int .i64 0, .string s]) (by simp [results, Tryd.results19, go_sem]) rfl ⟨rfl, (Below.refl _ w).alloc (Nat.le_refl _) _⟩
theorem live_chk (w : World) : Calls Tryd.prog 21 #[.agg #[.int .i64 9, .int .i64 0, .string ⟨#[]⟩]] w fun e w' => e = .returned (.int .i64 1) ∧ Below w.heap.size w w' := by
  have h := check_any 9 0 ⟨#[]⟩ w
  rwa [show chkI 9 0 ⟨#[]⟩ = 1 by decide] at h
theorem live_c1 (w : World) : Calls Tryd.prog 17 #[.agg #[.int .i64 0, .int .i64 0, .string ⟨#[]⟩], .agg #[.int .i64 1, .int .i64 1, .string ⟨#[]⟩]] w fun e w' => e = .returned (.int .i64 (-1)) ∧ Below w.heap.size w w' := by
  have h := cmpV_any 0 0 1 1 ⟨#[]⟩ ⟨#[]⟩ w
  rwa [show cmpV 0 0 ⟨#[]⟩ 1 1 ⟨#[]⟩ = -1 by decide] at h
theorem live_c2 (w : World) : Calls Tryd.prog 17 #[.agg #[.int .i64 4, .int .i64 0, .string ⟨#[]⟩], .agg #[.int .i64 3, .int .i64 0, .string ⟨#[122]⟩]] w fun e w' => e = .returned (.int .i64 1) ∧ Below w.heap.size w w' := by
  have h := cmpV_any 4 0 3 0 ⟨#[]⟩ ⟨#[122]⟩ w
  rwa [show cmpV 4 0 ⟨#[]⟩ 3 0 ⟨#[122]⟩ = 1 by decide] at h
theorem live_s (w : World) : Calls Tryd.prog 20 #[.agg #[.int .i64 2, .int .i64 3, .string ⟨#[]⟩], .agg #[.int .i64 2, .int .i64 3, .string ⟨#[]⟩]] w fun e w' => e = .returned (.bool true) ∧ Below w.heap.size w w' := by
  have h := same_any 2 3 2 3 ⟨#[]⟩ ⟨#[]⟩ w
  rwa [show sameB 2 3 ⟨#[]⟩ 2 3 ⟨#[]⟩ = true by simp [sameB]] at h
theorem liveRow_at (w : World) : RowAt (w.alloc (.cells #[.int .i64 2, .int .i64 1, .string ⟨#[]⟩, .int .i64 0, .int .i64 0, .string ⟨#[]⟩] 35)) (w.heap.size + 1) (some ⟨w.heap.size, 0, none⟩) liveRow := fun _ => by
  have hn : (w.alloc (.cells #[.int .i64 2, .int .i64 1, .string ⟨#[]⟩, .int .i64 0, .int .i64 0, .string ⟨#[]⟩] 35)).heap[w.heap.size]? = some (.cells _ 35 (0, 0)) := heap_alloc_new w _
  refine ⟨w.heap.size, 0, rfl, Nat.lt_succ_self _, fun j hj => ?_⟩
  match j, hj with
  | 0, _ => exact ⟨by rw [Lib.cell_of_heap hn]; rfl, by rw [Lib.cell_of_heap hn]; rfl, by rw [Lib.cell_of_heap hn]; rfl⟩
  | 1, _ => exact ⟨by rw [Lib.cell_of_heap hn]; rfl, by rw [Lib.cell_of_heap hn]; rfl, by rw [Lib.cell_of_heap hn]; rfl⟩
set_option maxRecDepth 100000 in
set_option maxHeartbeats 1000000 in
theorem live_any (w : World) (hE : Env w) :
    Calls Tryd.prog 5 #[] w fun e w' => e = .returned (.bool true) ∧ Below w.heap.size w w' := by
  have HE := Lib.hid hE
  have hsz := hE.size
  clear hE
  go_enter Tryd.func5, Tryd.ntmps5
  go_wp2_with (first | (go_at_call 14; refine (mk31 _ _).mono ?_; rintro e w1 ⟨rfl, hb1⟩) | (go_at_call 13; go_must (refine (live_text _ (HE.out.below hb1 hsz)).mono ?_); rintro e w2 ⟨rfl, hb2⟩) | (go_at_call 16; refine (mk32 _ _).mono ?_; rintro e w3 ⟨rfl, hb3⟩))
  have b3 : Below w.heap.size w (w3.alloc (.cells #[.int .i64 2, .int .i64 1, .string ⟨#[]⟩, .int .i64 0, .int .i64 0, .string ⟨#[]⟩] 35)) := ((hb1.trans (hb2.mono hb1.size)).trans (hb3.mono (by have := hb1.size; have := hb2.size; omega))).alloc (by have := hb1.size; have := hb2.size; have := hb3.size; omega) _
  refine (live_row _ _ (HE.out.below b3 hsz) (by simpa using liveRow_at w3)).mono ?_
  rintro e w4 ⟨rfl, hb4⟩
  have b4 := b3.trans (hb4.mono b3.size)
  clear hb1 hb2 hb3 hb4 b3
  go_wp2_with (first | (go_at_call 18; refine (mk33 _).mono ?_; rintro e w5 ⟨rfl, hb5⟩) | (go_at_call 17; refine (live_c1 _).mono ?_; rintro e w6 ⟨rfl, hb6⟩) | (go_at_call 19; refine (mk34 _ _).mono ?_; rintro e w7 ⟨rfl, hb7⟩))
  have b7 := (b4.trans (hb5.mono b4.size)).trans (hb6.mono (by have := b4.size; have := hb5.size; omega))
  have b8 := b7.trans (hb7.mono b7.size)
  clear b4 hb5 hb6 b7 hb7
  go_wp2_with (first | (go_at_call 14; refine (mk31 _ _).mono ?_; rintro e w5 ⟨rfl, hb5⟩) | (go_at_call 17; refine (live_c2 _).mono ?_; rintro e w6 ⟨rfl, hb6⟩))
  have b9 := (b8.trans (hb5.mono b8.size)).trans (hb6.mono (by have := b8.size; have := hb5.size; omega))
  clear b8 hb5 hb6
  refine (mk32 _ _).mono ?_
  rintro e w10 ⟨rfl, hb10⟩
  have b10 := b9.trans (hb10.mono b9.size)
  clear b9 hb10
  go_wp2_with fail
  refine (mk32 _ _).mono ?_
  rintro e w11 ⟨rfl, hb11⟩
  have b11 := b10.trans (hb11.mono b10.size)
  clear b10 hb11
  go_wp2_with fail
  refine (live_s _).mono ?_
  rintro e w12 ⟨rfl, hb12⟩
  have b12 := b11.trans (hb12.mono b11.size)
  clear b11 hb12
  go_wp2_with fail
  refine (live_chk _).mono ?_
  rintro e w13 ⟨rfl, hb13⟩
  have b13 := b12.trans (hb13.mono b12.size)
  go_wp2_with fail
  go_ret
  exact ⟨rfl, b13⟩
end Go.Proofs.YtkmnlfbllfaieaaDoor
