/- Arguments of a variadic call, side by side in a block of their own; and the functions substr, instr and length of such. Conditions: no text longer than 2 to the 31. -/
import Derived.Test.YtdffnkopbackiaaDoorScaPiece
import Derived.Test.YtdffnkopbackiaaDoorFlat
import Derived.StillTailTactics
namespace Go.Proofs.YtdffnkopbackiaaDoor
open Go.RowKit
def Args (w : World) (H : Nat) (xs : List V) : Prop := w.heap[H]? = some (.cells (flat xs).toArray 23 (0, 0))
theorem Args.lt {w : World} {H : Nat} {xs : List V} (h : Args w H xs) : H < w.heap.size := (Array.getElem?_eq_some_iff.1 h).1
theorem Args.later {w w' : World} {H : Nat} {xs : List V} (h : Args w H xs) (hb : Below w.heap.size w w') : Args w' H xs := (hb.block H h.lt).trans h
theorem Args.row {w : World} {H : Nat} {xs : List V} (h : Args w H xs) : RowAt w w.heap.size (some ⟨H, 0, none⟩) xs :=
  RowAt.of_flat (fun j u hu => by
    rw [WideShapes.add_plain, Nat.zero_add, Lib.cell_of_heap h]
    simpa using hu) h.lt
theorem Args.drewN {w : World} {H : Nat} {xs : List V} (h : Args w H xs) (n : Nat) : Args (w.drewN n) H xs := h
theorem args1 {w : World} {H : Nat} {a : V} (hH : w.heap.size = H) : Args (w.alloc (.cells #[.int .i64 a.k, .int .i64 a.i, .string a.s] 23)) H [a] := by subst hH; exact heap_alloc_new w _
theorem args2 {w : World} {H : Nat} {a b : V} (hH : w.heap.size = H) : Args (w.alloc (.cells #[.int .i64 a.k, .int .i64 a.i, .string a.s, .int .i64 b.k, .int .i64 b.i, .string b.s] 23)) H [a, b] := by subst hH; exact heap_alloc_new w _
theorem args3 {w : World} {H : Nat} {a b c : V} (hH : w.heap.size = H) : Args (w.alloc (.cells #[.int .i64 a.k, .int .i64 a.i, .string a.s, .int .i64 b.k, .int .i64 b.i, .string b.s, .int .i64 c.k, .int .i64 c.i, .string c.s] 23)) H [a, b, c] := by subst hH; exact heap_alloc_new w _
/-- The library's one variable that is read. -/
structure Env (w : World) : Prop where
  size : 1 ≤ w.heap.size
  max : ∃ m, w.cell? ⟨0, 0, none⟩ = some (.int .i64 m)
theorem Env.later {w w' : World} (h : Env w) (hb : Below w.heap.size w w') : Env w' :=
  ⟨Nat.le_trans h.size hb.size, by obtain ⟨m, hm⟩ := h.max; exact ⟨m, (hb.cell (p := ⟨0, 0, none⟩) (by show 0 < _; have := h.size; omega)).trans hm⟩⟩
theorem zero_box (w : World) : HV w [(w.heap.size, zV)] (w.alloc (.cells #[.int .i64 0, .int .i64 0, .string ⟨#[]⟩] 23)) := (HV.nil w).push zV
theorem Args.cell {w : World} {H : Nat} {xs : List V} (h : Args w H xs) (j : Nat) : w.cell? ⟨H, j, none⟩ = (flat xs)[j]? := by
  rw [Lib.cell_of_heap h]; simp
theorem index_le : ∀ s sub : List UInt8, Lib.index s sub ≤ s.length
  | [], sub => by unfold Lib.index; split <;> simp
  | b :: l, sub => by
    have := index_le l sub
    unfold Lib.index
    simp only [List.length_cons]
    split
    · omega
    · split <;> omega
theorem index_in (s t : ByteArray) : -1 ≤ Lib.index s.data.toList t.data.toList ∧ Lib.index s.data.toList t.data.toList ≤ s.size :=
  ⟨Lib.index_ge _ _, by have := index_le s.data.toList t.data.toList; simpa using this⟩
theorem text_any (s : ByteArray) (w : World) : Calls Tryd.prog 57 #[.string s] w fun e w' => e = .returned (.agg #[.int .i64 3, .int .i64 0, .string s]) ∧ Below w.heap.size w w' := by
  go_enter Tryd.func57, Tryd.ntmps57
  go_wp2
  exact bodyPost_ret (v := .agg #[.int .i64 3, .int .i64 0, .string s]) (by simp [results, Tryd.results57, go_sem]) rfl ⟨rfl, (Below.refl _ w).alloc (Nat.le_refl _) _⟩
set_option maxRecDepth 100000 in
set_option maxHeartbeats 2000000 in
theorem length_do (a : V) (H : Nat) (w : World) (h : Args w H [a]) (_hs : a.s.size ≤ 140737488355328) : Calls Tryd.prog 48 #[.slice (some ⟨H, 0, none⟩) 1 1] w fun e w' => e = .returned (.tuple #[.agg #[.int .i64 2, .int .i64 a.s.size, .string ⟨#[]⟩], .int .i64 0]) ∧ Below w.heap.size w w' := by
  have hl := h.lt
  have HZ := Lib.hid (zero_box w)
  have c2 : w.cell? ⟨H, 2, none⟩ = some (.string a.s) := h.cell 2
  clear h
  go_enter Tryd.func48, Tryd.ntmps48
  go_wp2_with fail
  refine (number_any _ _).mono ?_
  rintro e w1 ⟨rfl, hb⟩
  have H1 := Lib.hid (HZ.out.call hb)
  obtain ⟨g0, g1, g2⟩ := H1.out.box.cells
  obtain ⟨f0, f1, f2⟩ := H1.out.box.free
  simp only [zV] at g0 g1 g2
  clear c2
  go_wp2_with fail
  exact bodyPost_ret (v := .tuple #[.agg #[.int .i64 2, .int .i64 a.s.size, .string ⟨#[]⟩], .int .i64 0]) (by simp [results, Tryd.results48, go_sem, g0, g1, g2]) rfl ⟨rfl, Below.set3 H1.out.below (by omega) _ _ _⟩
set_option maxRecDepth 100000 in
set_option maxHeartbeats 2000000 in
theorem substr_do (a : V) (m k : Int) (H : Nat) (w : World) (h : Args w H [a, nV m, nV k]) (hs : a.s.size ≤ 140737488355328) (hm : In64 m) (hk : 0 ≤ k) (hk' : k ≤ 9223372036854775807) : Calls Tryd.prog 52 #[.slice (some ⟨H, 0, none⟩) 3 3] w fun e w' => e = .returned (.tuple #[.agg #[.int .i64 a.k, .int .i64 0, .string (pc a.s m k)], .int .i64 0]) ∧ Below w.heap.size w w' := by
  have hl := h.lt
  have HZ := Lib.hid (zero_box w)
  have h1 := h.later ((Below.refl _ w).alloc (Nat.le_refl _) (.cells #[.int .i64 0, .int .i64 0, .string ⟨#[]⟩] 23))
  have HA := Lib.hid h1
  have c7 : w.cell? ⟨H, 7, none⟩ = some (.int .i64 k) := h.cell 7
  have HP := Lib.hid (fun w => piece_any a.s m k w hs hm hk hk')
  clear h h1 hs hm
  generalize pc a.s m k = q at *
  go_enter Tryd.func52, Tryd.ntmps52
  go_wp2_with fail
  generalize w.alloc (.cells #[.int .i64 0, .int .i64 0, .string ⟨#[]⟩] 23) = W1 at *
  clear c7
  have c0 : W1.cell? ⟨H, 0, none⟩ = some (.int .i64 a.k) := HA.out.cell 0
  have c2 : W1.cell? ⟨H, 2, none⟩ = some (.string a.s) := HA.out.cell 2
  have c4 : W1.cell? ⟨H, 4, none⟩ = some (.int .i64 m) := HA.out.cell 4
  have c7 : W1.cell? ⟨H, 7, none⟩ = some (.int .i64 k) := HA.out.cell 7
  obtain ⟨g0, g1, g2⟩ := HZ.out.box.cells
  obtain ⟨f0, f1, f2⟩ := HZ.out.box.free
  simp only [zV] at g0 g1 g2
  refine wp_region_still_tail 18 (by kernel_rfl) (by kernel_rfl) ?_
  simp only [List.take_succ_cons, List.take_zero, List.drop_succ_cons, List.drop_zero]
  repeat still_step
  still_call (same_turn (HP.out _))
  repeat still_step
  refine wpStill_nil ?_
  change wpList _ _ _ _ _ W1.drew
  go_wp2_with fail
  exact bodyPost_ret (v := .tuple #[.agg #[.int .i64 a.k, .int .i64 0, .string q], .int .i64 0]) (by simp [results, Tryd.results52, go_sem, g0, g1, g2]) rfl ⟨rfl, Below.set3 HZ.out.below.drew (Nat.le_refl _) _ _ _⟩
set_option maxRecDepth 100000 in
set_option maxHeartbeats 2000000 in
theorem instr_do (a b : V) (H : Nat) (w : World) (h : Args w H [a, b]) (hE : Env w) (hs : a.s.size < 4294967281) : Calls Tryd.prog 53 #[.slice (some ⟨H, 0, none⟩) 2 2] w fun e w' => e = .returned (.tuple #[.agg #[.int .i64 2, .int .i64 (Lib.index a.s.data.toList b.s.data.toList + 1), .string ⟨#[]⟩], .int .i64 0]) ∧ Below w.heap.size w w' := by
  have hl := h.lt
  have HZ := Lib.hid (zero_box w)
  have h1 := h.later ((Below.refl _ w).alloc (Nat.le_refl _) (.cells #[.int .i64 0, .int .i64 0, .string ⟨#[]⟩] 23))
  have HA := Lib.hid h1
  have HE := Lib.hid hE
  have hr : -1 ≤ Lib.index a.s.data.toList b.s.data.toList ∧ Lib.index a.s.data.toList b.s.data.toList ≤ a.s.size := index_in a.s b.s
  have HI : Hid (∀ w' m, w'.cell? ⟨0, 0, none⟩ = some (.int .i64 m) → Calls Tryd.prog 61 #[.string a.s, .string b.s] w' fun e w2 => e = .returned (.int .i64 (Lib.index a.s.data.toList b.s.data.toList)) ∧ w2 = w') := fun w' m hm => Tryd.strings_Index a.s b.s m w' hs hm
  clear h h1 hE
  generalize Lib.index a.s.data.toList b.s.data.toList = x at *
  have hx1 := hr.1
  have hx2 := hr.2
  clear hr
  go_enter Tryd.func53, Tryd.ntmps53
  go_wp2_with fail
  generalize w.alloc (.cells #[.int .i64 0, .int .i64 0, .string ⟨#[]⟩] 23) = W1 at *
  have c2 : W1.cell? ⟨H, 2, none⟩ = some (.string a.s) := HA.out.cell 2
  have c5 : W1.cell? ⟨H, 5, none⟩ = some (.string b.s) := HA.out.cell 5
  go_still_tail 8, (by kernel_rfl)
  change wpList _ _ _ _ _ W1.drew
  obtain ⟨m, hm⟩ := (HE.out.later (HZ.out.below.drew)).max
  have HM := Lib.hid hm
  clear hm
  go_wp2_with (go_at_call 61; refine (HI.out _ m HM.out).mono ?_; rintro e w' ⟨rfl, rfl⟩)
  refine (number_any _ _).mono ?_
  rintro e w1 ⟨rfl, hb⟩
  have H1 := Lib.hid (HZ.out.drew.call hb)
  obtain ⟨g0, g1, g2⟩ := H1.out.box.cells
  obtain ⟨f0, f1, f2⟩ := H1.out.box.free
  simp only [zV] at g0 g1 g2
  clear c2 c5
  go_wp2_with fail
  exact bodyPost_ret (v := .tuple #[.agg #[.int .i64 2, .int .i64 (x + 1), .string ⟨#[]⟩], .int .i64 0]) (by simp [results, Tryd.results53, go_sem, g0, g1, g2]) rfl ⟨rfl, Below.set3 H1.out.below (Nat.le_refl _) _ _ _⟩
end Go.Proofs.YtdffnkopbackiaaDoor
