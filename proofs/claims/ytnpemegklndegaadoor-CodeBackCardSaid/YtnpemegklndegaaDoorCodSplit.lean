/- Contracts of code's split and number (a number's eight bytes, and back), and of the reference's. Condition: numbers are less than 2 to the 64. -/
import Derived.Test.YtnpemegklndegaaDoorCodBytes
import Derived.Test.YtnpemegklndegaaDoorCodHash
import Derived.StillTailTactics
import Derived.Deep.Heap
namespace Go.Proofs.YtnpemegklndegaaDoor
open Go.RowKit
def d8 (n j : Nat) : Int := ((n / 256 ^ j % 256 : Nat) : Int)
def arrV (n : Nat) : Value := .agg #[.int .u8 (d8 n 7), .int .u8 (d8 n 6), .int .u8 (d8 n 5), .int .u8 (d8 n 4), .int .u8 (d8 n 3), .int .u8 (d8 n 2), .int .u8 (d8 n 1), .int .u8 (d8 n 0)]
def arrC (n k j : Nat) : Value := .int .u8 (if 8 - k ≤ j then d8 n (7 - j) else 0)
theorem arr_set {w : World} {g n k q : Nat} {x : Int} (h : ∀ j, j < 8 → w.cell? ⟨g, j, none⟩ = some (arrC n k j)) (hk : k < 8) (hq : q = 7 - k) (hx : x = d8 n k) : ∀ j, j < 8 → (w.setCell ⟨g, q, none⟩ (.int .u8 x)).cell? ⟨g, j, none⟩ = some (arrC n (k + 1) j) := by
  intro j hj
  subst hq
  by_cases e : j = 7 - k
  · subst e
    rw [World.cell?_setCell_same _ _ _ (h _ hj)]
    unfold arrC
    rw [if_pos (by omega), hx, show 7 - (7 - k) = k by omega]
  · rw [World.cell?_setCell_other _ _ _ _ (by simp <;> omega), h j hj]
    unfold arrC
    by_cases e2 : 8 - k ≤ j
    · rw [if_pos e2, if_pos (by omega)]
    · rw [if_neg e2, if_neg (by omega)]
theorem arr_zero (w : World) (n : Nat) (T : TypeId) : ∀ j, j < 8 → (w.alloc (.cells #[.int .u8 0, .int .u8 0, .int .u8 0, .int .u8 0, .int .u8 0, .int .u8 0, .int .u8 0, .int .u8 0] T)).cell? ⟨w.heap.size, j, none⟩ = some (arrC n 0 j) := by
  intro j hj
  have hn : (w.alloc (.cells #[.int .u8 0, .int .u8 0, .int .u8 0, .int .u8 0, .int .u8 0, .int .u8 0, .int .u8 0, .int .u8 0] T)).heap[w.heap.size]? = some (.cells _ T (0, 0)) := heap_alloc_new w _
  rw [Lib.cell_of_heap hn]
  unfold arrC
  rw [if_neg (by omega)]
  match j, hj with
  | 0, _ | 1, _ | 2, _ | 3, _ | 4, _ | 5, _ | 6, _ | 7, _ => rfl
def z8 (T : TypeId) : Obj := .cells #[.int .u8 0, .int .u8 0, .int .u8 0, .int .u8 0, .int .u8 0, .int .u8 0, .int .u8 0, .int .u8 0] T (0, 0)
theorem Below.set8 {B : Nat} {a w : World} (h : Below B a w) {b : Nat} (hb : B ≤ b) (x y z u v s t q : Value) : Below B a ((((((((w.setCell ⟨b, 0, none⟩ x).setCell ⟨b, 1, none⟩ y).setCell ⟨b, 2, none⟩ z).setCell ⟨b, 3, none⟩ u).setCell ⟨b, 4, none⟩ v).setCell ⟨b, 5, none⟩ s).setCell ⟨b, 6, none⟩ t).setCell ⟨b, 7, none⟩ q) := (((((((h.setCell hb _).setCell hb _).setCell hb _).setCell hb _).setCell hb _).setCell hb _).setCell hb _).setCell hb _
theorem div_step {n m k : Nat} (h : m = n / 256 ^ k) : m / 256 = n / 256 ^ (k + 1) := by subst h; rw [Nat.div_div_eq_div_mul, Nat.pow_succ]
set_option maxRecDepth 100000 in
set_option maxHeartbeats 400000 in
theorem split_any (n : Nat) (w : World) (hn : n < 18446744073709551616) : Calls Tryd.prog 39 #[.int .u64 n] w fun e w' => e = .returned (arrV n) ∧ Below w.heap.size w w' := by
  go_enter Tryd.func39, Tryd.ntmps39
  go_wp2_with fail
  go_loopw [0, 5] (fun nn i wr => ∃ k m : Nat, k ≤ 8 ∧ i = .int .i64 k ∧ nn = .int .u64 m ∧ m < 18446744073709551616 ∧ w.heap.size + 1 < wr.heap.size ∧ Hid (m = n / 256 ^ k) ∧ Hid (Below w.heap.size w wr) ∧ Hid (∀ j, j < 8 → wr.cell? ⟨w.heap.size + 1, j, none⟩ = some (arrC n k j)) ∧ Hid (∀ j, wr.frozen? ⟨w.heap.size + 1, j, none⟩ = false) ∧ Hid (wr.heap[w.heap.size]? = some (z8 65))) (fun _ i _ => 8 - (intOf i).toNat)
  case atStart =>
    refine ⟨0, n, Nat.zero_le _, rfl, rfl, hn, by simp, by show _ = _; simp, ((Below.refl _ w).alloc (Nat.le_refl _) _).alloc (by simp) _, ?_, fun j => ?_, ?_⟩
    · intro j hj
      have := arr_zero (w.alloc (z8 65)) n 65 j hj
      simpa [z8] using this
    · simp
    · exact (heap_alloc_old (w.alloc (z8 65)) (z8 65) (by simp)).trans (heap_alloc_new w _)
  case round =>
    obtain ⟨k, m, hk, rfl, rfl, hm, hz, HM, HB, HC, HF, HZ⟩ := hrel
    by_cases hlt : k < 8
    · have f0 := HF.out
      have hw : IntKind.u8.wrap (m : Int) = ((m % 256 : Nat) : Int) := by simp [IntKind.wrap, IntKind.bits, IntKind.signed]
      have e7 : IntKind.i64.wrap (7 - (k : Int)) = ((7 - k : Nat) : Int) := by rw [IntWalk.i64_in _ (by omega)]; omega
      have hq : 7 - k < 8 := by omega
      have c0 := HC.out (7 - k) hq
      go_wp2_with fail
      go_roundw
      case rel => exact ⟨k + 1, m / 256, by omega, by go_num, by simp, by omega, by simpa using hz, div_step HM.out, HB.out.setCell (by simp) _, arr_set HC.out hlt rfl (by rw [HM.out]; rfl), fun j => by rw [World.frozen?_setCell]; exact HF.out j, (Go.Deep.blk_setCell_other _ _ _ _ (by simp)).trans HZ.out⟩
      case measure => simp [intOf]; omega
    · obtain rfl : k = 8 := by omega
      have hc := HC.out
      have c0 := hc 0 (by decide)
      have c1 := hc 1 (by decide)
      have c2 := hc 2 (by decide)
      have c3 := hc 3 (by decide)
      have c4 := hc 4 (by decide)
      have c5 := hc 5 (by decide)
      have c6 := hc 6 (by decide)
      have c7 := hc 7 (by decide)
      simp only [arrC, Nat.sub_self, Nat.zero_le, if_true, Nat.sub_zero] at c0 c1 c2 c3 c4 c5 c6 c7
      have z0 : ∀ j, j < 8 → wr.cell? ⟨w.heap.size, j, none⟩ = some (.int .u8 0) := fun j hj => by
        rw [Lib.cell_of_heap HZ.out]
        match j, hj with
        | 0, _ | 1, _ | 2, _ | 3, _ | 4, _ | 5, _ | 6, _ | 7, _ => rfl
      have g0 := z0 0 (by decide)
      have g1 := z0 1 (by decide)
      have g2 := z0 2 (by decide)
      have g3 := z0 3 (by decide)
      have g4 := z0 4 (by decide)
      have g5 := z0 5 (by decide)
      have g6 := z0 6 (by decide)
      have g7 := z0 7 (by decide)
      have q0 : ∀ j, wr.frozen? ⟨w.heap.size, j, none⟩ = false := fun j => Lib.frozen_of_heap HZ.out j
      clear hc z0
      go_wp2_with fail
      exact bodyPost_ret (v := arrV n) (by simp [results, Tryd.results39, go_sem, arrV, g0, g1, g2, g3, g4, g5, g6, g7]) rfl ⟨rfl, Below.set8 HB.out (Nat.le_refl _) _ _ _ _ _ _ _ _⟩
end Go.Proofs.YtnpemegklndegaaDoor
