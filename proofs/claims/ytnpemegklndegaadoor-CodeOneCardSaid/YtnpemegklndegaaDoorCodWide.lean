/- Contract of the reference's wide: a number's lowest bytes, in memory of its own. Condition: the number is less than 2 to the 64, and no more than 8 bytes are asked. -/
import Derived.Test.YtnpemegklndegaaDoorCodNum
namespace Go.Proofs.YtnpemegklndegaaDoor
open Go.RowKit
theorem byte_val (n k : Nat) : ((UInt8.ofNat (n / 256 ^ k)).toNat : Int) = (n : Int) / 2 ^ (8 * k) % 256 := by
  have h : ((2 : Int) ^ (8 * k)) = ((256 ^ k : Nat) : Int) := by rw [Int.pow_mul]; simp
  rw [h]
  simp
theorem be_take {n m k : Nat} (h : k < m) : (be n m).take (k + 1) = (be n m).take k ++ [UInt8.ofNat (n / 256 ^ (m - 1 - k))] := by
  have hk : k < (be n m).length := by rw [be_length]; exact h
  rw [List.take_succ_eq_append_getElem hk]
  have := be_get n m k h
  rw [List.getElem?_eq_getElem hk] at this
  rw [Option.some.inj this]
theorem one_at (w : World) (x : UInt8) (T : TypeId) : BytesAt (w.alloc (.cells #[.int .u8 x.toNat] T)) (w.alloc (.cells #[.int .u8 x.toNat] T)).heap.size (some ⟨w.heap.size, 0, none⟩) [x] := fun _ => by
  refine ⟨w.heap.size, 0, rfl, by simp, fun j hj => ?_⟩
  have hn : (w.alloc (.cells #[.int .u8 x.toNat] T)).heap[w.heap.size]? = some (.cells _ T (0, 0)) := heap_alloc_new w _
  match j, hj with
  | 0, _ => rw [Lib.cell_of_heap hn]; rfl
/-- One byte more, behind those that the call owns. -/
theorem own_one {w : World} {B : Nat} {v : Value} {l : List UInt8} (hown : Own w B v l) (x : UInt8) (hm : l.length ≤ 50000000) (hB : B ≤ w.heap.size) :
    ∃ v' w', (Builtin.append_ #[26, 26] 26 #[v, .slice (some ⟨w.heap.size, 0, none⟩) 1 1]).run Tryd.prog (w.alloc (.cells #[.int .u8 x.toNat] 5)) = .ok v' w' ∧ Own w' B v' (l ++ [x]) ∧ (w.alloc (.cells #[.int .u8 x.toNat] 5)).grownBy w' v.ownBlock ∧ (v'.ownBlock = v.ownBlock ∨ v'.ownBlock = some (w.heap.size + 1)) := by
  have h := own_app (own_alloc hown (.cells #[.int .u8 x.toNat] 5)) [x] _ 1 (one_at w x 5) (by simp; omega) (by simp; omega)
  obtain ⟨v', w', h1, h2, h3, h4⟩ := h
  exact ⟨v', w', h1, h2, h3, by simpa using h4⟩
set_option maxRecDepth 100000 in
set_option maxHeartbeats 400000 in
theorem wide_any (n m : Nat) (w : World) (_hn : n < 18446744073709551616) (hm : m ≤ 8) : Calls Tryd.prog 30 #[.int .u64 n, .int .i64 m] w fun e w' => ∃ v, e = .returned v ∧ Own w' w.heap.size v (be n m) ∧ Below w.heap.size w w' := by
  go_enter Tryd.func30, Tryd.ntmps30
  go_wp2_with fail
  go_loopw [5, 8] (fun o i wr => ∃ k : Nat, k ≤ m ∧ i = .int .i64 k ∧ w.heap.size ≤ wr.heap.size ∧ Hid (Own wr w.heap.size o ((be n m).take k)) ∧ Hid (Below w.heap.size w wr)) (fun _ i _ => m - (intOf i).toNat)
  case atStart => exact ⟨0, Nat.zero_le _, rfl, Nat.le_refl _, Own.nil _ _, Below.refl _ _⟩
  case round =>
    obtain ⟨k, hk, rfl, hz, HO, HB⟩ := hrel
    by_cases hlt : k < m
    · have hrun := own_one HO.out (UInt8.ofNat (n / 256 ^ (m - 1 - k))) (by rw [List.length_take, be_length]; omega) hz
      rw [← be_take hlt, byte_val] at hrun
      obtain ⟨v', w', h1, h2, h3, -⟩ := hrun
      have H2 := Lib.hid h2
      have H3 := Lib.hid (grown_below (HB.out.alloc hz _) (own_alloc HO.out _) h3 (by simp; omega) (Nat.le_refl _))
      have hz' : w.heap.size ≤ w'.heap.size := H3.out.size
      clear h2 h3
      go_wp2_with (at_builtin; refine Lib.wpList_append_run_sl _ rfl _ _ 26 rfl _ _ rfl rfl h1 ?_)
      go_roundw
      case rel => exact ⟨k + 1, by omega, by go_num, hz', H2.out, H3.out⟩
      case measure => simp [intOf]; omega
    · obtain rfl : k = m := by omega
      have HT : Hid (Own wr w.heap.size u5 (be n k)) := by have := HO.out; rw [List.take_of_length_le (by rw [be_length]; omega)] at this; exact this
      go_wp2_with fail
      go_ret
      exact ⟨_, rfl, HT.out, HB.out⟩
end Go.Proofs.YtnpemegklndegaaDoor
