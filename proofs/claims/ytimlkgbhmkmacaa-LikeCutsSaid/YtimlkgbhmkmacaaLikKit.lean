/- Units in memory, one behind the other, and what becomes of them when memory grows. No condition. -/
import Derived.Test.YtimlkgbhmkmacaaProg
import Derived.Test.YtimlkgbhmkmacaaLikPlain2
import Derived.WalkKit
import Derived.WalkSpells
import Derived.WalkLawsBesides
import Derived.Lib.Hide
import Derived.Lib.Walk
import Derived.Deep.Light
import Derived.IntWalk
namespace Go.Proofs.Ytimlkgbhmkmacaa
open Go.RowKit
theorem ret_int {k : IntKind} {a b : Int} (h : a = b) : Ending.returned (.int k a) = .returned (.int k b) := by rw [h]
theorem ret_bool {a b : Bool} (h : a = b) : Ending.returned (.bool a) = .returned (.bool b) := by rw [h]
theorem size_list (s : ByteArray) : s.data.toList.length = s.size := by simp
theorem bthen {w w1 w2 : World} (h : Below w.heap.size w w1) (h' : Below w1.heap.size w1 w2) : Below w.heap.size w w2 := h.trans (h'.mono h.size)
def UAt (w : World) (A : Option Addr) (us : List Int) : Prop := 0 < us.length → ∃ b off, A = some ⟨b, off, none⟩ ∧ b < w.heap.size ∧ ∀ j (h : j < us.length), w.cell? ⟨b, off + j, none⟩ = some (.int .i16 us[j])
theorem UAt.later {w w' : World} {A : Option Addr} {us : List Int} (h : UAt w A us) (hb : Below w.heap.size w w') : UAt w' A us := fun h0 => by
  obtain ⟨b, off, hA, hlt, hc⟩ := h h0
  exact ⟨b, off, hA, Nat.lt_of_lt_of_le hlt hb.size, fun j hj => (hb.cell (p := ⟨b, _, none⟩) hlt).trans (hc j hj)⟩
theorem UAt.drew {w : World} {A : Option Addr} {us : List Int} (h : UAt w A us) : UAt w.drew A us := h.later (Below.refl _ w).drew
theorem UAt.take {w : World} {A : Option Addr} {us : List Int} (h : UAt w A us) (k : Nat) : UAt w A (us.take k) := fun h0 => by
  rw [List.length_take] at h0
  obtain ⟨b, off, hA, hlt, hc⟩ := h (by omega)
  refine ⟨b, off, hA, hlt, fun j hj => ?_⟩
  rw [List.getElem_take]
  exact hc j (by rw [List.length_take] at hj; omega)
theorem UAt.drop {w : World} {b off : Nat} {us : List Int} (h : UAt w (some ⟨b, off, none⟩) us) (k : Nat) : UAt w (some ⟨b, off + k, none⟩) (us.drop k) := fun h0 => by
  rw [List.length_drop] at h0
  obtain ⟨b', off', hA, hlt, hc⟩ := h (by omega)
  simp at hA
  obtain ⟨rfl, rfl⟩ := hA
  refine ⟨b, off + k, rfl, hlt, fun j hj => ?_⟩
  rw [List.getElem_drop, Nat.add_assoc]
  exact hc (k + j) (by rw [List.length_drop] at hj; omega)
theorem UAt.nil {w : World} {A : Option Addr} {us : List Int} (h : us = []) : UAt w A us := fun h0 => by rw [h] at h0; simp at h0
end Go.Proofs.Ytimlkgbhmkmacaa
