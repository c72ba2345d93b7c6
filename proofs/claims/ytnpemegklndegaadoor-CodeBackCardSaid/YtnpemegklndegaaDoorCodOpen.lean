/- What bytes that came in read as: one by one. No condition. -/
import Derived.Test.YtnpemegklndegaaDoorOpen
import Derived.Test.YtnpemegklndegaaDoorCodBytes
import Derived.ChangeSlices
namespace Go.Proofs.YtnpemegklndegaaDoor
open Go.RowKit Go.ChangeShapes Go.WideShapes
theorem u8_of_wf {x : Int} (h : (Lit.int .u8 x).wf = true) : ∃ u : UInt8, x = u.toNat := by
  have h1 : IntKind.u8.min = 0 := rfl
  have h2 : IntKind.u8.max = 255 := rfl
  simp only [Lit.wf, Bool.and_eq_true, decide_eq_true_eq] at h
  refine ⟨UInt8.ofNat x.toNat, ?_⟩
  rw [UInt8.toNat_ofNat']
  omega
section
variable {H : Type} {enc : TypeId × Value → H} {W : World}
/-- Bytes that came in, opened. -/
theorem open_bytes {fuel : Nat} {a0 : Option Addr} {len cap : Nat} {x : DataW H × List MemPlace} (hf : DataW.trod enc Tryd.prog W 0 (fun _ => true) true fuel 26 [.slice a0 len cap] = some x) :
    ∃ l : List UInt8, l.length = len ∧ BytesAt W W.heap.size a0 l ∧ l.length ≤ cap := by
  rcases open_ints Tryd.underlying26 Tryd.underlying5 (by kernel_rfl) hf with ⟨hcs, hx⟩ | ⟨a, len', cap', zs, hcs, _, hl, hm, hz, hx, hcell, hwz⟩
  · simp at hcs
    obtain ⟨rfl, rfl, rfl⟩ := hcs
    exact ⟨[], rfl, BytesAt.nil _ _ _, Nat.le_refl _⟩
  · simp at hcs
    obtain ⟨rfl, rfl, rfl⟩ := hcs
    simp only [if_true] at hz
    obtain ⟨b, o, spot⟩ := a
    refine ⟨(zs.take len).map fun z => UInt8.ofNat z.toNat, by simp; omega, fun h0 => ?_, by simp; omega⟩
    have h0' : 0 < len := by simp at h0; omega
    obtain rfl : spot = none := by
      have := World.cell?_spot (show W.cell? _ = some _ from hcell 0 (by omega))
      simpa [Addr.add] using this
    refine ⟨b, o, rfl, ?_, fun j hj => ?_⟩
    · have := World.block_lt_of_cell? _ _ (hcell 0 (by omega))
      simpa [Addr.add] using this
    · have hj' : j < len := by simp at hj; omega
      have hc := hcell j (by omega)
      rw [WideShapes.add_plain] at hc
      obtain ⟨u, hu⟩ := u8_of_wf (hwz (zs[j]'(by omega)) (List.getElem_mem _))
      have hd : zs.getD j 0 = zs[j]'(by omega) := by simp [List.getD, show j < zs.length by omega]
      rw [hc, hd]
      simp [hu]
end
end Go.Proofs.YtnpemegklndegaaDoor
