/- Contract of token's sign: the token of the first of the signs with which the text begins, or none. Condition: the program's list of signs is there. -/
import Derived.Test.YtcmbdghbicjljaaGreatDoorQ05
import Derived.Lib.Strings
import Derived.WalkMore
import Derived.Test.YtcmbdghbicjljaaGreatDoorQ25
import Derived.BigRegion
namespace Go.Proofs.YtcmbdghbicjljaaGreatDoor
open Go.RowKit
def NoneYet (l : List UInt8) (j : Nat) : Prop := ∀ i (h : i < signs.length), i < j → signs[i].isPrefixOf l = false
theorem NoneYet.next {l : List UInt8} {j : Nat} (h : NoneYet l j) (hj : j < signs.length) (hp : signs[j].isPrefixOf l = false) : NoneYet l (j + 1) := fun i hi hlt => by
  rcases Nat.lt_or_ge i j with h1 | h1
  · exact h i hi h1
  · have : i = j := by omega
    subst this
    exact hp
theorem NoneYet.none {l : List UInt8} (h : NoneYet l 18) : sgn l = none := by
  unfold sgn
  rw [List.find?_eq_none]
  intro w hw
  obtain ⟨i, hi, rfl⟩ := List.getElem_of_mem hw
  have := h i hi (by have : signs.length = 18 := rfl; omega)
  simp [this]
end Go.Proofs.YtcmbdghbicjljaaGreatDoor
namespace Go.Proofs.YtcmbdghbicjljaaGreatDoor
open Go.RowKit
def TxtAt (l : List UInt8) (acc : List UInt8) (k : Nat) : Prop := txtR (l.drop 1) = (txtR (l.drop k)).map fun p => (acc ++ p.1, p.2 + (k - 1))
theorem txtR_other {c : UInt8} {r : List UInt8} (h : c ≠ 39) : txtR (c :: r) = (txtR r).map fun p => (c :: p.1, p.2 + 1) := by
  conv => lhs; unfold txtR
  rw [if_neg h]
theorem TxtAt.other {l acc : List UInt8} {k : Nat} (h : TxtAt l acc k) (h1 : 1 ≤ k) (hk : k < l.length) (hc : l[k] ≠ 39) : TxtAt l (acc ++ [l[k]]) (k + 1) := by
  unfold TxtAt at *
  rw [h, List.drop_eq_getElem_cons hk, txtR_other hc]
  cases txtR (l.drop (k + 1)) <;> simp
  omega
theorem TxtAt.none {l acc : List UInt8} {k : Nat} (h : TxtAt l acc k) (hk : l.length ≤ k) : txtR (l.drop 1) = none := by
  unfold TxtAt at h
  rw [h, List.drop_eq_nil_of_le hk]
  rfl
end Go.Proofs.YtcmbdghbicjljaaGreatDoor
namespace Go.Proofs.YtcmbdghbicjljaaGreatDoor
open Go.RowKit
def Gives (w : World) (l : List UInt8) (e : Ending) (w' : World) : Prop := (match cutP 0 l with
  | .error q => e = .returned (.tuple #[.slice none 0 0, .int .i64 q, .int .i64 60])
  | .ok ts => ∃ A c, e = .returned (.tuple #[.slice A ts.length c, .int .i64 0, .int .i64 0]) ∧ ts.length ≤ c ∧ TAt w' w'.heap.size A ts) ∧ Below w.heap.size w w'
theorem Gives.good {w w' : World} {l : List UInt8} {ts : List T} {v : Value} {e : Ending} (h : cutP 0 l = .ok ts) (he : e = .returned (.tuple #[v, .int .i64 0, .int .i64 0])) (ho : OwnT w' w.heap.size v ts) (hb : Below w.heap.size w w') : Gives w l e w' := by
  unfold Gives
  rw [h]
  obtain ⟨A, c, rfl, hc, -, ht⟩ := ho.row
  exact ⟨⟨A, c, he, hc, ht⟩, hb⟩
end Go.Proofs.YtcmbdghbicjljaaGreatDoor
namespace Go.Proofs.YtcmbdghbicjljaaGreatDoor
open Go.RowKit
end Go.Proofs.YtcmbdghbicjljaaGreatDoor
namespace Go.Proofs.YtcmbdghbicjljaaGreatDoor
open Go.RowKit
theorem Gives.ok {w w' : World} {l : List UInt8} {ts : List T} {e : Ending} (h : Gives w l e w') (hc : cutP 0 l = .ok ts) : (∃ A c, e = .returned (.tuple #[.slice A ts.length c, .int .i64 0, .int .i64 0]) ∧ ts.length ≤ c ∧ TAt w' w'.heap.size A ts) ∧ Below w.heap.size w w' := by
  unfold Gives at h
  rw [hc] at h
  exact h
end Go.Proofs.YtcmbdghbicjljaaGreatDoor
namespace Go.Proofs.YtcmbdghbicjljaaGreatDoor
open Go.RowKit
theorem places {l : List UInt8} {ts : List T} (h : cutP 0 l = .ok ts) : ∀ j (hj : j < ts.length), ts[j].p ≤ l.length := fun j hj => by
  have := (cut_parts l 0 ts h).2.1 ts[j] (List.getElem_mem hj)
  omega
theorem kept4 {w : World} {b : Nat} {u : T} (h : TBox w b u) (t : T) : ((((w.setCell ⟨b, 0, none⟩ (.int .i64 t.k)).setCell ⟨b, 1, none⟩ (.string (str t.s))).setCell ⟨b, 2, none⟩ (.int .i64 t.i)).setCell ⟨b, 3, none⟩ (.int .i64 t.p)).cell? ⟨b, 0, none⟩ = some (.int .i64 t.k) ∧
    ((((w.setCell ⟨b, 0, none⟩ (.int .i64 t.k)).setCell ⟨b, 1, none⟩ (.string (str t.s))).setCell ⟨b, 2, none⟩ (.int .i64 t.i)).setCell ⟨b, 3, none⟩ (.int .i64 t.p)).cell? ⟨b, 1, none⟩ = some (.string (str t.s)) ∧
    ((((w.setCell ⟨b, 0, none⟩ (.int .i64 t.k)).setCell ⟨b, 1, none⟩ (.string (str t.s))).setCell ⟨b, 2, none⟩ (.int .i64 t.i)).setCell ⟨b, 3, none⟩ (.int .i64 t.p)).cell? ⟨b, 2, none⟩ = some (.int .i64 t.i) ∧
    ((((w.setCell ⟨b, 0, none⟩ (.int .i64 t.k)).setCell ⟨b, 1, none⟩ (.string (str t.s))).setCell ⟨b, 2, none⟩ (.int .i64 t.i)).setCell ⟨b, 3, none⟩ (.int .i64 t.p)).cell? ⟨b, 3, none⟩ = some (.int .i64 t.p) ∧
    ∀ j, j < 4 → ((((w.setCell ⟨b, 0, none⟩ (.int .i64 t.k)).setCell ⟨b, 1, none⟩ (.string (str t.s))).setCell ⟨b, 2, none⟩ (.int .i64 t.i)).setCell ⟨b, 3, none⟩ (.int .i64 t.p)).frozen? ⟨b, j, none⟩ = false := by
  have o := fun (W : World) (i j : Nat) (h : i ≠ j) (y : Value) => World.cell?_setCell_other W ⟨b, j, none⟩ ⟨b, i, none⟩ y (by simp <;> omega)
  obtain ⟨c0, c1, c2, c3⟩ := h.cells
  refine ⟨?_, ?_, ?_, ?_, fun j _ => ?_⟩
  · rw [o _ 0 3 (by omega), o _ 0 2 (by omega), o _ 0 1 (by omega)]
    exact World.cell?_setCell_same _ _ _ c0
  · rw [o _ 1 3 (by omega), o _ 1 2 (by omega)]
    exact World.cell?_setCell_same _ _ _ (by rw [o _ 1 0 (by omega)]; exact c1)
  · rw [o _ 2 3 (by omega)]
    exact World.cell?_setCell_same _ _ _ (by rw [o _ 2 1 (by omega), o _ 2 0 (by omega)]; exact c2)
  · exact World.cell?_setCell_same _ _ _ (by rw [o _ 3 2 (by omega), o _ 3 1 (by omega), o _ 3 0 (by omega)]; exact c3)
  · rw [World.frozen?_setCell, World.frozen?_setCell, World.frozen?_setCell, World.frozen?_setCell]
    exact Lib.frozen_of_heap h j
end Go.Proofs.YtcmbdghbicjljaaGreatDoor
namespace Go.Proofs.YtcmbdghbicjljaaGreatDoor
open Go.RowKit
theorem moved (wr : World) (u : T) (x : Int) : ∃ W2 W3 W4 : World, W2 = wr.alloc (.cells #[.int .i64 0, .string ⟨#[]⟩, .int .i64 0, .int .i64 0] 128) ∧
    W3 = ((((W2.setCell ⟨wr.heap.size, 0, none⟩ (.int .i64 u.k)).setCell ⟨wr.heap.size, 1, none⟩ (.string (str u.s))).setCell ⟨wr.heap.size, 2, none⟩ (.int .i64 u.i)).setCell ⟨wr.heap.size, 3, none⟩ (.int .i64 u.p)) ∧
    W4 = W3.setCell ⟨wr.heap.size, 3, none⟩ (.int .i64 x) ∧
    (W2.cell? ⟨wr.heap.size, 0, none⟩ = some (.int .i64 0) ∧ W2.cell? ⟨wr.heap.size, 1, none⟩ = some (.string ⟨#[]⟩) ∧ W2.cell? ⟨wr.heap.size, 2, none⟩ = some (.int .i64 0) ∧ W2.cell? ⟨wr.heap.size, 3, none⟩ = some (.int .i64 0)) ∧
    (W2.frozen? ⟨wr.heap.size, 0, none⟩ = false ∧ W2.frozen? ⟨wr.heap.size, 1, none⟩ = false ∧ W2.frozen? ⟨wr.heap.size, 2, none⟩ = false ∧ W2.frozen? ⟨wr.heap.size, 3, none⟩ = false) ∧
    (W3.cell? ⟨wr.heap.size, 0, none⟩ = some (.int .i64 u.k) ∧ W3.cell? ⟨wr.heap.size, 1, none⟩ = some (.string (str u.s)) ∧ W3.cell? ⟨wr.heap.size, 2, none⟩ = some (.int .i64 u.i) ∧ W3.cell? ⟨wr.heap.size, 3, none⟩ = some (.int .i64 u.p)) ∧
    W3.frozen? ⟨wr.heap.size, 3, none⟩ = false ∧
    (W4.cell? ⟨wr.heap.size, 0, none⟩ = some (.int .i64 u.k) ∧ W4.cell? ⟨wr.heap.size, 1, none⟩ = some (.string (str u.s)) ∧ W4.cell? ⟨wr.heap.size, 2, none⟩ = some (.int .i64 u.i) ∧ W4.cell? ⟨wr.heap.size, 3, none⟩ = some (.int .i64 x)) ∧
    Below wr.heap.size wr W4 ∧ W2.heap.size = wr.heap.size + 1 := by
  have bz := zbox wr
  have hb0 := (Below.refl wr.heap.size wr).alloc (Nat.le_refl _) (.cells #[.int .i64 0, .string ⟨#[]⟩, .int .i64 0, .int .i64 0] 128)
  refine ⟨_, _, _, rfl, rfl, rfl, bz.zcells, bz.free, ?_⟩
  obtain ⟨y0, y1, y2, y3, yf⟩ := kept4 bz u
  refine ⟨⟨y0, y1, y2, y3⟩, yf 3 (by omega), ?_, (Below.set4 hb0 (Nat.le_refl _) _ _ _ _).setCell (Nat.le_refl _) _, by simp⟩
  have o4 := fun (W : World) (j : Nat) (h : j ≠ 3) => World.cell?_setCell_other W ⟨wr.heap.size, 3, none⟩ ⟨wr.heap.size, j, none⟩ (.int .i64 x) (by simp <;> omega)
  exact ⟨(o4 _ 0 (by omega)).trans y0, (o4 _ 1 (by omega)).trans y1, (o4 _ 2 (by omega)).trans y2, World.cell?_setCell_same _ _ _ y3⟩
theorem TAt.drop {w : World} {B b off : Nat} {ts : List T} (h : TAt w B (some ⟨b, off, none⟩) ts) (k : Nat) : TAt w B (some ⟨b, off + k * 4, none⟩) (ts.drop k) := fun h0 => by
  obtain ⟨b', off', hA, hlt, hc⟩ := h (by rw [List.length_drop] at h0; omega)
  simp at hA
  obtain ⟨rfl, rfl⟩ := hA
  refine ⟨b, off + k * 4, rfl, hlt, fun j hj => ?_⟩
  have := hc (k + j) (by rw [List.length_drop] at hj; omega)
  rw [List.getElem_drop, show off + k * 4 + j * 4 = off + (k + j) * 4 by omega]
  exact this
theorem TAt.take {w : World} {B : Nat} {A : Option Addr} {ts : List T} (h : TAt w B A ts) (k : Nat) : TAt w B A (ts.take k) := fun h0 => by
  obtain ⟨b, off, hA, hlt, hc⟩ := h (by rw [List.length_take] at h0; omega)
  refine ⟨b, off, hA, hlt, fun j hj => ?_⟩
  rw [List.getElem_take]
  exact hc j (by rw [List.length_take] at hj; omega)
end Go.Proofs.YtcmbdghbicjljaaGreatDoor
