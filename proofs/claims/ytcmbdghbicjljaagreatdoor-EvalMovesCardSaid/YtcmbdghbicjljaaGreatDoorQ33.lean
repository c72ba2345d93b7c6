/- Contract of the reader's list, where its lines are read as the grammar says. No condition. -/
import Derived.Test.YtcmbdghbicjljaaGreatDoorQ24
import Derived.Test.YtcmbdghbicjljaaGreatDoorQ25
import Derived.BigRegion
import Derived.Deep.DeepCutAuto
import Derived.Shelf.Spec.SlicesInsert
import Derived.Lib.AppendZerosOnto
import Derived.Defers
import Derived.Recover
import Derived.Test.YtcmbdghbicjljaaGreatDoorQ07
import Derived.Test.YtcmbdghbicjljaaGreatDoorQ34
import Derived.Test.YtcmbdghbicjljaaGreatDoorQ08
import Derived.Deep.Quiet
namespace Go.Proofs.YtcmbdghbicjljaaGreatDoor
open Go.RowKit
end Go.Proofs.YtcmbdghbicjljaaGreatDoor
namespace Go.Proofs.YtcmbdghbicjljaaGreatDoor
open Go.RowKit
end Go.Proofs.YtcmbdghbicjljaaGreatDoor
namespace Go.Proofs.YtcmbdghbicjljaaGreatDoor
open Go.RowKit
end Go.Proofs.YtcmbdghbicjljaaGreatDoor
namespace Go.Proofs.YtcmbdghbicjljaaGreatDoor
open Go.RowKit
end Go.Proofs.YtcmbdghbicjljaaGreatDoor
namespace Go.Proofs.YtcmbdghbicjljaaGreatDoor
open Go.RowKit
def B3 (w : World) (b : Nat) (c0 c1 c2 : Value) : Prop := w.heap[b]? = some (.cells #[c0, c1, c2] 23 (0, 0))
theorem B3.cells {w : World} {b : Nat} {c0 c1 c2 : Value} (h : B3 w b c0 c1 c2) : w.cell? ⟨b, 0, none⟩ = some c0 ∧ w.cell? ⟨b, 1, none⟩ = some c1 ∧ w.cell? ⟨b, 2, none⟩ = some c2 :=
  ⟨by rw [Lib.cell_of_heap h]; rfl, by rw [Lib.cell_of_heap h]; rfl, by rw [Lib.cell_of_heap h]; rfl⟩
theorem B3.free {w : World} {b : Nat} {c0 c1 c2 : Value} (h : B3 w b c0 c1 c2) : w.frozen? ⟨b, 0, none⟩ = false ∧ w.frozen? ⟨b, 1, none⟩ = false ∧ w.frozen? ⟨b, 2, none⟩ = false :=
  ⟨Lib.frozen_of_heap h 0, Lib.frozen_of_heap h 1, Lib.frozen_of_heap h 2⟩
theorem B3.lt {w : World} {b : Nat} {c0 c1 c2 : Value} (h : B3 w b c0 c1 c2) : b < w.heap.size := (Array.getElem?_eq_some_iff.1 h).1
theorem B3.later {w w' : World} {b : Nat} {c0 c1 c2 : Value} (h : B3 w b c0 c1 c2) (hb : Below w.heap.size w w') : B3 w' b c0 c1 c2 := (hb.block b h.lt).trans h
end Go.Proofs.YtcmbdghbicjljaaGreatDoor
namespace Go.Proofs.YtcmbdghbicjljaaGreatDoor
open Go.RowKit
end Go.Proofs.YtcmbdghbicjljaaGreatDoor
namespace Go.Proofs.YtcmbdghbicjljaaGreatDoor
open Go.RowKit
end Go.Proofs.YtcmbdghbicjljaaGreatDoor
namespace Go.Proofs.YtcmbdghbicjljaaGreatDoor
open Go.RowKit
theorem B3.zero (w : World) : B3 (w.alloc (.cells #[.int .i64 0, .int .i64 0, .string ⟨#[]⟩] 23)) w.heap.size (.int .i64 0) (.int .i64 0) (.string ⟨#[]⟩) := heap_alloc_new w _
theorem B7.off {w : World} {k b : Nat} {c0 c1 c2 c3 c4 c5 c6 : Value} (h : B7 w k c0 c1 c2 c3 c4 c5 c6) (hk : k ≠ b) (o : Nat) (u : Value) : B7 (w.setCell ⟨b, o, none⟩ u) k c0 c1 c2 c3 c4 c5 c6 := h.same (Below.heap_setCell _ _ _ _ hk)
theorem B3.off {w : World} {k b : Nat} {c0 c1 c2 : Value} (h : B3 w k c0 c1 c2) (hk : k ≠ b) (o : Nat) (u : Value) : B3 (w.setCell ⟨b, o, none⟩ u) k c0 c1 c2 := (Below.heap_setCell _ _ _ _ hk).trans h
end Go.Proofs.YtcmbdghbicjljaaGreatDoor
namespace Go.Proofs.YtcmbdghbicjljaaGreatDoor
open Go.RowKit
end Go.Proofs.YtcmbdghbicjljaaGreatDoor
namespace Go.Proofs.YtcmbdghbicjljaaGreatDoor
open Go.RowKit
end Go.Proofs.YtcmbdghbicjljaaGreatDoor
namespace Go.Proofs.YtcmbdghbicjljaaGreatDoor
open Go.RowKit
end Go.Proofs.YtcmbdghbicjljaaGreatDoor
namespace Go.Proofs.YtcmbdghbicjljaaGreatDoor
open Go.RowKit
end Go.Proofs.YtcmbdghbicjljaaGreatDoor
namespace Go.Proofs.YtcmbdghbicjljaaGreatDoor
open Go.RowKit
theorem Got.keep {w w' : World} {S S' : Nat → Prop} {e : E} {d : Bool} {x : Value} (h : Got w S e d x) (hS : ∀ k, S k → k < w.heap.size → S' k ∧ w'.heap[k]? = w.heap[k]?) (hz : w.heap.size ≤ w'.heap.size) : Got w' S' e d x := by
  obtain ⟨e', h1, h2⟩ := h
  exact ⟨e', h1.keep hS hz, h2⟩
theorem Sub.later {S : Nat → Prop} {w w' : World} {e : E} {A : Option Addr} {c : Nat} (h : Sub S w e A c) (hb : Below w.heap.size w w') : Sub S w' e A c := h.keep (fun k hk hlt => ⟨hk, hb.block k hlt⟩) hb.size
theorem Sub.lim {S : Nat → Prop} {w : World} {e : E} {A : Option Addr} {c : Nat} (h : Sub S w e A c) : Sub (fun k => S k ∧ k < w.heap.size) w e A c := h.keep (fun _ hk hlt => ⟨⟨hk, hlt⟩, rfl⟩) (Nat.le_refl _)
end Go.Proofs.YtcmbdghbicjljaaGreatDoor
namespace Go.Proofs.YtcmbdghbicjljaaGreatDoor
open Go.RowKit
end Go.Proofs.YtcmbdghbicjljaaGreatDoor
namespace Go.Proofs.YtcmbdghbicjljaaGreatDoor
open Go.RowKit
end Go.Proofs.YtcmbdghbicjljaaGreatDoor
namespace Go.Proofs.YtcmbdghbicjljaaGreatDoor
open Go.RowKit
structure Pre (ts : List T) (b : Nat) (A : Option Addr) (c p : Nat) (d : Bool) (w V : World) (S : Nat → Prop) (r : Rw) : Prop where
  rs : RS V b ts A c p d
  sub : Sub (fun k => S k ∧ k < w.heap.size) V r.1 r.2.1 r.2.2
  box : B7 V (w.heap.size + 1) (.string ⟨#[]⟩) (.int .i64 0) (.int .i64 0) (.string ⟨#[]⟩) (.string ⟨#[]⟩) (.string ⟨#[]⟩) (.slice none 0 0)
  fr : Fr b w.heap.size w V
  size : w.heap.size + 2 ≤ V.heap.size
  hb : b < w.heap.size
theorem Pre.later {ts : List T} {b : Nat} {A : Option Addr} {c p : Nat} {d : Bool} {w V V' : World} {S : Nat → Prop} {r : Rw} (h : Pre ts b A c p d w V S r) (hb : Below V.heap.size V V') : Pre ts b A c p d w V' S r :=
  ⟨h.rs.later hb, h.sub.later hb, h.box.later hb, h.fr.below hb (by have := h.size; omega), Nat.le_trans h.size hb.size, h.hb⟩
theorem Pre.drew {ts : List T} {b : Nat} {A : Option Addr} {c p : Nat} {d : Bool} {w V : World} {S : Nat → Prop} {r : Rw} (h : Pre ts b A c p d w V S r) : Pre ts b A c p d w V.drew S r := h.later (Below.refl V.heap.size V).drew
theorem Pre.alloc {ts : List T} {b : Nat} {A : Option Addr} {c p : Nat} {d : Bool} {w V : World} {S : Nat → Prop} {r : Rw} (h : Pre ts b A c p d w V S r) (o : Obj) : Pre ts b A c p d w (V.alloc o) S r := h.later ((Below.refl V.heap.size V).alloc (Nat.le_refl _) o)
end Go.Proofs.YtcmbdghbicjljaaGreatDoor
namespace Go.Proofs.YtcmbdghbicjljaaGreatDoor
open Go.RowKit
structure Pre2 (ts : List T) (b : Nat) (A : Option Addr) (c p : Nat) (d : Bool) (w V : World) (S : Nat → Prop) (r r2 : Rw) (G : Nat) : Prop where
  pre : Pre ts b A c p d w V S r
  box1 : B7 V w.heap.size (.string (str r.1.op)) (.int .i64 r.1.v.k) (.int .i64 r.1.v.i) (.string (str r.1.v.s)) (.string (str r.1.tb)) (.string (str r.1.nm)) (.slice r.2.1 r.1.l.length r.2.2)
  box2 : B7 V G (.string (str r2.1.op)) (.int .i64 r2.1.v.k) (.int .i64 r2.1.v.i) (.string (str r2.1.v.s)) (.string (str r2.1.tb)) (.string (str r2.1.nm)) (.slice r2.2.1 r2.1.l.length r2.2.2)
  hG : w.heap.size + 2 ≤ G
  sub2 : Sub (fun k => w.heap.size + 2 ≤ k ∧ k < V.heap.size) V r2.1 r2.2.1 r2.2.2
theorem Pre2.later {ts : List T} {b : Nat} {A : Option Addr} {c p : Nat} {d : Bool} {w V V' : World} {S : Nat → Prop} {r r2 : Rw} {G : Nat} (h : Pre2 ts b A c p d w V S r r2 G) (hb : Below V.heap.size V V') : Pre2 ts b A c p d w V' S r r2 G :=
  ⟨h.pre.later hb, h.box1.later hb, h.box2.later hb, h.hG, (h.sub2.later hb).keep (fun k hk _ => ⟨⟨hk.1, by have := hb.size; omega⟩, rfl⟩) (Nat.le_refl _)⟩
end Go.Proofs.YtcmbdghbicjljaaGreatDoor
namespace Go.Proofs.YtcmbdghbicjljaaGreatDoor
open Go.RowKit
theorem row_got {w : World} {S : Nat → Prop} {r : Rw} {a : E} {d : Bool} (hs : Sub S w r.1 r.2.1 r.2.2) (hr : d = false → r.1 = a) : Got w S a d (.agg (rowCells r).toArray) := ⟨r.1, ⟨r.2.1, r.2.2, rfl, hs⟩, hr⟩
end Go.Proofs.YtcmbdghbicjljaaGreatDoor
namespace Go.Proofs.YtcmbdghbicjljaaGreatDoor
open Go.RowKit
end Go.Proofs.YtcmbdghbicjljaaGreatDoor
namespace Go.Proofs.YtcmbdghbicjljaaGreatDoor
open Go.RowKit
def sh {α : Type} (m : Nat) : X α → X α
  | .error q => .error (m + q)
  | .ok (a, q) => .ok (a, m + q)
structure LS (ts : List T) (b : Nat) (A : Option Addr) (c p n : Nat) (d : Bool) (w wr : World) (xt : X E) (k q : Nat) (e : E) (r : Rw) (G : Nat) : Prop where
  rs : RS wr b ts A c q (tooDp d e)
  box : B7 wr G (.string (str r.1.op)) (.int .i64 r.1.v.k) (.int .i64 r.1.v.i) (.string (str r.1.v.s)) (.string (str r.1.tb)) (.string (str r.1.nm)) (.slice r.2.1 r.1.l.length r.2.2)
  sub : Sub (fun j => w.heap.size + 1 ≤ j ∧ j ≠ G) wr r.1 r.2.1 r.2.2
  hr : tooDp d e = false → r.1 = e
  zero : B7 wr w.heap.size (.string ⟨#[]⟩) (.int .i64 0) (.int .i64 0) (.string ⟨#[]⟩) (.string ⟨#[]⟩) (.string ⟨#[]⟩) (.slice none 0 0)
  fr : Fr b w.heap.size w wr
  hG : w.heap.size + 1 ≤ G
  hq : p ≤ q
  hk : k ≤ 7
  hb : b < w.heap.size
  xt : xt = sh (q - p) (ct resB n k e (ts.drop q))
theorem LS.later {ts : List T} {b : Nat} {A : Option Addr} {c p n : Nat} {d : Bool} {w wr w' : World} {xt : X E} {k q : Nat} {e : E} {r : Rw} {G : Nat} (h : LS ts b A c p n d w wr xt k q e r G) (hb : Below wr.heap.size wr w') : LS ts b A c p n d w w' xt k q e r G :=
  ⟨h.rs.later hb, h.box.later hb, h.sub.later hb, h.hr, h.zero.later hb, h.fr.below hb (by have := h.zero.lt; omega), h.hG, h.hq, h.hk, h.hb, h.xt⟩
theorem LS.got {ts : List T} {b : Nat} {A : Option Addr} {c p n : Nat} {d : Bool} {w wr : World} {xt : X E} {k q : Nat} {e : E} {r : Rw} {G : Nat} (h : LS ts b A c p n d w wr xt k q e r G) : Got wr (fun j => w.heap.size + 1 ≤ j ∧ j ≠ G) e (tooDp d e) (.agg (rowCells r).toArray) := row_got h.sub h.hr
end Go.Proofs.YtcmbdghbicjljaaGreatDoor
namespace Go.Proofs.YtcmbdghbicjljaaGreatDoor
open Go.RowKit
def B1 (w : World) (b : Nat) (t : TypeId) (v : Value) : Prop := w.heap[b]? = some (.cells #[v] t (0, 0))
theorem B1.cell {w : World} {b : Nat} {t : TypeId} {v : Value} (h : B1 w b t v) : w.cell? ⟨b, 0, none⟩ = some v := by rw [Lib.cell_of_heap h]; rfl
theorem B1.free {w : World} {b : Nat} {t : TypeId} {v : Value} (h : B1 w b t v) : w.frozen? ⟨b, 0, none⟩ = false := Lib.frozen_of_heap h 0
theorem B1.lt {w : World} {b : Nat} {t : TypeId} {v : Value} (h : B1 w b t v) : b < w.heap.size := (Array.getElem?_eq_some_iff.1 h).1
theorem B1.same {w w' : World} {b : Nat} {t : TypeId} {v : Value} (h : B1 w b t v) (hb : w'.heap[b]? = w.heap[b]?) : B1 w' b t v := hb.trans h
theorem B1.set {w : World} {b : Nat} {t : TypeId} {v : Value} (h : B1 w b t v) (u : Value) : B1 (w.setCell ⟨b, 0, none⟩ u) b t u := by
  have := heap_set_same u (o := 0) h
  unfold B1
  simpa only [List.setIfInBounds_toArray, List.set_cons_zero] using this
end Go.Proofs.YtcmbdghbicjljaaGreatDoor
namespace Go.Proofs.YtcmbdghbicjljaaGreatDoor
open Go.RowKit
end Go.Proofs.YtcmbdghbicjljaaGreatDoor
namespace Go.Proofs.YtcmbdghbicjljaaGreatDoor
end Go.Proofs.YtcmbdghbicjljaaGreatDoor
namespace Go.Proofs.YtcmbdghbicjljaaGreatDoor
open Go.RowKit
end Go.Proofs.YtcmbdghbicjljaaGreatDoor
namespace Go.Proofs.YtcmbdghbicjljaaGreatDoor
open Go.RowKit
def LTx (w : World) : Type := { W : World // Below w.heap.size w W }
theorem wp_region_classx {P : Program} {id : Nat} {Q : Exit → Act → World → Prop} {a : Act} {w : World} {l : List Oper} (C : World → Prop) (hm : P.follows .mixedOrders = true) (hB : Region.lexB .any l.toArray = true) (hC : C w.drew) (h : wpQuiet P l.toArray C (fun a' => ∀ w', C w' → Q .normal a' w') l a) : (Code.region id l.toArray true).wp P Q a w :=
  wp_region_quiet (C := C) hm hB hC (by simpa using h)
end Go.Proofs.YtcmbdghbicjljaaGreatDoor
