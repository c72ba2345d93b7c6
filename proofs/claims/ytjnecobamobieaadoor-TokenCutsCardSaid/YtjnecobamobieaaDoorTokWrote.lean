/- What a piece of writing leaves: the bytes that the call owns, with more behind them, and nothing else changed. No condition. -/
import Derived.Test.YtjnecobamobieaaDoorTokBytes
import Derived.StillTailTactics
namespace Go.Proofs.YtjnecobamobieaaDoor
open Go.RowKit
structure Wrote (w : World) (B : Nat) (v v' : Value) (l' : List UInt8) (w' : World) : Prop where
  own : Own w' B v' l'
  grown : w.grownBy w' v.ownBlock
  far : v'.ownBlock = v.ownBlock ∨ ∃ g, v'.ownBlock = some g ∧ w.heap.size ≤ g
theorem Wrote.refl {w : World} {B : Nat} {v : Value} {l : List UInt8} (h : Own w B v l) : Wrote w B v v l w := ⟨h, ⟨rfl, rfl, rfl, Nat.le_refl _, fun _ _ _ => rfl⟩, Or.inl rfl⟩
theorem Wrote.size {w w' : World} {B : Nat} {v v' : Value} {l' : List UInt8} (h : Wrote w B v v' l' w') : w.heap.size ≤ w'.heap.size := h.grown.size
theorem Wrote.trans {w w1 w2 : World} {B : Nat} {v v1 v2 : Value} {l1 l2 : List UInt8} (h : Wrote w B v v1 l1 w1) (k : Wrote w1 B v1 v2 l2 w2) : Wrote w B v v2 l2 w2 := by
  refine ⟨k.own, ⟨k.grown.os.trans h.grown.os, k.grown.tape.trans h.grown.tape, k.grown.output.trans h.grown.output, Nat.le_trans h.size k.size, fun j hj hne => ?_⟩, ?_⟩
  · refine (k.grown.block j (Nat.lt_of_lt_of_le hj h.size) ?_).trans (h.grown.block j hj hne)
    rcases h.far with e | ⟨g, e, hg⟩
    · rwa [e]
    · rw [e]
      intro e2
      have := Option.some.inj e2
      omega
  · rcases k.far with e | ⟨g, e, hg⟩
    · rw [e]
      exact h.far
    · exact Or.inr ⟨g, e, Nat.le_trans h.size hg⟩
theorem Wrote.call {w w1 w2 : World} {B : Nat} {v v1 : Value} {l1 : List UInt8} (h : Wrote w B v v1 l1 w1) (hb : Below w1.heap.size w1 w2) : Wrote w B v v1 l1 w2 :=
  h.trans ⟨own_below h.own hb, ⟨hb.os, hb.tape, hb.output, hb.size, fun k hk _ => hb.block k hk⟩, Or.inl rfl⟩
theorem Wrote.alloc {w w1 : World} {B : Nat} {v v1 : Value} {l1 : List UInt8} (h : Wrote w B v v1 l1 w1) (o : Obj) : Wrote w B v v1 l1 (w1.alloc o) := h.call ((Below.refl _ _).alloc (Nat.le_refl _) o)
theorem Wrote.drew {w w1 : World} {B : Nat} {v v1 : Value} {l1 : List UInt8} (h : Wrote w B v v1 l1 w1) : Wrote w B v v1 l1 w1.drew := h.call ((Below.refl _ _).drew)
theorem Wrote.below {w w' : World} {B : Nat} {v v' : Value} {l l' : List UInt8} (h : Wrote w B v v' l' w') (h0 : Own w B v l) (hB : B ≤ w.heap.size) : Below B w w' :=
  (Below.refl B w).grown h.grown hB (fun k hk => (h0.lt k hk).1)
/-- From a first row on: nothing that was there before is changed. -/
theorem Wrote.belowNil {w w' : World} {B : Nat} {v' : Value} {l' : List UInt8} (h : Wrote w B (.slice none 0 0) v' l' w') : Below w.heap.size w w' :=
  (Below.refl _ w).grown h.grown (Nat.le_refl _) (fun k hk => by simp [Value.ownBlock] at hk)
/-- A block that is none of the bytes' own is as it was. -/
theorem Wrote.block {w w' : World} {B b : Nat} {v v' : Value} {l' : List UInt8} (h : Wrote w B v v' l' w') (hb : b < w.heap.size) (hne : v.ownBlock ≠ some b) : w'.heap[b]? = w.heap[b]? :=
  h.grown.block b hb (fun e => hne e.symm)
/-- Bytes are appended. -/
theorem Wrote.app {w w1 : World} {B : Nat} {v v1 : Value} {l1 : List UInt8} (h : Wrote w B v v1 l1 w1) (m : List UInt8) (A : Option Addr) (c : Nat) (hr : BytesAt w1 w1.heap.size A m) (hm : l1.length + m.length ≤ 100000000) (hB : B ≤ w.heap.size) :
    ∃ v' w', (Builtin.append_ #[34, 34] 34 #[v1, .slice A m.length c]).run Tryd.prog w1 = .ok v' w' ∧ Wrote w B v v' (l1 ++ m) w' := by
  obtain ⟨v', w', h1, h2, h3, h4⟩ := own_app h.own m A c hr hm (Nat.le_trans hB h.size)
  refine ⟨v', w', h1, h.trans ⟨h2, h3, ?_⟩⟩
  rcases h4 with e | e
  · exact Or.inl e
  · exact Or.inr ⟨_, e, Nat.le_refl _⟩
theorem Wrote.str {w w1 : World} {B : Nat} {v v1 : Value} {l1 : List UInt8} (h : Wrote w B v v1 l1 w1) (s : ByteArray) (hm : l1.length + s.size ≤ 100000000) (hB : B ≤ w.heap.size) :
    ∃ v' w', (Builtin.append_ #[34, 9] 34 #[v1, .string s]).run Tryd.prog w1 = .ok v' w' ∧ Wrote w B v v' (l1 ++ s.data.toList) w' := by
  obtain ⟨v', w', h1, h2, h3, h4⟩ := own_str h.own s hm (Nat.le_trans hB h.size)
  refine ⟨v', w', h1, h.trans ⟨h2, h3, ?_⟩⟩
  rcases h4 with e | e
  · exact Or.inl e
  · exact Or.inr ⟨_, e, Nat.le_refl _⟩
/-- A block of bytes that is laid now. -/
theorem laid_at (w : World) (l : List UInt8) (cs : Array Value) (T : TypeId) (hcs : cs = (u8s l).toArray) : BytesAt (w.alloc (.cells cs T)) (w.alloc (.cells cs T)).heap.size (some ⟨w.heap.size, 0, none⟩) l := fun _ => by
  refine ⟨w.heap.size, 0, rfl, by simp, fun j hj => ?_⟩
  have hn : (w.alloc (.cells cs T)).heap[w.heap.size]? = some (.cells cs T (0, 0)) := heap_alloc_new w _
  rw [Lib.cell_of_heap hn, hcs]
  simp [u8s, hj]
theorem Wrote.one {w w1 : World} {B : Nat} {v v1 : Value} {l1 : List UInt8} (h : Wrote w B v v1 l1 w1) (x : UInt8) (hm : l1.length ≤ 50000000) (hB : B ≤ w.heap.size) :
    ∃ v' w', (Builtin.append_ #[34, 34] 34 #[v1, .slice (some ⟨w1.heap.size, 0, none⟩) 1 1]).run Tryd.prog (w1.alloc (.cells #[.int .u8 x.toNat] 5)) = .ok v' w' ∧ Wrote w B v v' (l1 ++ [x]) w' :=
  (h.alloc (.cells #[.int .u8 x.toNat] 5)).app [x] _ 1 (laid_at w1 [x] _ 5 rfl) (by simp; omega) hB
theorem Wrote.two {w w1 : World} {B : Nat} {v v1 : Value} {l1 : List UInt8} (h : Wrote w B v v1 l1 w1) (x y : UInt8) (hm : l1.length ≤ 50000000) (hB : B ≤ w.heap.size) :
    ∃ v' w', (Builtin.append_ #[34, 34] 34 #[v1, .slice (some ⟨w1.heap.size, 0, none⟩) 2 2]).run Tryd.prog (w1.alloc (.cells #[.int .u8 x.toNat, .int .u8 y.toNat] 5)) = .ok v' w' ∧ Wrote w B v v' (l1 ++ [x, y]) w' :=
  (h.alloc (.cells #[.int .u8 x.toNat, .int .u8 y.toNat] 5)).app [x, y] _ 2 (laid_at w1 [x, y] _ 5 rfl) (by simp; omega) hB
end Go.Proofs.YtjnecobamobieaaDoor
