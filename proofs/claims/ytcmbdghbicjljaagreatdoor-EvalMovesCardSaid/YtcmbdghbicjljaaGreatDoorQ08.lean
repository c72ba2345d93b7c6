/- Expressions in memory: a value, its boxes, lists of these. No condition. -/
import Derived.Test.YtcmbdghbicjljaaGreatDoorQ05
import Derived.Test.YtcmbdghbicjljaaGreatDoorQ07
import Derived.Test.YtcmbdghbicjljaaGreatDoorQ01
import Derived.Test.YtcmbdghbicjljaaGreatDoorQ25
namespace Go.Proofs.YtcmbdghbicjljaaGreatDoor
open Go.RowKit
def eVal (o : List UInt8) (v : Vl) (t n : List UInt8) (L : Value) : Value := .agg #[.string (str o), .int .i64 v.k, .int .i64 v.i, .string (str v.s), .string (str t), .string (str n), L]
def eCells (o : List UInt8) (v : Vl) (t n : List UInt8) (L : Value) : List Value := [.string (str o), .int .i64 v.k, .int .i64 v.i, .string (str v.s), .string (str t), .string (str n), L]
def Cells7 (w : World) (g o : Nat) (e : E) (A : Option Addr) (c : Nat) : Prop :=
  w.cell? ⟨g, o, none⟩ = some (.string (str e.op)) ∧ w.cell? ⟨g, o + 1, none⟩ = some (.int .i64 e.v.k) ∧ w.cell? ⟨g, o + 2, none⟩ = some (.int .i64 e.v.i) ∧ w.cell? ⟨g, o + 3, none⟩ = some (.string (str e.v.s)) ∧
  w.cell? ⟨g, o + 4, none⟩ = some (.string (str e.tb)) ∧ w.cell? ⟨g, o + 5, none⟩ = some (.string (str e.nm)) ∧ w.cell? ⟨g, o + 6, none⟩ = some (.slice A e.l.length c)
mutual
def Sub (S : Nat → Prop) (w : World) : E → Option Addr → Nat → Prop
  | .mk _ _ _ _ l, A, c => l.length ≤ c ∧ c ≤ maxLen ∧ (0 < l.length → ∃ g off, A = some ⟨g, off, none⟩ ∧ S g ∧ g < w.heap.size ∧ LCells S w l g off)
def LCells (S : Nat → Prop) (w : World) : List E → Nat → Nat → Prop
  | [], _, _ => True
  | e :: r, g, off => (∃ A c, Cells7 w g off e A c ∧ Sub S w e A c) ∧ LCells S w r g (off + 7)
end
theorem Sub.eq {S : Nat → Prop} {w : World} {e : E} {A : Option Addr} {c : Nat} : Sub S w e A c ↔ e.l.length ≤ c ∧ c ≤ maxLen ∧ (0 < e.l.length → ∃ g off, A = some ⟨g, off, none⟩ ∧ S g ∧ g < w.heap.size ∧ LCells S w e.l g off) := by
  cases e
  simp only [Sub, E.l]
theorem LCells.get {S : Nat → Prop} {w : World} {l : List E} {g off : Nat} (h : LCells S w l g off) (j : Nat) (hj : j < l.length) : ∃ A c, Cells7 w g (off + j * 7) l[j] A c ∧ Sub S w l[j] A c := by
  induction l generalizing off j with
  | nil => simp at hj
  | cons e r ih =>
    cases j with
    | zero => simpa using h.1
    | succ j =>
      have := ih h.2 j (by simpa using hj)
      rw [show off + (j + 1) * 7 = off + 7 + j * 7 by omega]
      simpa using this
theorem LCells.of {S : Nat → Prop} {w : World} {l : List E} {g off : Nat} (h : ∀ j (hj : j < l.length), ∃ A c, Cells7 w g (off + j * 7) l[j] A c ∧ Sub S w l[j] A c) : LCells S w l g off := by
  induction l generalizing off with
  | nil => trivial
  | cons e r ih =>
    refine ⟨by have h0 := h 0 (by simp); rw [Nat.zero_mul, Nat.add_zero] at h0; exact h0, ih fun j hj => ?_⟩
    have := h (j + 1) (by simpa using hj)
    rw [show off + (j + 1) * 7 = off + 7 + j * 7 by omega] at this
    exact this
theorem Cells7.same {w w' : World} {g o : Nat} {e : E} {A : Option Addr} {c : Nat} (h : Cells7 w g o e A c) (hb : w'.heap[g]? = w.heap[g]?) : Cells7 w' g o e A c := by
  have hc : ∀ o, w'.cell? ⟨g, o, none⟩ = w.cell? ⟨g, o, none⟩ := fun o => World.cell?_of_block (w := w) (a := ⟨g, o, none⟩) hb
  unfold Cells7 at *
  simp only [hc]
  exact h
theorem Sub.keep {S S' : Nat → Prop} {w w' : World} (hS : ∀ k, S k → k < w.heap.size → S' k ∧ w'.heap[k]? = w.heap[k]?) (hz : w.heap.size ≤ w'.heap.size) (e : E) : ∀ A c, Sub S w e A c → Sub S' w' e A c := by
  induction e using E.ind with
  | h o v t n l ih =>
    intro A c h
    refine ⟨h.1, h.2.1, fun h0 => ?_⟩
    obtain ⟨g, off, rfl, hg, hlt, hl⟩ := h.2.2 h0
    obtain ⟨h1, h2⟩ := hS g hg hlt
    refine ⟨g, off, rfl, h1, Nat.lt_of_lt_of_le hlt hz, LCells.of fun j hj => ?_⟩
    obtain ⟨A', c', h3, h4⟩ := hl.get j hj
    exact ⟨A', c', h3.same h2, ih _ (List.getElem_mem hj) _ _ h4⟩
def EAt (S : Nat → Prop) (w : World) (e : E) (x : Value) : Prop := ∃ A c, x = eVal e.op e.v e.tb e.nm (.slice A e.l.length c) ∧ Sub S w e A c
theorem EAt.keep {S S' : Nat → Prop} {w w' : World} {e : E} {x : Value} (h : EAt S w e x) (hS : ∀ k, S k → k < w.heap.size → S' k ∧ w'.heap[k]? = w.heap[k]?) (hz : w.heap.size ≤ w'.heap.size) : EAt S' w' e x := by
  obtain ⟨A, c, rfl, h⟩ := h
  exact ⟨A, c, rfl, h.keep hS hz⟩
theorem EAt.later {S : Nat → Prop} {w w' : World} {e : E} {x : Value} (h : EAt S w e x) (hb : Below w.heap.size w w') : EAt S w' e x := h.keep (fun k hk hlt => ⟨hk, hb.block k hlt⟩) hb.size
theorem EAt.lim {S : Nat → Prop} {w : World} {e : E} {x : Value} (h : EAt S w e x) : EAt (fun k => S k ∧ k < w.heap.size) w e x := h.keep (fun _ hk hlt => ⟨⟨hk, hlt⟩, rfl⟩) (Nat.le_refl _)
theorem EAt.wide {S S' : Nat → Prop} {w : World} {e : E} {x : Value} (h : EAt S w e x) (hS : ∀ k, S k → S' k) : EAt S' w e x := h.keep (fun k hk _ => ⟨hS k hk, rfl⟩) (Nat.le_refl _)
mutual
def E.deep : E → Nat
  | .mk _ _ _ _ l => E.deepL l + 1
def E.deepL : List E → Nat
  | [] => 0
  | e :: r => max e.deep (E.deepL r)
end
theorem deepL_append (l m : List E) : E.deepL (l ++ m) = max (E.deepL l) (E.deepL m) := by
  induction l with
  | nil => simp [E.deepL]
  | cons e r ih => simp only [List.cons_append, E.deepL, ih]; omega
theorem deepL_take (l : List E) (k : Nat) (hk : k < l.length) : E.deepL (l.take (k + 1)) = max (E.deepL (l.take k)) l[k].deep := by
  rw [List.take_succ_eq_append_getElem hk, deepL_append]
  simp [E.deepL]
theorem deepL_le (l : List E) (k : Nat) (hk : k < l.length) : l[k].deep ≤ E.deepL l := by
  induction l generalizing k with
  | nil => simp at hk
  | cons e r ih =>
    cases k with
    | zero => simp only [List.getElem_cons_zero, E.deepL]; omega
    | succ k =>
      have := ih k (by simpa using hk)
      simp only [List.getElem_cons_succ, E.deepL]; omega
end Go.Proofs.YtcmbdghbicjljaaGreatDoor
namespace Go.Proofs.YtcmbdghbicjljaaGreatDoor
open Go.RowKit
def B7 (w : World) (b : Nat) (c0 c1 c2 c3 c4 c5 c6 : Value) : Prop := w.heap[b]? = some (.cells #[c0, c1, c2, c3, c4, c5, c6] 26 (0, 0))
theorem B7.lt {w : World} {b : Nat} {c0 c1 c2 c3 c4 c5 c6 : Value} (h : B7 w b c0 c1 c2 c3 c4 c5 c6) : b < w.heap.size := (Array.getElem?_eq_some_iff.1 h).1
theorem B7.cells {w : World} {b : Nat} {c0 c1 c2 c3 c4 c5 c6 : Value} (h : B7 w b c0 c1 c2 c3 c4 c5 c6) : w.cell? ⟨b, 0, none⟩ = some c0 ∧ w.cell? ⟨b, 1, none⟩ = some c1 ∧ w.cell? ⟨b, 2, none⟩ = some c2 ∧ w.cell? ⟨b, 3, none⟩ = some c3 ∧ w.cell? ⟨b, 4, none⟩ = some c4 ∧ w.cell? ⟨b, 5, none⟩ = some c5 ∧ w.cell? ⟨b, 6, none⟩ = some c6 :=
  ⟨by rw [Lib.cell_of_heap h]; rfl, by rw [Lib.cell_of_heap h]; rfl, by rw [Lib.cell_of_heap h]; rfl, by rw [Lib.cell_of_heap h]; rfl, by rw [Lib.cell_of_heap h]; rfl, by rw [Lib.cell_of_heap h]; rfl, by rw [Lib.cell_of_heap h]; rfl⟩
theorem B7.free {w : World} {b : Nat} {c0 c1 c2 c3 c4 c5 c6 : Value} (h : B7 w b c0 c1 c2 c3 c4 c5 c6) : w.frozen? ⟨b, 0, none⟩ = false ∧ w.frozen? ⟨b, 1, none⟩ = false ∧ w.frozen? ⟨b, 2, none⟩ = false ∧ w.frozen? ⟨b, 3, none⟩ = false ∧ w.frozen? ⟨b, 4, none⟩ = false ∧ w.frozen? ⟨b, 5, none⟩ = false ∧ w.frozen? ⟨b, 6, none⟩ = false :=
  ⟨Lib.frozen_of_heap h 0, Lib.frozen_of_heap h 1, Lib.frozen_of_heap h 2, Lib.frozen_of_heap h 3, Lib.frozen_of_heap h 4, Lib.frozen_of_heap h 5, Lib.frozen_of_heap h 6⟩
theorem B7.same {w w' : World} {b : Nat} {c0 c1 c2 c3 c4 c5 c6 : Value} (h : B7 w b c0 c1 c2 c3 c4 c5 c6) (hb : w'.heap[b]? = w.heap[b]?) : B7 w' b c0 c1 c2 c3 c4 c5 c6 := hb.trans h
theorem B7.later {w w' : World} {b : Nat} {c0 c1 c2 c3 c4 c5 c6 : Value} (h : B7 w b c0 c1 c2 c3 c4 c5 c6) (hb : Below w.heap.size w w') : B7 w' b c0 c1 c2 c3 c4 c5 c6 := h.same (hb.block b h.lt)
theorem B7.made (w : World) (c0 c1 c2 c3 c4 c5 c6 : Value) : B7 (w.alloc (.cells #[c0, c1, c2, c3, c4, c5, c6] 26)) w.heap.size c0 c1 c2 c3 c4 c5 c6 := heap_alloc_new w _
theorem heap_set_same {w : World} {b o : Nat} {cs : Array Value} {t : TypeId} {f : Nat × Nat} (u : Value) (h : w.heap[b]? = some (.cells cs t f)) : (w.setCell ⟨b, o, none⟩ u).heap[b]? = some (.cells (cs.setIfInBounds o u) t f) := by
  simp only [World.setCell, Array.getElem?_modify, h]
  rfl
theorem size_setCell (w : World) (a : Addr) (u : Value) : (w.setCell a u).heap.size = w.heap.size := by simp [World.setCell]
theorem stored7 {w : World} {b : Nat} {x0 x1 x2 x3 x4 x5 x6 : Value} (h : B7 w b x0 x1 x2 x3 x4 x5 x6) (c0 c1 c2 c3 c4 c5 c6 : Value) :
    ∃ W : World, W = (((((((w.setCell ⟨b, 0, none⟩ c0).setCell ⟨b, 1, none⟩ c1).setCell ⟨b, 2, none⟩ c2).setCell ⟨b, 3, none⟩ c3).setCell ⟨b, 4, none⟩ c4).setCell ⟨b, 5, none⟩ c5).setCell ⟨b, 6, none⟩ c6) ∧
      B7 W b c0 c1 c2 c3 c4 c5 c6 ∧ W.heap.size = w.heap.size ∧ (∀ k, k ≠ b → W.heap[k]? = w.heap[k]?) ∧ ∀ B, B ≤ b → Below B w W := by
  refine ⟨_, rfl, ?_, ?_, fun k hk => ?_, fun B hB => ?_⟩
  · unfold B7
    have h0 := heap_set_same c0 (o := 0) h
    have h1 := heap_set_same c1 (o := 1) h0
    have h2 := heap_set_same c2 (o := 2) h1
    have h3 := heap_set_same c3 (o := 3) h2
    have h4 := heap_set_same c4 (o := 4) h3
    have h5 := heap_set_same c5 (o := 5) h4
    have h6 := heap_set_same c6 (o := 6) h5
    simpa only [List.setIfInBounds_toArray, List.set_cons_zero, List.set_cons_succ] using h6
  · simp only [size_setCell]
  · rw [Below.heap_setCell _ _ _ _ hk, Below.heap_setCell _ _ _ _ hk, Below.heap_setCell _ _ _ _ hk, Below.heap_setCell _ _ _ _ hk, Below.heap_setCell _ _ _ _ hk, Below.heap_setCell _ _ _ _ hk, Below.heap_setCell _ _ _ _ hk]
  · exact (((((((Below.refl B w).setCell (p := ⟨b, 0, none⟩) hB _).setCell (p := ⟨b, 1, none⟩) hB _).setCell (p := ⟨b, 2, none⟩) hB _).setCell (p := ⟨b, 3, none⟩) hB _).setCell (p := ⟨b, 4, none⟩) hB _).setCell (p := ⟨b, 5, none⟩) hB _).setCell (p := ⟨b, 6, none⟩) hB _
theorem made7 (w : World) (c0 c1 c2 c3 c4 c5 c6 : Value) :
    ∃ W1 W : World, W1 = w.alloc (.cells #[.string ⟨#[]⟩, .int .i64 0, .int .i64 0, .string ⟨#[]⟩, .string ⟨#[]⟩, .string ⟨#[]⟩, .slice none 0 0] 26) ∧
      W = (((((((W1.setCell ⟨w.heap.size, 0, none⟩ c0).setCell ⟨w.heap.size, 1, none⟩ c1).setCell ⟨w.heap.size, 2, none⟩ c2).setCell ⟨w.heap.size, 3, none⟩ c3).setCell ⟨w.heap.size, 4, none⟩ c4).setCell ⟨w.heap.size, 5, none⟩ c5).setCell ⟨w.heap.size, 6, none⟩ c6) ∧
      B7 W1 w.heap.size (.string ⟨#[]⟩) (.int .i64 0) (.int .i64 0) (.string ⟨#[]⟩) (.string ⟨#[]⟩) (.string ⟨#[]⟩) (.slice none 0 0) ∧ B7 W w.heap.size c0 c1 c2 c3 c4 c5 c6 ∧ W.heap.size = w.heap.size + 1 ∧ Below w.heap.size w W1 ∧ Below w.heap.size w W := by
  have h1 := B7.made w (.string ⟨#[]⟩) (.int .i64 0) (.int .i64 0) (.string ⟨#[]⟩) (.string ⟨#[]⟩) (.string ⟨#[]⟩) (.slice none 0 0)
  have hb := (Below.refl w.heap.size w).alloc (Nat.le_refl _) (.cells #[.string ⟨#[]⟩, .int .i64 0, .int .i64 0, .string ⟨#[]⟩, .string ⟨#[]⟩, .string ⟨#[]⟩, .slice none 0 0] 26)
  obtain ⟨W, h2, h3, h4, h5, h6⟩ := stored7 h1 c0 c1 c2 c3 c4 c5 c6
  exact ⟨_, W, rfl, h2, h1, h3, by rw [h4]; simp, hb, hb.trans (h6 _ (Nat.le_refl _))⟩
theorem box7 (w : World) (c0 c1 c2 c3 c4 c5 c6 : Value) : ∃ W : World, W = w.alloc (.cells #[c0, c1, c2, c3, c4, c5, c6] 26) ∧ B7 W w.heap.size c0 c1 c2 c3 c4 c5 c6 ∧ W.heap.size = w.heap.size + 1 ∧ Below w.heap.size w W :=
  ⟨_, rfl, B7.made w _ _ _ _ _ _ _, by simp, (Below.refl w.heap.size w).alloc (Nat.le_refl _) _⟩
theorem zero7 (w : World) : ∃ W : World, W = w.alloc (.cells #[.string ⟨#[]⟩, .int .i64 0, .int .i64 0, .string ⟨#[]⟩, .string ⟨#[]⟩, .string ⟨#[]⟩, .slice none 0 0] 26) ∧
    B7 W w.heap.size (.string ⟨#[]⟩) (.int .i64 0) (.int .i64 0) (.string ⟨#[]⟩) (.string ⟨#[]⟩) (.string ⟨#[]⟩) (.slice none 0 0) ∧ W.heap.size = w.heap.size + 1 ∧ Below w.heap.size w W := box7 w _ _ _ _ _ _ _
theorem EAt.agg {S : Nat → Prop} {w : World} {e : E} {x : Value} (h : EAt S w e x) : ∃ s0 i1 i2 s3 s4 s5 A n c, x = .agg #[.string s0, .int .i64 i1, .int .i64 i2, .string s3, .string s4, .string s5, .slice A n c] := by
  obtain ⟨A, c, rfl, -⟩ := h
  exact ⟨_, _, _, _, _, _, _, _, _, rfl⟩
end Go.Proofs.YtcmbdghbicjljaaGreatDoor
namespace Go.Proofs.YtcmbdghbicjljaaGreatDoor
open Go.RowKit
set_option maxRecDepth 100000 in
set_option maxHeartbeats 2000000 in
theorem deep_any (e : E) : ∀ (x : Value) (S : Nat → Prop) (w : World), EAt S w e x → e.deep ≤ 1000000 → Calls Tryz.prog 69 #[x] w fun r w' => r = .returned (.int .i64 e.deep) ∧ Below w.heap.size w w' := by
  induction e using E.ind with
  | h o v t n l ih =>
    rintro x S w ⟨A, c, rfl, hsub⟩ hd
    obtain ⟨hlc, hcm, hmem⟩ := hsub
    have hm : l.length ≤ 9223372036854775807 := Nat.le_trans hlc hcm
    have hdl : E.deepL l + 1 ≤ 1000000 := hd
    have HI := Lib.hid (fun (k : Nat) (hk : k < l.length) (x : Value) (S : Nat → Prop) (w : World) (hx : EAt S w l[k] x) => ih l[k] (List.getElem_mem hk) x S w hx (by have := deepL_le l k hk; omega))
    simp only [E.op, E.v, E.tb, E.nm, E.l, eVal, E.deep]
    generalize str o = bo at *
    generalize str t = bt at *
    generalize str n = bn at *
    generalize str v.s = bs at *
    generalize v.k = vk at *
    generalize v.i = vi at *
    have hb0 := (Below.refl w.heap.size w).alloc (Nat.le_refl _) (.cells #[.string bo, .int .i64 vk, .int .i64 vi, .string bs, .string bt, .string bn, .slice A l.length c] 26)
    have hbx := (B7.made w (.string bo) (.int .i64 vk) (.int .i64 vi) (.string bs) (.string bt) (.string bn) (.slice A l.length c)).cells
    obtain ⟨x0, x1, x2, x3, x4, x5, x6⟩ := hbx
    have HM := Lib.hid hmem
    have HB0 := Lib.hid hb0
    clear ih hmem hd hlc hcm hb0
    go_enter Tryz.func69, Tryz.ntmps69
    go_wp2_with fail
    clear x0 x1 x2 x3 x4 x5 x6
    go_loopw [9, 3] (fun iv dv wr => ∃ k : Nat, k ≤ l.length ∧ iv = .int .i64 k ∧ dv = .int .i64 (E.deepL (l.take k) : Nat) ∧ Hid (Below w.heap.size w wr)) (fun iv _ _ => l.length - (intOf iv).toNat)
    case atStart => exact ⟨0, Nat.zero_le _, rfl, rfl, HB0.out⟩
    case round =>
      obtain ⟨k, hk, rfl, rfl, HB⟩ := hrel
      by_cases hlt : k < l.length
      · obtain ⟨g, off, rfl, hS, hg, hl⟩ := HM.out (by omega)
        obtain ⟨A', c', ⟨g0, g1, g2, g3, g4, g5, g6⟩, hs⟩ := hl.get k hlt
        have hkz : (k : Int) < (l.length : Int) := by omega
        have z := HB.out.size
        have i0 := (HB.out.cell (p := ⟨g, off + k * 7, none⟩) hg).trans g0
        have i1 := (HB.out.cell (p := ⟨g, off + k * 7 + 1, none⟩) hg).trans g1
        have i2 := (HB.out.cell (p := ⟨g, off + k * 7 + 2, none⟩) hg).trans g2
        have i3 := (HB.out.cell (p := ⟨g, off + k * 7 + 3, none⟩) hg).trans g3
        have i4 := (HB.out.cell (p := ⟨g, off + k * 7 + 4, none⟩) hg).trans g4
        have i5 := (HB.out.cell (p := ⟨g, off + k * 7 + 5, none⟩) hg).trans g5
        have i6 := (HB.out.cell (p := ⟨g, off + k * 7 + 6, none⟩) hg).trans g6
        obtain ⟨W1, W, hW1, hW, b1, b2, hz, hb1, hb2⟩ := made7 wr (.string (str l[k].op)) (.int .i64 l[k].v.k) (.int .i64 l[k].v.i) (.string (str l[k].v.s)) (.string (str l[k].tb)) (.string (str l[k].nm)) (.slice A' l[k].l.length c')
        have f1 := b1.free
        have y1 := b2.cells
        obtain ⟨p10, p11, p12, p13, p14, p15, p16⟩ := b1.cells
        have hE : EAt S W l[k] (eVal l[k].op l[k].v l[k].tb l[k].nm (.slice A' l[k].l.length c')) := by
          have h0 : EAt S w l[k] (eVal l[k].op l[k].v l[k].tb l[k].nm (.slice A' l[k].l.length c')) := ⟨A', c', rfl, hs⟩
          exact (h0.later HB.out).later hb2
        have HC := Lib.hid (HI.out k hlt _ S W hE)
        have hdk := deepL_take l k hlt
        have hdk2 := deepL_le l k hlt
        have HB2 := Lib.hid (bthen HB.out hb2)
        have HW1 := Lib.hid hW1
        have HW := Lib.hid hW
        obtain ⟨f10, f11, f12, f13, f14, f15, f16⟩ := f1
        obtain ⟨y10, y11, y12, y13, y14, y15, y16⟩ := y1
        unfold eVal at HC
        generalize str l[k].op = bo' at *
        generalize str l[k].tb = bt' at *
        generalize str l[k].nm = bn' at *
        generalize str l[k].v.s = bs' at *
        generalize l[k].v.k = vk' at *
        generalize l[k].v.i = vi' at *
        generalize l[k].l.length = ln' at *
        generalize hdp : l[k].deep = dp at *
        have htk : E.deepL (l.take k) ≤ 1000000 := by
          have : E.deepL l = max (E.deepL (l.take k)) (E.deepL (l.drop k)) := by rw [← deepL_append, List.take_append_drop]
          omega
        have HDK : Hid (E.deepL (l.take (k + 1)) = max (E.deepL (l.take k)) dp) := hdk
        generalize E.deepL (l.take k) = dt at *
        clear hW1 hW hs hl hE g0 g1 g2 g3 g4 g5 g6 b1 b2 hb1 hb2 HB HI HM HB0 hdp hdk
        go_wp2_with (first | (rw [← HW.out]) | (rw [← HW1.out]))
        refine (HC.out).mono ?_
        rintro e w3 ⟨rfl, b3⟩
        go_wp2_with fail
        go_roundw
        case measure => simp [intOf]; omega
        case rel => exact ⟨k + 1, by omega, by go_num, by rw [HDK.out]; go_num, bthen HB2.out b3⟩
      · have hke : k = l.length := by omega
        have hkz : ¬ (k : Int) < (l.length : Int) := by omega
        subst hke
        rw [List.take_length]
        clear HM HI HB0
        go_wp2_with fail
        go_ret
        exact ⟨by go_num, HB.out⟩
end Go.Proofs.YtcmbdghbicjljaaGreatDoor
namespace Go.Proofs.YtcmbdghbicjljaaGreatDoor
open Go.RowKit
mutual
def E.same : E → E → Bool
  | .mk o v t n l, .mk o' v' t' n' l' => o == o' && (v == v') && (t == t') && (n == n') && E.sameL l l'
def E.sameL : List E → List E → Bool
  | [], [] => true
  | a :: l, b :: m => a.same b && E.sameL l m
  | _, _ => false
end
theorem sameL_len {l m : List E} (h : l.length ≠ m.length) : E.sameL l m = false := by
  induction l generalizing m with
  | nil =>
    cases m with
    | nil => simp at h
    | cons b m => rfl
  | cons a l ih =>
    cases m with
    | nil => rfl
    | cons b m => simp only [E.sameL]; rw [ih (by simpa using h)]; simp
theorem same_refl (e : E) : e.same e = true := by
  induction e using E.ind with
  | h o v t n l ih =>
    have hl : ∀ m : List E, (∀ a ∈ m, a.same a = true) → E.sameL m m = true := by
      intro m
      induction m with
      | nil => intro _; rfl
      | cons a m ihm => intro h; simp only [E.sameL, h a (by simp), ihm (fun b hb => h b (by simp [hb])), Bool.and_self]
    simp only [E.same, hl l ih, beq_self_eq_true, Bool.and_self]
theorem same_eq {e f : E} (h : e.same f = true) : e = f := by
  induction e using E.ind generalizing f with
  | h o v t n l ih =>
    cases f with
    | mk o' v' t' n' l' =>
      simp only [E.same, Bool.and_eq_true, beq_iff_eq] at h
      obtain ⟨⟨⟨⟨rfl, rfl⟩, rfl⟩, rfl⟩, hl⟩ := h
      have : ∀ (m m' : List E), (∀ a ∈ m, ∀ {f : E}, a.same f = true → a = f) → E.sameL m m' = true → m = m' := by
        intro m
        induction m with
        | nil =>
          intro m' _ h
          cases m' with
          | nil => rfl
          | cons b m' => simp [E.sameL] at h
        | cons a m ihm =>
          intro m' ha h
          cases m' with
          | nil => simp [E.sameL] at h
          | cons b m' =>
            simp only [E.sameL, Bool.and_eq_true] at h
            rw [ha a (by simp) h.1, ihm m' (fun c hc => ha c (by simp [hc])) h.2]
      rw [this l l' (fun a ha f => ih a ha) hl]
theorem same_iff {e f : E} : e.same f = true ↔ e = f := ⟨same_eq, fun h => by subst h; exact same_refl e⟩
def FSame : Value := .func (.func 98) #[] #[]
set_option maxRecDepth 100000 in
set_option maxHeartbeats 4000000 in
theorem equal_any (l m : List E) (S S' : Nat → Prop) (w : World) (A A' : Option Addr) (c c' : Nat) (hl : Sub S w (op1 [] l) A c) (hm : Sub S' w (op1 [] m) A' c')
    (ih : ∀ j (hj : j < l.length) (f : E) (x y : Value) (w : World), EAt S w l[j] x → EAt S' w f y → Calls Tryz.prog 98 #[x, y] w fun r w' => r = .returned (.bool (l[j].same f)) ∧ Below w.heap.size w w') :
    Calls Tryz.prog 123 #[.slice A l.length c, .slice A' m.length c', FSame] w fun r w' => r = .returned (.bool (E.sameL l m)) ∧ Below w.heap.size w w' := by
  unfold FSame
  obtain ⟨l1, l2, l3⟩ := hl
  obtain ⟨m1, m2, m3⟩ := hm
  have hlm : l.length ≤ 9223372036854775807 := Nat.le_trans l1 l2
  have hmm : m.length ≤ 9223372036854775807 := Nat.le_trans m1 m2
  have HI := Lib.hid ih
  have HL := Lib.hid l3
  have HM := Lib.hid m3
  by_cases hne : l.length = m.length
  · have hnz : ((l.length : Int) != (m.length : Int)) = false := by simp [hne]
    clear l1 l2 l3 m1 m2 m3 ih
    obtain ⟨ln, hln⟩ : ∃ ln, ln = l.length := ⟨_, rfl⟩
    obtain ⟨mn, hmn⟩ : ∃ mn, mn = m.length := ⟨_, rfl⟩
    rw [← hln] at hnz hlm ⊢
    rw [← hmn] at hnz hmm ⊢
    have HLN := Lib.hid hln
    have HMN := Lib.hid hmn
    have HNE := Lib.hid hne
    clear hln hmn hne
    generalize hsl0 : E.sameL l m = sl
    have HS0 := Lib.hid hsl0
    clear hsl0
    go_enter Tryz.func123, Tryz.ntmps123
    go_wp2_with fail
    go_loopw [17] (fun iv wr => ∃ k : Nat, k ≤ ln ∧ iv = .int .i64 k ∧ Hid (Below w.heap.size w wr) ∧ Hid (sl = E.sameL (l.drop k) (m.drop k))) (fun iv _ => ln - (intOf iv).toNat)
    case atStart => exact ⟨0, Nat.zero_le _, rfl, Below.refl _ _, by rw [List.drop_zero, List.drop_zero]; exact HS0.out.symm⟩
    case round =>
      obtain ⟨k, hk, rfl, HB, HS⟩ := hrel
      by_cases hlt : k < ln
      · have hkl : k < l.length := by have := HLN.out; omega
        have hkm : k < m.length := by have := HNE.out; have := HLN.out; omega
        obtain ⟨g, off, rfl, hS, hg, hcl⟩ := HL.out (by omega)
        obtain ⟨g', off', rfl, hS', hg', hcm⟩ := HM.out (by omega)
        obtain ⟨A1, c1, ⟨a0, a1, a2, a3, a4, a5, a6⟩, hs⟩ := hcl.get k hkl
        obtain ⟨A2, c2, ⟨b0, b1, b2, b3, b4, b5, b6⟩, hs'⟩ := hcm.get k hkm
        have hkz : (k : Int) < (ln : Int) := by omega
        have hkz2 : (k : Int) < (mn : Int) := by have := HMN.out; omega
        have z := HB.out.size
        have i0 := (HB.out.cell (p := ⟨g, off + k * 7, none⟩) hg).trans a0
        have i1 := (HB.out.cell (p := ⟨g, off + k * 7 + 1, none⟩) hg).trans a1
        have i2 := (HB.out.cell (p := ⟨g, off + k * 7 + 2, none⟩) hg).trans a2
        have i3 := (HB.out.cell (p := ⟨g, off + k * 7 + 3, none⟩) hg).trans a3
        have i4 := (HB.out.cell (p := ⟨g, off + k * 7 + 4, none⟩) hg).trans a4
        have i5 := (HB.out.cell (p := ⟨g, off + k * 7 + 5, none⟩) hg).trans a5
        have i6 := (HB.out.cell (p := ⟨g, off + k * 7 + 6, none⟩) hg).trans a6
        obtain ⟨W1, W, hW1, hW, p1, p2, hz, hb1, hb2⟩ := made7 wr (.string (str l[k].op)) (.int .i64 l[k].v.k) (.int .i64 l[k].v.i) (.string (str l[k].v.s)) (.string (str l[k].tb)) (.string (str l[k].nm)) (.slice A1 l[k].l.length c1)
        have HB2 := bthen HB.out hb2
        have j0 := (HB2.cell (p := ⟨g', off' + k * 7, none⟩) hg').trans b0
        have j1 := (HB2.cell (p := ⟨g', off' + k * 7 + 1, none⟩) hg').trans b1
        have j2 := (HB2.cell (p := ⟨g', off' + k * 7 + 2, none⟩) hg').trans b2
        have j3 := (HB2.cell (p := ⟨g', off' + k * 7 + 3, none⟩) hg').trans b3
        have j4 := (HB2.cell (p := ⟨g', off' + k * 7 + 4, none⟩) hg').trans b4
        have j5 := (HB2.cell (p := ⟨g', off' + k * 7 + 5, none⟩) hg').trans b5
        have j6 := (HB2.cell (p := ⟨g', off' + k * 7 + 6, none⟩) hg').trans b6
        obtain ⟨V1, V, hV1, hV, q1, q2, hy, hc1, hc2⟩ := made7 W (.string (str m[k].op)) (.int .i64 m[k].v.k) (.int .i64 m[k].v.i) (.string (str m[k].v.s)) (.string (str m[k].tb)) (.string (str m[k].nm)) (.slice A2 m[k].l.length c2)
        rw [hz] at q1 q2 hV
        have HB3 := bthen HB2 hc2
        have f1 := p1.free
        have g1 := q1.free
        obtain ⟨p10, p11, p12, p13, p14, p15, p16⟩ := p1.cells
        obtain ⟨q10, q11, q12, q13, q14, q15, q16⟩ := q1.cells
        obtain ⟨x10, x11, x12, x13, x14, x15, x16⟩ := (p2.later hc2).cells
        obtain ⟨y10, y11, y12, y13, y14, y15, y16⟩ := q2.cells
        obtain ⟨f10, f11, f12, f13, f14, f15, f16⟩ := f1
        obtain ⟨g10, g11, g12, g13, g14, g15, g16⟩ := g1
        have hE : EAt S w l[k] (eVal l[k].op l[k].v l[k].tb l[k].nm (.slice A1 l[k].l.length c1)) := ⟨A1, c1, rfl, hs⟩
        have hF : EAt S' w m[k] (eVal m[k].op m[k].v m[k].tb m[k].nm (.slice A2 m[k].l.length c2)) := ⟨A2, c2, rfl, hs'⟩
        have HC := Lib.hid (HI.out k hkl m[k] _ _ V (hE.later HB3) (hF.later HB3))
        have HBV := Lib.hid HB3
        have hsl : E.sameL (l.drop k) (m.drop k) = (l[k].same m[k] && E.sameL (l.drop (k + 1)) (m.drop (k + 1))) := by
          rw [List.drop_eq_getElem_cons hkl, List.drop_eq_getElem_cons hkm]; rfl
        have HSL := Lib.hid (HS.out.trans hsl)
        have HW1 := Lib.hid hW1
        have HW := Lib.hid hW
        have HV1 := Lib.hid hV1
        have HV := Lib.hid hV
        unfold eVal at HC
        generalize hsm : l[k].same m[k] = sm at *
        generalize str l[k].op = bo at *
        generalize str l[k].tb = bt at *
        generalize str l[k].nm = bn at *
        generalize str l[k].v.s = bs at *
        generalize l[k].v.k = vk at *
        generalize l[k].v.i = vi at *
        generalize l[k].l.length = l7 at *
        generalize str m[k].op = bo' at *
        generalize str m[k].tb = bt' at *
        generalize str m[k].nm = bn' at *
        generalize str m[k].v.s = bs' at *
        generalize m[k].v.k = vk' at *
        generalize m[k].v.i = vi' at *
        generalize m[k].l.length = l8 at *
        clear hW1 hW hV1 hV hs hs' hcl hcm hE hF a0 a1 a2 a3 a4 a5 a6 b0 b1 b2 b3 b4 b5 b6 p1 p2 q1 q2 hb1 hb2 hc1 hc2 HB HI HL HM HB2 HB3 hsl hsm HS
        cases sm
        · have hsf := HSL.out
          simp only [Bool.false_and] at hsf
          subst hsf
          clear HSL HS0
          go_wp2_with (first | (rw [← HV.out]) | (rw [← HV1.out]) | (rw [← HW.out]) | (rw [← HW1.out]))
          refine (HC.out).mono ?_
          rintro e w3 ⟨rfl, b3⟩
          go_wp2_with fail
          go_ret
          exact ⟨rfl, bthen HBV.out b3⟩
        · have HSL2 : Hid (sl = E.sameL (l.drop (k + 1)) (m.drop (k + 1))) := by have := HSL.out; rwa [Bool.true_and] at this
          go_wp2_with (first | (rw [← HV.out]) | (rw [← HV1.out]) | (rw [← HW.out]) | (rw [← HW1.out]))
          refine (HC.out).mono ?_
          rintro e w3 ⟨rfl, b3⟩
          go_wp2_with fail
          go_roundw
          case measure => simp [intOf]; omega
          case rel => exact ⟨k + 1, by omega, by go_num, bthen HBV.out b3, HSL2.out⟩
      · have hke : k = ln := by omega
        have hkz : ¬ (k : Int) < (ln : Int) := by omega
        subst hke
        have hs := HS.out
        rw [List.drop_of_length_le (by have := HLN.out; omega), List.drop_of_length_le (by have := HLN.out; have := HNE.out; omega)] at hs
        have hst : sl = true := hs
        clear hs
        subst hst
        clear HM HI HL HS HS0
        go_wp2_with fail
        go_ret
        exact ⟨rfl, HB.out⟩
  · have hnz : ((l.length : Int) != (m.length : Int)) = true := by simp; omega
    rw [sameL_len hne]
    clear l1 l2 l3 m1 m2 m3 ih HL HM HI hne
    generalize l.length = ln at *
    generalize m.length = mn at *
    go_enter Tryz.func123, Tryz.ntmps123
    go_wp2_with fail
    go_ret
    exact ⟨rfl, Below.refl _ _⟩
end Go.Proofs.YtcmbdghbicjljaaGreatDoor
namespace Go.Proofs.YtcmbdghbicjljaaGreatDoor
open Go.RowKit
theorem str_beq (a b : List UInt8) : ((str a).toList == (str b).toList) = (a == b) := by rw [Lib.toList_data, Lib.toList_data, str_list, str_list]
theorem sameB_v (v v' : Vl) : BV.sameB v.k v.i (str v.s) v'.k v'.i (str v'.s) = (v == v') := by
  unfold BV.sameB
  rw [str_beq]
  cases v; cases v'
  rw [Bool.eq_iff_iff]
  simp
theorem sub_later {S : Nat → Prop} {w w' : World} {e : E} {A : Option Addr} {c : Nat} (h : Sub S w e A c) (hb : Below w.heap.size w w') : Sub S w' e A c := Sub.keep (fun k hk hlt => ⟨hk, hb.block k hlt⟩) hb.size e A c h
set_option maxRecDepth 100000 in
set_option maxHeartbeats 8000000 in
theorem eSame_any (e : E) : ∀ (f : E) (x y : Value) (S S' : Nat → Prop) (w : World), EAt S w e x → EAt S' w f y → Calls Tryz.prog 98 #[x, y] w fun r w' => r = .returned (.bool (e.same f)) ∧ Below w.heap.size w w' := by
  induction e using E.ind with
  | h o v t n l ih =>
    rintro ⟨o', v', t', n', l'⟩ x y S S' w ⟨A, c, rfl, hs⟩ ⟨A', c', rfl, hs'⟩
    simp only [E.op, E.v, E.tb, E.nm, E.l, eVal]
    have hs1 : Sub S w (op1 [] l) A c := by simp only [op1, Sub] at *; exact hs
    have hs2 : Sub S' w (op1 [] l') A' c' := by simp only [op1, Sub] at *; exact hs'
    obtain ⟨W1, hW1, q1, z1, r1⟩ := box7 w (.string (str o)) (.int .i64 v.k) (.int .i64 v.i) (.string (str v.s)) (.string (str t)) (.string (str n)) (.slice A l.length c)
    obtain ⟨W2, hW2, q2, z2, r2⟩ := box7 W1 (.string (str o')) (.int .i64 v'.k) (.int .i64 v'.i) (.string (str v'.s)) (.string (str t')) (.string (str n')) (.slice A' l'.length c')
    rw [z1] at q2
    obtain ⟨a0, a1, a2, a3, a4, a5, a6⟩ := (q1.later r2).cells
    obtain ⟨b0, b1, b2, b3, b4, b5, b6⟩ := q2.cells
    have HB := Lib.hid (bthen r1 r2)
    have e1 := str_beq o o'
    have e3 := str_beq t t'
    have e4 := str_beq n n'
    have HV := Lib.hid (fun w => BV.same_any v.k v.i v'.k v'.i (str v.s) (str v'.s) w)
    rw [sameB_v] at HV
    have HL := Lib.hid (fun W (h1 : Sub S W (op1 [] l) A c) (h2 : Sub S' W (op1 [] l') A' c') => equal_any l l' S S' W A A' c c' h1 h2 (fun j hj f x y w hx hy => ih l[j] (List.getElem_mem hj) f x y S S' w hx hy))
    have HS1 := Lib.hid (sub_later (sub_later hs1 r1) r2)
    have HS2 := Lib.hid (sub_later (sub_later hs2 r1) r2)
    have hes : E.same (.mk o v t n l) (.mk o' v' t' n' l') = (o == o' && (v == v') && (t == t') && (n == n') && E.sameL l l') := by simp only [E.same]
    rw [hes]
    have HW1 := Lib.hid hW1
    have HW2 := Lib.hid hW2
    unfold FSame at HL
    generalize hq1 : (o == o') = p1 at *
    generalize hq2 : (v == v') = p2 at *
    generalize hq3 : (t == t') = p3 at *
    generalize hq4 : (n == n') = p4 at *
    generalize hq5 : E.sameL l l' = p5 at *
    clear hq1 hq2 hq3 hq4 hq5 hes ih hs hs' hs1 hs2 hW1 hW2 q1 q2 r1 r2
    generalize str o = bo at *
    generalize str o' = bo' at *
    generalize str t = bt at *
    generalize str t' = bt' at *
    generalize str n = bn at *
    generalize str n' = bn' at *
    generalize str v.s = bs at *
    generalize str v'.s = bs' at *
    generalize v.k = vk at *
    generalize v.i = vi at *
    generalize v'.k = vk' at *
    generalize v'.i = vi' at *
    generalize l.length = ln at *
    generalize l'.length = ln' at *
    cases p1
    · clear HV HL HS1 HS2
      simp only [Bool.false_and]
      go_enter Tryz.func98, Tryz.ntmps98
      go_wp2_with (first | (rw [← HW2.out]) | (rw [← HW1.out]))
      go_ret
      exact ⟨rfl, HB.out⟩
    · cases p2
      · simp only [Bool.false_and, Bool.and_false]
        clear HL HS1 HS2
        go_enter Tryz.func98, Tryz.ntmps98
        go_wp2_with (first | (rw [← HW2.out]) | (rw [← HW1.out]))
        refine (HV.out _).mono ?_
        rintro e w3 ⟨rfl, b3⟩
        go_wp2_with fail
        go_ret
        exact ⟨rfl, bthen HB.out b3⟩
      · simp only [Bool.true_and]
        cases p3
        · simp only [Bool.false_and]
          clear HL HS1 HS2
          go_enter Tryz.func98, Tryz.ntmps98
          go_wp2_with (first | (rw [← HW2.out]) | (rw [← HW1.out]))
          refine (HV.out _).mono ?_
          rintro e w3 ⟨rfl, b3⟩
          have HB3 := Lib.hid (bthen HB.out b3)
          replace a4 := (b3.cell (p := ⟨w.heap.size, 4, none⟩) (by show w.heap.size < _; omega)).trans a4
          replace b4 := (b3.cell (p := ⟨w.heap.size + 1, 4, none⟩) (by show w.heap.size + 1 < _; omega)).trans b4
          clear b3
          go_wp2_with fail
          go_ret
          exact ⟨rfl, HB3.out⟩
        · simp only [Bool.true_and]
          cases p4
          · simp only [Bool.false_and]
            clear HL HS1 HS2
            go_enter Tryz.func98, Tryz.ntmps98
            go_wp2_with (first | (rw [← HW2.out]) | (rw [← HW1.out]))
            refine (HV.out _).mono ?_
            rintro e w3 ⟨rfl, b3⟩
            have HB3 := Lib.hid (bthen HB.out b3)
            replace a4 := (b3.cell (p := ⟨w.heap.size, 4, none⟩) (by show w.heap.size < _; omega)).trans a4
            replace b4 := (b3.cell (p := ⟨w.heap.size + 1, 4, none⟩) (by show w.heap.size + 1 < _; omega)).trans b4
            replace a5 := (b3.cell (p := ⟨w.heap.size, 5, none⟩) (by show w.heap.size < _; omega)).trans a5
            replace b5 := (b3.cell (p := ⟨w.heap.size + 1, 5, none⟩) (by show w.heap.size + 1 < _; omega)).trans b5
            clear b3
            go_wp2_with fail
            go_ret
            exact ⟨rfl, HB3.out⟩
          · simp only [Bool.true_and]
            go_enter Tryz.func98, Tryz.ntmps98
            go_wp2_with (first | (rw [← HW2.out]) | (rw [← HW1.out]))
            refine (HV.out _).mono ?_
            rintro e w3 ⟨rfl, b3⟩
            have HB3 := Lib.hid (bthen HB.out b3)
            replace a4 := (b3.cell (p := ⟨w.heap.size, 4, none⟩) (by show w.heap.size < _; omega)).trans a4
            replace b4 := (b3.cell (p := ⟨w.heap.size + 1, 4, none⟩) (by show w.heap.size + 1 < _; omega)).trans b4
            replace a5 := (b3.cell (p := ⟨w.heap.size, 5, none⟩) (by show w.heap.size < _; omega)).trans a5
            replace b5 := (b3.cell (p := ⟨w.heap.size + 1, 5, none⟩) (by show w.heap.size + 1 < _; omega)).trans b5
            replace a6 := (b3.cell (p := ⟨w.heap.size, 6, none⟩) (by show w.heap.size < _; omega)).trans a6
            replace b6 := (b3.cell (p := ⟨w.heap.size + 1, 6, none⟩) (by show w.heap.size + 1 < _; omega)).trans b6
            have HC := Lib.hid (HL.out w3 (sub_later HS1.out b3) (sub_later HS2.out b3))
            clear b3 HL HS1 HS2
            go_wp2_with fail
            refine (HC.out).mono ?_
            rintro e w4 ⟨rfl, b4⟩
            go_wp2_with fail
            go_ret
            exact ⟨rfl, bthen HB3.out b4⟩
end Go.Proofs.YtcmbdghbicjljaaGreatDoor
namespace Go.Proofs.YtcmbdghbicjljaaGreatDoor
open Go.RowKit
def ops1 : List (List UInt8) := [wNeg, wNot, wIsnull, wNotnull]
def ops2 : List (List UInt8) := [wAnd, wOr, [61], [60, 62], [60], [60, 61], [62], [62, 61], [43], [45], [42], [47], [37], [124, 124], wLike]
def least (o : List UInt8) : Nat := if o ∈ ops1 then 1 else if o ∈ ops2 then 2 else if o = wBetween then 3 else if o = wIn then 2 else 1
def most (o : List UInt8) : Nat := if o ∈ ops1 then 1 else if o ∈ ops2 then 2 else if o = wBetween then 3 else if o = wIn then 9223372036854775807 else 0
def allOps : List (List UInt8) := ops1 ++ ops2 ++ [wBetween, wIn]
theorem many_none {o : List UInt8} (h : o ∉ allOps) : least o = 1 ∧ most o = 0 := by
  have h1 : o ∉ ops1 := fun hh => h (by unfold allOps; simp [hh])
  have h2 : o ∉ ops2 := fun hh => h (by unfold allOps; simp [hh])
  have h3 : o ≠ wBetween := fun hh => h (by unfold allOps; simp [hh])
  have h4 : o ≠ wIn := fun hh => h (by unfold allOps; simp [hh])
  unfold least most
  simp [h1, h2, h3, h4]
set_option maxRecDepth 100000 in
set_option maxHeartbeats 8000000 in
theorem many_head (o : List UInt8) (w : World) (h : o ∈ allOps) : Calls Tryz.prog 103 #[.string (str o)] w fun e w' => e = .returned (.tuple #[.int .i64 (least o), .int .i64 (most o)]) ∧ w' = w := by
  simp only [allOps, ops1, ops2, List.cons_append, List.nil_append, List.mem_cons, List.not_mem_nil, or_false] at h
  rcases h with rfl | rfl | rfl | rfl | rfl | rfl | rfl | rfl | rfl | rfl | rfl | rfl | rfl | rfl | rfl | rfl | rfl | rfl | rfl | rfl | rfl
  all_goals
    simp only [str, wAnd, wOr, wNeg, wNot, wIsnull, wNotnull, wLike, wIn, wBetween]
    go_enter Tryz.func103, Tryz.ntmps103
    go_wp2_with fail
    go_ret2
    exact ⟨rfl, rfl⟩
set_option maxRecDepth 100000 in
set_option maxHeartbeats 8000000 in
theorem many_other (o : List UInt8) (w : World) (h : o ∉ allOps) : Calls Tryz.prog 103 #[.string (str o)] w fun e w' => e = .returned (.tuple #[.int .i64 1, .int .i64 0]) ∧ w' = w := by
  have hm : ∀ q ∈ allOps, ((str o).toList == q) = false := fun q hq => by
    rw [Lib.toList_data, str_list, beq_eq_false_iff_ne]
    rintro rfl
    exact h hq
  have a1 := hm wNeg (by decide)
  have a2 := hm wNot (by decide)
  have a3 := hm wIsnull (by decide)
  have a4 := hm wNotnull (by decide)
  have a5 := hm wAnd (by decide)
  have a6 := hm wOr (by decide)
  have a7 := hm [61] (by decide)
  have a8 := hm [60, 62] (by decide)
  have a9 := hm [60] (by decide)
  have a10 := hm [60, 61] (by decide)
  have a11 := hm [62] (by decide)
  have a12 := hm [62, 61] (by decide)
  have a13 := hm [43] (by decide)
  have a14 := hm [45] (by decide)
  have a15 := hm [42] (by decide)
  have a16 := hm [47] (by decide)
  have a17 := hm [37] (by decide)
  have a18 := hm [124, 124] (by decide)
  have a19 := hm wLike (by decide)
  have a20 := hm wBetween (by decide)
  have a21 := hm wIn (by decide)
  clear hm h
  generalize str o = bo at *
  simp only [wAnd, wOr, wNeg, wNot, wIsnull, wNotnull, wLike, wIn, wBetween] at a1 a2 a3 a4 a5 a6 a19 a20 a21
  go_enter Tryz.func103, Tryz.ntmps103
  go_wp2_with fail
  go_ret2
  exact ⟨rfl, rfl⟩
theorem many_any (o : List UInt8) (w : World) : Calls Tryz.prog 103 #[.string (str o)] w fun e w' => e = .returned (.tuple #[.int .i64 (least o), .int .i64 (most o)]) ∧ w' = w := by
  by_cases h : o ∈ allOps
  · exact many_head o w h
  · obtain ⟨h1, h2⟩ := many_none h
    rw [h1, h2]
    exact many_other o w h
def Vl.may (v : Vl) : Bool := BV.mayB v.k v.i (str v.s)
def oneStar : List E → Bool
  | [x] => x.same star
  | _ => false
theorem oneStar_no {l : List E} (h : l.length ≠ 1) : oneStar l = false := by
  rcases l with _ | ⟨a, _ | ⟨b, l⟩⟩
  · rfl
  · simp at h
  · rfl
def countsL (n : List UInt8) (l : List E) : Bool := n == wCount && oneStar l
mutual
def E.may : E → Bool
  | .mk o v t n l =>
    if o = wLit then (t == [] && (n == []) && l.isEmpty) && v.may
    else if o = wCol then (v == v0 && l.isEmpty) && nameB n && (t == [] || nameB t)
    else if o = wCall then (v == v0 && (t == [])) && nameB n && (countsL n l || E.mayL l)
    else (v == v0 && (t == []) && (n == [])) && decide (least o ≤ l.length) && decide (l.length ≤ most o) && E.mayL l
def E.mayL : List E → Bool
  | [] => true
  | a :: l => a.may && E.mayL l
end
mutual
def E.short : E → Bool
  | .mk _ v t n l => decide (v.s.length ≤ 1000000) && decide (t.length ≤ 1000000) && decide (n.length ≤ 1000000) && E.shortL l
def E.shortL : List E → Bool
  | [] => true
  | a :: l => a.short && E.shortL l
end
mutual
def E.sn : E → Bool
  | .mk o _ t n l => decide (o = wCol → t.length ≤ 1000000) && decide (n.length ≤ 1000000) && E.snL l
def E.snL : List E → Bool
  | [] => true
  | a :: l => a.sn && E.snL l
end
theorem snL_iff {l : List E} : E.snL l = true ↔ ∀ x ∈ l, x.sn = true := by
  induction l with
  | nil => simp [E.snL]
  | cons a l ih => simp [E.snL, ih]
theorem snL_get {l : List E} (h : E.snL l = true) (j : Nat) (hj : j < l.length) : l[j].sn = true := snL_iff.1 h _ (List.getElem_mem hj)
end Go.Proofs.YtcmbdghbicjljaaGreatDoor
namespace Go.Proofs.YtcmbdghbicjljaaGreatDoor
open Go.RowKit
theorem setL {w : World} {b : Nat} {c0 c1 c2 c3 c4 c5 c6 : Value} (h : B7 w b c0 c1 c2 c3 c4 c5 c6) (u : Value) : B7 (w.setCell ⟨b, 6, none⟩ u) b c0 c1 c2 c3 c4 c5 u := by
  have := heap_set_same u (o := 6) h
  unfold B7
  simpa only [List.setIfInBounds_toArray, List.set_cons_zero, List.set_cons_succ] using this
theorem own7 (w : World) (c0 c1 c2 c3 c4 c5 c6 : Value) : ∃ W1 V6 V7 W4 : World, W1 = w.alloc (.cells #[c0, c1, c2, c3, c4, c5, c6] 26) ∧
    V6 = W1.alloc (.cells #[.string ⟨#[]⟩, .int .i64 0, .int .i64 0, .string ⟨#[]⟩, .string ⟨#[]⟩, .string ⟨#[]⟩, .slice none 0 0] 26) ∧
    V7 = (((((((V6.setCell ⟨w.heap.size + 1, 0, none⟩ c0).setCell ⟨w.heap.size + 1, 1, none⟩ c1).setCell ⟨w.heap.size + 1, 2, none⟩ c2).setCell ⟨w.heap.size + 1, 3, none⟩ c3).setCell ⟨w.heap.size + 1, 4, none⟩ c4).setCell ⟨w.heap.size + 1, 5, none⟩ c5).setCell ⟨w.heap.size + 1, 6, none⟩ c6) ∧
    W4 = V7.setCell ⟨w.heap.size + 1, 6, none⟩ (.slice none 0 0) ∧ W1.heap.size = w.heap.size + 1 ∧ B7 W1 w.heap.size c0 c1 c2 c3 c4 c5 c6 ∧
    B7 V6 (w.heap.size + 1) (.string ⟨#[]⟩) (.int .i64 0) (.int .i64 0) (.string ⟨#[]⟩) (.string ⟨#[]⟩) (.string ⟨#[]⟩) (.slice none 0 0) ∧ B7 V7 (w.heap.size + 1) c0 c1 c2 c3 c4 c5 c6 ∧
    B7 W4 w.heap.size c0 c1 c2 c3 c4 c5 c6 ∧ B7 W4 (w.heap.size + 1) c0 c1 c2 c3 c4 c5 (.slice none 0 0) ∧ Below w.heap.size w W4 ∧ W4.heap.size = w.heap.size + 2 := by
  obtain ⟨W1, hW1, q1, z1, r1⟩ := box7 w c0 c1 c2 c3 c4 c5 c6
  obtain ⟨V6, V7, hV6, hV7, t6, t7, y7, k6, k7⟩ := made7 W1 c0 c1 c2 c3 c4 c5 c6
  rw [z1] at hV7 t6 t7
  have q4 := setL t7 (.slice none 0 0)
  have b4 : Below W1.heap.size W1 (V7.setCell ⟨w.heap.size + 1, 6, none⟩ (.slice none 0 0)) := k7.setCell (p := ⟨w.heap.size + 1, 6, none⟩) (by show _ ≤ w.heap.size + 1; omega) _
  exact ⟨W1, V6, V7, _, hW1, hV6, hV7, rfl, z1, q1, t6, t7, q1.later b4, q4, bthen r1 b4, by rw [size_setCell, y7, z1]⟩
theorem lit_at (S : Nat → Prop) (w : World) (o : List UInt8) (v : Vl) (t n : List UInt8) : EAt S w (.mk o v t n []) (.agg #[.string (str o), .int .i64 v.k, .int .i64 v.i, .string (str v.s), .string (str t), .string (str n), .slice none 0 0]) := ⟨none, 0, rfl, by simp [Sub]⟩
theorem str_nil0 : str [] = ⟨#[]⟩ := rfl
theorem sameL_nil (l : List E) : E.sameL l [] = l.isEmpty := by cases l <;> rfl
theorem same_lit (v : Vl) (t n : List UInt8) (l : List E) : (E.mk wLit v t n l).same (.mk wLit v [] [] []) = (t == [] && (n == []) && l.isEmpty) := by simp only [E.same, sameL_nil, beq_self_eq_true, Bool.true_and]
theorem same_col (v : Vl) (t n : List UInt8) (l : List E) : (E.mk wCol v t n l).same (.mk wCol v0 t n []) = (v == v0 && l.isEmpty) := by simp only [E.same, sameL_nil, beq_self_eq_true, Bool.true_and, Bool.and_true]
theorem same_call (v : Vl) (t n : List UInt8) : (E.mk wCall v t n []).same (.mk wCall v0 [] n []) = (v == v0 && (t == [])) := by simp [E.same, E.sameL]
theorem same_op (o : List UInt8) (v : Vl) (t n : List UInt8) : (E.mk o v t n []).same (.mk o v0 [] [] []) = (v == v0 && (t == []) && (n == [])) := by simp [E.same, E.sameL]
set_option maxRecDepth 100000 in
set_option maxHeartbeats 8000000 in
theorem may_lit (v : Vl) (t n : List UInt8) (l : List E) (x : Value) (S : Nat → Prop) (w : World) (hx : EAt S w (.mk wLit v t n l) x) : Calls Tryz.prog 68 #[x] w fun r w' => r = .returned (.bool ((E.mk wLit v t n l).may)) ∧ Below w.heap.size w w' := by
  obtain ⟨A, c, rfl, hs⟩ := hx
  simp only [E.op, E.v, E.tb, E.nm, E.l, eVal] at *
  obtain ⟨W1, V6, V7, W4, hW1, hV6, hV7, hW4, z1, q1, t6, t7, q4, u4, b4, y4⟩ := own7 w (.string (str wLit)) (.int .i64 v.k) (.int .i64 v.i) (.string (str v.s)) (.string (str t)) (.string (str n)) (.slice A l.length c)
  have hE4 : EAt S W4 (.mk wLit v t n l) (.agg #[.string (str wLit), .int .i64 v.k, .int .i64 v.i, .string (str v.s), .string (str t), .string (str n), .slice A l.length c]) := ⟨A, c, rfl, sub_later hs b4⟩
  have HC := Lib.hid (eSame_any _ _ _ _ S (fun _ => False) W4 hE4 (lit_at (fun _ => False) W4 wLit v [] []))
  rw [same_lit] at HC
  have HV := Lib.hid (fun W => BV.check_any v.k v.i (str v.s) W)
  have hmay : (E.mk wLit v t n l).may = ((t == [] && (n == []) && l.isEmpty) && v.may) := by simp only [E.may, if_true]
  rw [hmay]
  obtain ⟨a0, a1, a2, a3, a4, a5, a6⟩ := q1.cells
  obtain ⟨b0, b1, b2, b3, b4', b5, b6⟩ := t6.cells
  obtain ⟨f0, f1, f2, f3, f4, f5, f6⟩ := t6.free
  obtain ⟨g0, g1, g2, g3, g4, g5, g6⟩ := t7.free
  obtain ⟨c0, c1, c2, c3, c4, c5, c6⟩ := t7.cells
  obtain ⟨d0, d1, d2, d3, d4, d5, d6⟩ := q4.cells
  have HB := Lib.hid b4
  have HW1 := Lib.hid hW1
  have HV6 := Lib.hid hV6
  have HV7 := Lib.hid hV7
  have HW4 := Lib.hid hW4
  have HZ := Lib.hid y4
  have HM : Hid (v.may = BV.mayB v.k v.i (str v.s)) := rfl
  generalize (t == [] && (n == []) && l.isEmpty) = p1 at *
  have hso : str wLit = ⟨#[108, 105, 116]⟩ := rfl
  simp only [hso, str_nil0] at *
  generalize v.may = p2 at *
  clear hW1 hV6 hV7 hW4 q1 t6 t7 q4 u4 b4 hE4 hs hmay
  generalize str v.s = bs at *
  generalize v.k = vk at *
  generalize v.i = vi at *
  generalize str t = bt at *
  generalize str n = bn at *
  generalize l.length = ln at *
  cases p1
  · simp only [Bool.false_and]
    clear HV HM
    go_enter Tryz.func68, Tryz.ntmps68
    go_wp2_with (first | (rw [← HW4.out]) | (rw [← HV7.out]) | (rw [← HV6.out]) | (rw [← HW1.out]))
    refine (HC.out).mono ?_
    rintro e w3 ⟨rfl, b3⟩
    have HB3 := Lib.hid (bthen HB.out b3)
    clear b3
    go_wp2_with fail
    go_ret
    exact ⟨rfl, HB3.out⟩
  · simp only [Bool.true_and]
    go_enter Tryz.func68, Tryz.ntmps68
    go_wp2_with (first | (rw [← HW4.out]) | (rw [← HV7.out]) | (rw [← HV6.out]) | (rw [← HW1.out]))
    refine (HC.out).mono ?_
    rintro e w3 ⟨rfl, b3⟩
    have HB3 := Lib.hid (bthen HB.out b3)
    have hz := HZ.out
    replace d1 := (b3.cell (p := ⟨w.heap.size, 1, none⟩) (by show w.heap.size < _; omega)).trans d1
    replace d2 := (b3.cell (p := ⟨w.heap.size, 2, none⟩) (by show w.heap.size < _; omega)).trans d2
    replace d3 := (b3.cell (p := ⟨w.heap.size, 3, none⟩) (by show w.heap.size < _; omega)).trans d3
    clear b3 hz
    go_wp2_with fail
    refine (HV.out _).mono ?_
    rintro e w5 ⟨rfl, b5⟩
    have HB5 := Lib.hid (bthen HB3.out b5)
    have hm := HM.out
    unfold BV.chkI
    rw [← hm]
    clear b5 hm HM HV
    cases p2
    · simp only [Bool.false_eq_true, if_false]
      go_wp2_with fail
      go_ret
      exact ⟨rfl, HB5.out⟩
    · simp only [if_true]
      go_wp2_with fail
      go_ret
      exact ⟨rfl, HB5.out⟩
end Go.Proofs.YtcmbdghbicjljaaGreatDoor
namespace Go.Proofs.YtcmbdghbicjljaaGreatDoor
open Go.RowKit
set_option maxRecDepth 100000 in
set_option maxHeartbeats 8000000 in
theorem may_col (v : Vl) (t n : List UInt8) (l : List E) (x : Value) (S : Nat → Prop) (w : World) (hx : EAt S w (.mk wCol v t n l) x) (ht : t.length ≤ 1000000) (hn : n.length ≤ 1000000) : Calls Tryz.prog 68 #[x] w fun r w' => r = .returned (.bool ((E.mk wCol v t n l).may)) ∧ Below w.heap.size w w' := by
  obtain ⟨A, c, rfl, hs⟩ := hx
  simp only [E.op, E.v, E.tb, E.nm, E.l, eVal] at *
  obtain ⟨W1, V6, V7, W4, hW1, hV6, hV7, hW4, z1, q1, t6, t7, q4, u4, b4, y4⟩ := own7 w (.string (str wCol)) (.int .i64 v.k) (.int .i64 v.i) (.string (str v.s)) (.string (str t)) (.string (str n)) (.slice A l.length c)
  have hE4 : EAt S W4 (.mk wCol v t n l) (.agg #[.string (str wCol), .int .i64 v.k, .int .i64 v.i, .string (str v.s), .string (str t), .string (str n), .slice A l.length c]) := ⟨A, c, rfl, sub_later hs b4⟩
  have HC := Lib.hid (eSame_any _ _ _ _ S (fun _ => False) W4 hE4 (lit_at (fun _ => False) W4 wCol v0 t n))
  rw [same_col] at HC
  have HN := Lib.hid (fun W => isName_any (str n) W (by rw [str_size]; omega))
  have HT := Lib.hid (fun W => isName_any (str t) W (by rw [str_size]; omega))
  have hmay : (E.mk wCol v t n l).may = ((v == v0 && l.isEmpty) && nameB n && (t == [] || nameB t)) := by simp only [E.may]; rw [if_neg (by decide), if_pos trivial]
  rw [hmay]
  have hte : ((str t).toList == []) = (t == []) := by rw [Lib.toList_data, str_list]
  simp only [str_list] at HN HT
  obtain ⟨a0, a1, a2, a3, a4, a5, a6⟩ := q1.cells
  obtain ⟨b0, b1, b2, b3, b4', b5, b6⟩ := t6.cells
  obtain ⟨f0, f1, f2, f3, f4, f5, f6⟩ := t6.free
  obtain ⟨g0, g1, g2, g3, g4, g5, g6⟩ := t7.free
  obtain ⟨c0, c1, c2, c3, c4, c5, c6⟩ := t7.cells
  obtain ⟨d0, d1, d2, d3, d4, d5, d6⟩ := q4.cells
  have HB := Lib.hid b4
  have HW1 := Lib.hid hW1
  have HV6 := Lib.hid hV6
  have HV7 := Lib.hid hV7
  have HW4 := Lib.hid hW4
  have HZ := Lib.hid y4
  generalize (v == v0 && l.isEmpty) = p1 at *
  have hso : str wCol = ⟨#[99, 111, 108]⟩ := rfl
  have hv0 : v0.k = 0 ∧ v0.i = 0 ∧ str v0.s = ⟨#[]⟩ := ⟨rfl, rfl, rfl⟩
  simp only [hso, hv0.1, hv0.2.1, hv0.2.2] at *
  generalize nameB n = p2 at *
  generalize nameB t = p3 at *
  generalize (t == []) = p4 at *
  clear hW1 hV6 hV7 hW4 q1 t6 t7 q4 u4 b4 hE4 hs hmay ht hn hv0
  generalize str v.s = bs at *
  generalize v.k = vk at *
  generalize v.i = vi at *
  generalize str t = bt at *
  generalize str n = bn at *
  generalize l.length = ln at *
  cases p1
  · simp only [Bool.false_and]
    clear HN HT
    go_enter Tryz.func68, Tryz.ntmps68
    go_wp2_with (first | (rw [← HW4.out]) | (rw [← HV7.out]) | (rw [← HV6.out]) | (rw [← HW1.out]))
    refine (HC.out).mono ?_
    rintro e w3 ⟨rfl, b3⟩
    have HB3 := Lib.hid (bthen HB.out b3)
    clear b3
    go_wp2_with fail
    go_ret
    exact ⟨rfl, HB3.out⟩
  · simp only [Bool.true_and]
    cases p2
    · simp only [Bool.false_and]
      go_enter Tryz.func68, Tryz.ntmps68
      go_wp2_with (first | (rw [← HW4.out]) | (rw [← HV7.out]) | (rw [← HV6.out]) | (rw [← HW1.out]))
      refine (HC.out).mono ?_
      rintro e w3 ⟨rfl, b3⟩
      have HB3 := Lib.hid (bthen HB.out b3)
      have hz := HZ.out
      replace d5 := (b3.cell (p := ⟨w.heap.size, 5, none⟩) (by show w.heap.size < _; omega)).trans d5
      clear b3 hz
      go_wp2_with fail
      refine (HN.out _).mono ?_
      rintro e w5 ⟨rfl, b5⟩
      have HB5 := Lib.hid (bthen HB3.out b5)
      clear b5 HN HT
      go_wp2_with fail
      go_ret
      exact ⟨rfl, HB5.out⟩
    · simp only [Bool.true_and]
      cases p4
      · simp only [Bool.false_or]
        go_enter Tryz.func68, Tryz.ntmps68
        go_wp2_with (first | (rw [← HW4.out]) | (rw [← HV7.out]) | (rw [← HV6.out]) | (rw [← HW1.out]))
        refine (HC.out).mono ?_
        rintro e w3 ⟨rfl, b3⟩
        have HB3 := Lib.hid (bthen HB.out b3)
        have hz := HZ.out
        have hz3 := b3.size
        replace d5 := (b3.cell (p := ⟨w.heap.size, 5, none⟩) (by show w.heap.size < _; omega)).trans d5
        replace d4 := (b3.cell (p := ⟨w.heap.size, 4, none⟩) (by show w.heap.size < _; omega)).trans d4
        clear b3
        go_wp2_with fail
        refine (HN.out _).mono ?_
        rintro e w5 ⟨rfl, b5⟩
        have HB5 := Lib.hid (bthen HB3.out b5)
        replace d4 := (b5.cell (p := ⟨w.heap.size, 4, none⟩) (by show w.heap.size < _; omega)).trans d4
        clear b5 HN hz hz3
        go_wp2_with fail
        refine (HT.out _).mono ?_
        rintro e w7 ⟨rfl, b7⟩
        have HB7 := Lib.hid (bthen HB5.out b7)
        clear b7 HT
        go_wp2_with fail
        go_ret
        exact ⟨rfl, HB7.out⟩
      · simp only [Bool.true_or]
        go_enter Tryz.func68, Tryz.ntmps68
        go_wp2_with (first | (rw [← HW4.out]) | (rw [← HV7.out]) | (rw [← HV6.out]) | (rw [← HW1.out]))
        refine (HC.out).mono ?_
        rintro e w3 ⟨rfl, b3⟩
        have HB3 := Lib.hid (bthen HB.out b3)
        have hz := HZ.out
        have hz3 := b3.size
        replace d5 := (b3.cell (p := ⟨w.heap.size, 5, none⟩) (by show w.heap.size < _; omega)).trans d5
        replace d4 := (b3.cell (p := ⟨w.heap.size, 4, none⟩) (by show w.heap.size < _; omega)).trans d4
        clear b3
        go_wp2_with fail
        refine (HN.out _).mono ?_
        rintro e w5 ⟨rfl, b5⟩
        have HB5 := Lib.hid (bthen HB3.out b5)
        replace d4 := (b5.cell (p := ⟨w.heap.size, 4, none⟩) (by show w.heap.size < _; omega)).trans d4
        clear b5 HN hz hz3 HT
        go_wp2_with fail
        go_ret
        exact ⟨rfl, HB5.out⟩
end Go.Proofs.YtcmbdghbicjljaaGreatDoor
