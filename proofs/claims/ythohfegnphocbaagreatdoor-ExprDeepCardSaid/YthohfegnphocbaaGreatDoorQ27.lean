/- The deferred closure of At: what it does where reading gave up, was too deep, or ended. No condition. -/
import Derived.Test.YthohfegnphocbaaGreatDoorQ15
import Derived.Defers
import Derived.Recover
import Derived.Test.YthohfegnphocbaaGreatDoorQ26
import Derived.Test.YthohfegnphocbaaGreatDoorQ09
import Derived.Test.YthohfegnphocbaaGreatDoorQ11
namespace Go.Proofs.YthohfegnphocbaaGreatDoor
open Go.RowKit
def B1 (w : World) (b : Nat) (t : TypeId) (v : Value) : Prop := w.heap[b]? = some (.cells #[v] t (0, 0))
theorem B1.cell {w : World} {b : Nat} {t : TypeId} {v : Value} (h : B1 w b t v) : w.cell? ⟨b, 0, none⟩ = some v := by rw [Lib.cell_of_heap h]; rfl
theorem B1.free {w : World} {b : Nat} {t : TypeId} {v : Value} (h : B1 w b t v) : w.frozen? ⟨b, 0, none⟩ = false := Lib.frozen_of_heap h 0
theorem B1.lt {w : World} {b : Nat} {t : TypeId} {v : Value} (h : B1 w b t v) : b < w.heap.size := (Array.getElem?_eq_some_iff.1 h).1
theorem B1.same {w w' : World} {b : Nat} {t : TypeId} {v : Value} (h : B1 w b t v) (hb : w'.heap[b]? = w.heap[b]?) : B1 w' b t v := hb.trans h
theorem B1.set {w : World} {b : Nat} {t : TypeId} {v : Value} (h : B1 w b t v) (u : Value) : B1 (w.setCell ⟨b, 0, none⟩ u) b t u := by
  have := heap_set_same u (o := 0) h
  unfold B1
  simpa only [List.setIfInBounds_toArray, List.set_cons_zero] using this
theorem wpS_gen {P : Program} {c : Code} {Q : Exit → Act → List Frame → World → Prop} {a : Act} {cs : List Frame} {w : World} (h : ∀ Q' : Exit → Act → List Frame → World → Prop, (∀ e a cs w, Q e a cs w → Q' e a cs w) → c.wpS P Q' a cs w) : c.wpS P Q a cs w := h Q (fun _ _ _ _ h => h)
theorem tmps_at (a b c d v : Value) : #[a, b, c, d] ++ (Array.replicate 17 undef).setIfInBounds 4 v = #[a, b, c, d, undef, undef, undef, undef, v, undef, undef, undef, undef, undef, undef, undef, undef, undef, undef, undef, undef] := by
  generalize undef = u
  apply Array.ext'
  simp [List.replicate]
theorem wp_gen {P : Program} {c : Code} {Q : Exit → Act → World → Prop} {a : Act} {w : World} (h : ∀ Q' : Exit → Act → World → Prop, (∀ e a w, Q e a w → Q' e a w) → c.wp P Q' a w) : c.wp P Q a w := h Q (fun _ _ _ h => h)
theorem three {w : World} {B : Nat} {x0 x1 x2 x3 x4 x5 x6 u5 u6 : Value} (h4 : B7 w (B + 1) x0 x1 x2 x3 x4 x5 x6) (h5 : B1 w (B + 2) 3 u5) (h6 : B1 w (B + 3) 28 u6) (c0 c1 c2 c3 c4 c5 c6 y5 y6 : Value) :
    ∃ W1 W2 W3 : World, W1 = (((((((w.setCell ⟨B + 1, 0, none⟩ c0).setCell ⟨B + 1, 1, none⟩ c1).setCell ⟨B + 1, 2, none⟩ c2).setCell ⟨B + 1, 3, none⟩ c3).setCell ⟨B + 1, 4, none⟩ c4).setCell ⟨B + 1, 5, none⟩ c5).setCell ⟨B + 1, 6, none⟩ c6) ∧
      W2 = W1.setCell ⟨B + 2, 0, none⟩ y5 ∧ W3 = W2.setCell ⟨B + 3, 0, none⟩ y6 ∧ B1 W1 (B + 2) 3 u5 ∧ B1 W2 (B + 3) 28 u6 ∧
      B7 W3 (B + 1) c0 c1 c2 c3 c4 c5 c6 ∧ B1 W3 (B + 2) 3 y5 ∧ B1 W3 (B + 3) 28 y6 ∧ Below B w W3 ∧ W3.heap.size = w.heap.size ∧ ∀ k, k ≠ B + 1 → k ≠ B + 2 → k ≠ B + 3 → W3.heap[k]? = w.heap[k]? := by
  obtain ⟨W1, hW1, q1, z1, o1, b1⟩ := stored7 h4 c0 c1 c2 c3 c4 c5 c6
  have k5 : B1 W1 (B + 2) 3 u5 := h5.same (o1 _ (by omega))
  have k6 : B1 (W1.setCell ⟨B + 2, 0, none⟩ y5) (B + 3) 28 u6 := h6.same ((Below.heap_setCell _ _ _ _ (by show B + 3 ≠ B + 2; omega)).trans (o1 _ (by omega)))
  refine ⟨W1, _, _, hW1, rfl, rfl, k5, k6, ?_, ?_, k6.set y6, ?_, ?_, ?_⟩
  · exact q1.same ((Below.heap_setCell _ _ _ _ (by show B + 1 ≠ B + 3; omega)).trans (Below.heap_setCell _ _ _ _ (by show B + 1 ≠ B + 2; omega)))
  · exact (k5.set y5).same (Below.heap_setCell _ _ _ _ (by show B + 2 ≠ B + 3; omega))
  · exact ((b1 B (by omega)).setCell (p := ⟨B + 2, 0, none⟩) (by show B ≤ B + 2; omega) _).setCell (p := ⟨B + 3, 0, none⟩) (by show B ≤ B + 3; omega) _
  · rw [size_setCell, size_setCell, z1]
  · intro k h1 h2 h3
    rw [Below.heap_setCell _ _ _ _ h3, Below.heap_setCell _ _ _ _ h2, o1 k h1]
theorem ta_same (v : Value) (w : World) : (Instr.typeAssert (.iface 56 v) 20 56 true).run Tryz.prog w = .ok (.tuple #[v, .bool true]) w := by
  simp [Instr.typeAssert, run_underlying Tryz.underlying56, go_sem, Result.andThen]
theorem ta_deep (v : Value) (w : World) : (Instr.typeAssert (.iface 58 v) 20 58 true).run Tryz.prog w = .ok (.tuple #[v, .bool true]) w := by
  simp [Instr.typeAssert, run_underlying Tryz.underlying58, go_sem, Result.andThen]
theorem info56 : (Tryz.prog.info? 56).map (fun i => (i.zero, i.size, i.bytes)) = some (some (.int .i64 0), 1, 8) := by kernel_rfl
theorem ta_other (v : Value) (w : World) : (Instr.typeAssert (.iface 58 v) 20 56 true).run Tryz.prog w = .ok (.tuple #[.int .i64 0, .bool false]) w := by
  obtain ⟨i0, hi, hz0, hz1, hz2⟩ := info_parts info56
  simp [Instr.typeAssert, run_underlying Tryz.underlying56, go_sem, Result.andThen, zeroValue, typeInfo, hi, hz0]
set_option maxRecDepth 100000 in
theorem catch_idle (B : Nat) (w : World) :
    CallsD Tryz.prog 33 #[.pointer (some ⟨B + 1, 0, none⟩), .pointer (some ⟨B + 2, 0, none⟩), .pointer (some ⟨B + 3, 0, none⟩), .pointer (some ⟨B, 0, none⟩)] .returning w fun e u' w' => e = .returned (.tuple #[]) ∧ u' = .returning ∧ w' = w := by
  have a1 := ta_same
  have a2 := ta_deep
  have a3 := ta_other
  refine callsD_of_wpS Tryz.func33 rfl fun c₀ cs hu => ?_
  refine wpS_gen fun Q1 hQ1 => ?_
  apply wpS_seq
  refine wpS_gen fun Q2 hQ2 => ?_
  apply wpS_region
  simp [wpOpsS, go_sem, recoverD, hu, Tryz.ntmps33]
  rw [tmps_at]
  apply hQ2
  clear hQ2 Q2
  refine wpS_of_wp ?_
  refine wp_gen fun Q hQ => ?_
  go_wp2_with fail
  refine ⟨rfl, .returning, ?_, .tuple #[], by simp [results, Tryz.results33], rfl, rfl, rfl⟩
  cases c₀
  simp_all
set_option maxRecDepth 100000 in
set_option maxHeartbeats 4000000 in
theorem catch_misplaced {B : Nat} {w : World} {x0 x1 x2 x3 x4 x5 x6 u5 u6 : Value} (h4 : B7 w (B + 1) x0 x1 x2 x3 x4 x5 x6) (h5 : B1 w (B + 2) 3 u5) (h6 : B1 w (B + 3) 28 u6) (q : Int) :
    CallsD Tryz.prog 33 #[.pointer (some ⟨B + 1, 0, none⟩), .pointer (some ⟨B + 2, 0, none⟩), .pointer (some ⟨B + 3, 0, none⟩), .pointer (some ⟨B, 0, none⟩)] (.panicking [{ v := .iface 56 (.int .i64 q), recovered := false }]) w fun e u' w' => e = .returned (.tuple #[]) ∧ u' = .panicking [{ v := .iface 56 (.int .i64 q), recovered := true }] ∧
      B7 w' (B + 1) (.string ⟨#[]⟩) (.int .i64 0) (.int .i64 0) (.string ⟨#[]⟩) (.string ⟨#[]⟩) (.string ⟨#[]⟩) (.slice none 0 0) ∧ B1 w' (B + 2) 3 (.int .i64 q) ∧ B1 w' (B + 3) 28 (.int .i64 70) ∧ Below B w w' := by
  obtain ⟨W1, W2, W3, hW1, hW2, hW3, g5, g6, g4, r5, r6, hb, hz, ho⟩ := three h4 h5 h6 (.string ⟨#[]⟩) (.int .i64 0) (.int .i64 0) (.string ⟨#[]⟩) (.string ⟨#[]⟩) (.string ⟨#[]⟩) (.slice none 0 0) (.int .i64 q) (.int .i64 70)
  have HW1 := Lib.hid hW1
  have HW2 := Lib.hid hW2
  have HW3 := Lib.hid hW3
  obtain ⟨k0, k1, k2, k3, k4, k5, k6⟩ := h4.cells
  obtain ⟨f0, f1, f2, f3, f4, f5, f6⟩ := h4.free
  have c5 := g5.cell
  have c6 := g6.cell
  have y5 := g5.free
  have y6 := g6.free
  have HR := Lib.hid (And.intro g4 (And.intro r5 (And.intro r6 hb)))
  clear hW1 hW2 hW3 g4 r5 r6 hb hz ho
  have a1 := ta_same
  have a2 := ta_deep
  have a3 := ta_other
  refine callsD_of_wpS Tryz.func33 rfl fun c₀ cs hu => ?_
  refine wpS_gen fun Q1 hQ1 => ?_
  apply wpS_seq
  refine wpS_gen fun Q2 hQ2 => ?_
  apply wpS_region
  simp [wpOpsS, go_sem, recoverD, hu, Tryz.ntmps33]
  rw [tmps_at]
  apply hQ2
  clear hQ2 Q2
  refine wpS_of_wp ?_
  refine wp_gen fun Q hQ => ?_
  go_wp2_with (first | (rw [← HW3.out]) | (rw [← HW2.out]) | (rw [← HW1.out]))
  exact ⟨rfl, _, rfl, .tuple #[], by simp [results, Tryz.results33], rfl, rfl, HR.out⟩
set_option maxRecDepth 100000 in
set_option maxHeartbeats 4000000 in
theorem catch_deep {B : Nat} {w : World} {x0 x1 x2 x3 x4 x5 x6 u5 u6 : Value} {i : Nat} (h3 : B1 w B 3 (.int .i64 i)) (h4 : B7 w (B + 1) x0 x1 x2 x3 x4 x5 x6) (h5 : B1 w (B + 2) 3 u5) (h6 : B1 w (B + 3) 28 u6) :
    CallsD Tryz.prog 33 #[.pointer (some ⟨B + 1, 0, none⟩), .pointer (some ⟨B + 2, 0, none⟩), .pointer (some ⟨B + 3, 0, none⟩), .pointer (some ⟨B, 0, none⟩)] (.panicking [{ v := .iface 58 (.agg #[]), recovered := false }]) w fun e u' w' => e = .returned (.tuple #[]) ∧ u' = .panicking [{ v := .iface 58 (.agg #[]), recovered := true }] ∧
      B7 w' (B + 1) (.string ⟨#[]⟩) (.int .i64 0) (.int .i64 0) (.string ⟨#[]⟩) (.string ⟨#[]⟩) (.string ⟨#[]⟩) (.slice none 0 0) ∧ B1 w' (B + 2) 3 (.int .i64 i) ∧ B1 w' (B + 3) 28 (.int .i64 3) ∧ Below B w w' := by
  have hw := h6.lt
  have hb0 := (Below.refl w.heap.size w).alloc (Nat.le_refl _) (.cells #[] 58)
  obtain ⟨W0, hW0⟩ : ∃ W0, W0 = w.alloc (.cells #[] 58) := ⟨_, rfl⟩
  rw [← hW0] at hb0
  have s := fun k (hk : k < w.heap.size) => hb0.block k hk
  have h3' := h3.same (s _ h3.lt)
  obtain ⟨W1, W2, W3, hW1, hW2, hW3, g5, g6, g4, r5, r6, hb, hz, ho⟩ := three (h4.same (s _ h4.lt)) (h5.same (s _ h5.lt)) (h6.same (s _ h6.lt)) (.string ⟨#[]⟩) (.int .i64 0) (.int .i64 0) (.string ⟨#[]⟩) (.string ⟨#[]⟩) (.string ⟨#[]⟩) (.slice none 0 0) (.int .i64 i) (.int .i64 3)
  have HW0 := Lib.hid hW0
  have HW1 := Lib.hid hW1
  have HW2 := Lib.hid hW2
  have HW3 := Lib.hid hW3
  have c3 := h3'.cell
  obtain ⟨k0, k1, k2, k3, k4, k5, k6⟩ := (h4.same (s _ h4.lt)).cells
  obtain ⟨f0, f1, f2, f3, f4, f5, f6⟩ := (h4.same (s _ h4.lt)).free
  have c5 := g5.cell
  have c6 := g6.cell
  have y5 := g5.free
  have y6 := g6.free
  have HR := Lib.hid (And.intro g4 (And.intro r5 (And.intro r6 ((hb0.mono (by omega)).trans hb))))
  clear hW0 hW1 hW2 hW3 g4 r5 r6 hb hz ho s hb0
  have a1 := ta_same
  have a2 := ta_deep
  have a3 := ta_other
  refine callsD_of_wpS Tryz.func33 rfl fun c₀ cs hu => ?_
  refine wpS_gen fun Q1 hQ1 => ?_
  apply wpS_seq
  refine wpS_gen fun Q2 hQ2 => ?_
  apply wpS_region
  simp [wpOpsS, go_sem, recoverD, hu, Tryz.ntmps33]
  rw [tmps_at]
  apply hQ2
  clear hQ2 Q2
  refine wpS_of_wp ?_
  refine wp_gen fun Q hQ => ?_
  go_wp2_with (first | (rw [← HW3.out]) | (rw [← HW2.out]) | (rw [← HW1.out]) | (rw [← HW0.out]))
  exact ⟨rfl, _, rfl, .tuple #[], by simp [results, Tryz.results33], rfl, rfl, HR.out⟩
end Go.Proofs.YthohfegnphocbaaGreatDoor
namespace Go.Proofs.YthohfegnphocbaaGreatDoor
open Go.RowKit
noncomputable def atX (ts : List T) (i : Nat) : E × Nat × Int := match ln resB 1 (ts.drop i) with
  | .error q => (e0, i + q, 70)
  | .ok (a, m) => if 40 < a.deep then (e0, i, 3) else (a, i + m, 0)
theorem made60 (w : World) (c0 c1 c2 : Value) : ∃ W1 W : World, W1 = w.alloc (.cells #[.slice none 0 0, .int .i64 0, .bool false] 60) ∧ W = (((W1.setCell ⟨w.heap.size, 0, none⟩ c0).setCell ⟨w.heap.size, 1, none⟩ c1).setCell ⟨w.heap.size, 2, none⟩ c2) ∧
    W1.heap[w.heap.size]? = some (.cells #[.slice none 0 0, .int .i64 0, .bool false] 60 (0, 0)) ∧ W.heap[w.heap.size]? = some (.cells #[c0, c1, c2] 60 (0, 0)) ∧ W.heap.size = w.heap.size + 1 ∧ Below w.heap.size w W := by
  have h := heap_alloc_new w (.cells #[.slice none 0 0, .int .i64 0, .bool false] 60)
  have h0 := heap_set_same c0 (o := 0) h
  have h1 := heap_set_same c1 (o := 1) h0
  have h2 := heap_set_same c2 (o := 2) h1
  refine ⟨_, _, rfl, rfl, h, by simpa only [List.setIfInBounds_toArray, List.set_cons_zero, List.set_cons_succ] using h2, by simp, ?_⟩
  exact ((((Below.refl w.heap.size w).alloc (Nat.le_refl _) _).setCell (p := ⟨w.heap.size, 0, none⟩) (Nat.le_refl _) _).setCell (p := ⟨w.heap.size, 1, none⟩) (Nat.le_refl _) _).setCell (p := ⟨w.heap.size, 2, none⟩) (Nat.le_refl _) _
set_option maxRecDepth 100000 in
set_option maxHeartbeats 16000000 in
theorem atE_any {ts : List T} (hT : Toks ts) (w : World) (A : Option Addr) (c i : Nat) (hi : i < ts.length) (hA : TAt w w.heap.size A ts) :
    Calls Tryz.prog 14 #[.slice A ts.length c, .int .i64 i] w fun e w' => ∃ y, e = .returned (.tuple #[y, .int .i64 (atX ts i).2.1, .int .i64 (atX ts i).2.2]) ∧ EAt (fun k => w.heap.size ≤ k) w' (atX ts i).1 y ∧ Below w.heap.size w w' := by
  have hmf : ∀ (fn : Fn) (first cap : Array Value) (w : World), (Instr.makeFunc fn first cap).run Tryz.prog w = .ok (.func fn first cap) w := fun _ _ _ _ => rfl
  obtain ⟨W1, hW1⟩ : ∃ W1, W1 = w.alloc (.cells #[.int .i64 i] 3) := ⟨_, rfl⟩
  have p1 : B1 W1 w.heap.size 3 (.int .i64 i) := by rw [hW1]; exact heap_alloc_new w _
  have z1 : W1.heap.size = w.heap.size + 1 := by rw [hW1]; simp
  have r1 : Below w.heap.size w W1 := by rw [hW1]; exact (Below.refl w.heap.size w).alloc (Nat.le_refl _) _
  obtain ⟨W2, hW2, q2, z2', r2⟩ := zero7 W1
  rw [z1] at q2
  have z2 : W2.heap.size = w.heap.size + 2 := by omega
  clear z2'
  obtain ⟨W3, hW3⟩ : ∃ W3, W3 = W2.alloc (.cells #[.int .i64 0] 3) := ⟨_, rfl⟩
  have p3 : B1 W3 (w.heap.size + 2) 3 (.int .i64 0) := by rw [hW3]; have := heap_alloc_new W2 (.cells #[.int .i64 0] 3); rwa [z2] at this
  have z3 : W3.heap.size = w.heap.size + 3 := by rw [hW3]; simp [z2]
  have r3 : Below W2.heap.size W2 W3 := by rw [hW3]; exact (Below.refl W2.heap.size W2).alloc (Nat.le_refl _) _
  obtain ⟨W4, hW4⟩ : ∃ W4, W4 = W3.alloc (.cells #[.int .i64 0] 28) := ⟨_, rfl⟩
  have p4 : B1 W4 (w.heap.size + 3) 28 (.int .i64 0) := by rw [hW4]; have := heap_alloc_new W3 (.cells #[.int .i64 0] 28); rwa [z3] at this
  have z4 : W4.heap.size = w.heap.size + 4 := by rw [hW4]; simp [z3]
  have r4 : Below W3.heap.size W3 W4 := by rw [hW4]; exact (Below.refl W3.heap.size W3).alloc (Nat.le_refl _) _
  obtain ⟨W5, W6, hW5, hW6, h5, h6, z6', r6⟩ := made60 W4 (.slice A ts.length c) (.int .i64 i) (.bool false)
  have z6 : W6.heap.size = w.heap.size + 5 := by omega
  clear z6'
  rw [z4] at h5 h6 hW6
  have x0 : W5.cell? ⟨w.heap.size + 4, 0, none⟩ = some (.slice none 0 0) := by rw [Lib.cell_of_heap h5]; rfl
  have x1 : W5.cell? ⟨w.heap.size + 4, 1, none⟩ = some (.int .i64 0) := by rw [Lib.cell_of_heap h5]; rfl
  have x2 : W5.cell? ⟨w.heap.size + 4, 2, none⟩ = some (.bool false) := by rw [Lib.cell_of_heap h5]; rfl
  have X0 := Lib.frozen_of_heap h5 0
  have X1 := Lib.frozen_of_heap h5 1
  have X2 := Lib.frozen_of_heap h5 2
  have b46 : Below w.heap.size w W6 := (((r1.trans (r2.mono (by omega))).trans (r3.mono (by omega))).trans (r4.mono (by omega))).trans (r6.mono (by omega))
  have k1 : B1 W6 w.heap.size 3 (.int .i64 i) := p1.same (((((r6.mono (by omega : w.heap.size + 4 ≤ _)).block _ (by omega)).trans (r4.block _ (by omega))).trans (r3.block _ (by omega))).trans (r2.block _ (by omega)))
  have k2 : B7 W6 (w.heap.size + 1) (.string ⟨#[]⟩) (.int .i64 0) (.int .i64 0) (.string ⟨#[]⟩) (.string ⟨#[]⟩) (.string ⟨#[]⟩) (.slice none 0 0) := ((q2.later r3).later r4).later r6
  have k3 : B1 W6 (w.heap.size + 2) 3 (.int .i64 0) := p3.same ((r6.block _ (by omega)).trans (r4.block _ (by omega)))
  have k4 : B1 W6 (w.heap.size + 3) 28 (.int .i64 0) := p4.same (r6.block _ (by omega))
  have c1 : W4.cell? ⟨w.heap.size, 0, none⟩ = some (.int .i64 i) := (p1.same (((r4.block _ (by omega)).trans (r3.block _ (by omega))).trans (r2.block _ (by omega)))).cell
  have R6 : RS W6 (w.heap.size + 4) ts A c i false := ⟨h6, by
    intro h0
    obtain ⟨g, off, q1, q2, q3⟩ := (hA.below b46) h0
    exact ⟨g, off, q1, by omega, q3⟩, hi⟩
  have HL := Lib.hid (line_ok hT (ts.length + 1) 1 i (by omega) (by omega) (by omega) W6 (w.heap.size + 4) A c false R6)
  unfold atX
  have HW1 := Lib.hid hW1
  have HW2 := Lib.hid hW2
  have HW3 := Lib.hid hW3
  have HW4 := Lib.hid hW4
  have HW5 := Lib.hid hW5
  have HW6 := Lib.hid hW6
  have H46 := Lib.hid b46
  have K1 := Lib.hid k1
  have K2 := Lib.hid k2
  have K3 := Lib.hid k3
  have K4 := Lib.hid k4
  have Z6 := Lib.hid z6
  clear hW1 hW2 hW3 hW4 hW5 hW6 p1 p3 p4 q2 r1 r2 r3 r4 r6 k1 k2 k3 k4 b46 h5 h6 R6 hA z6
  generalize ln resB 1 (ts.drop i) = xn at *
  rcases xn with q | ⟨a, m⟩
  · simp only
    go_enter_defers Tryz.func14, Tryz.ntmps14
    go_wp2_with (first | (rw [← HW6.out]) | (rw [← HW5.out]) | (rw [← HW4.out]) | (rw [← HW3.out]) | (rw [← HW2.out]) | (rw [← HW1.out]))
    refine (HL.out).mono ?_
    rintro e w7 ⟨rfl, b7⟩
    unfold gone
    have HB7 := Lib.hid b7
    clear b7
    go_wp2_with fail
    have b := HB7.out
    refine leaves_cons (f := 33) (args := #[.pointer (some ⟨w.heap.size + 1, 0, none⟩), .pointer (some ⟨w.heap.size + 2, 0, none⟩), .pointer (some ⟨w.heap.size + 3, 0, none⟩), .pointer (some ⟨w.heap.size, 0, none⟩)]) (by simp) (by simp [go_sem]) ?_
    have hz := Z6.out
    refine (catch_misplaced (B := w.heap.size) (b.seven K2.out (by omega)) (K3.out.same (b.block _ (by omega) (by omega))) (K4.out.same (b.block _ (by omega) (by omega))) _).mono ?_
    rintro e u' w8 ⟨rfl, rfl, g7, g5, g6, b8⟩
    obtain ⟨l0, l1, l2, l3, l4, l5, l6⟩ := g7.cells
    have l7 := g5.cell
    have l8 := g6.cell
    have hfin : Below w.heap.size w w8 := (H46.out.trans (b.below (by omega) |>.mono (by omega))).trans b8
    clear hz
    simp [Leaves, settle, results, Tryz.results14, go_sem, l0, l1, l2, l3, l4, l5, l6, l7, l8]
    first | exact hfin | exact ⟨_, rfl, e0_at _ _, hfin⟩ | exact ⟨e0_at _ _, hfin⟩
  · simp only
    have HD : Hid (tooDp false a = decide (40 < a.deep)) := rfl
    by_cases h40 : 40 < a.deep
    all_goals
      simp only [h40, if_true, if_false]
      go_enter_defers Tryz.func14, Tryz.ntmps14
      go_wp2_with (first | (rw [← HW6.out]) | (rw [← HW5.out]) | (rw [← HW4.out]) | (rw [← HW3.out]) | (rw [← HW2.out]) | (rw [← HW1.out]))
      refine (HL.out).mono ?_
      rintro e w7 ⟨⟨y, rfl, g7, R7⟩, b7⟩
      obtain ⟨r, rfl, ks, kr⟩ := g7.row
      have hz := Z6.out
      have hz7 := b7.size
      obtain ⟨W8, hW8, q8, z8, o8, b8⟩ := stored7 (b7.seven K2.out (by omega)) (.string (str r.1.op)) (.int .i64 r.1.v.k) (.int .i64 r.1.v.i) (.string (str r.1.v.s)) (.string (str r.1.tb)) (.string (str r.1.nm)) (.slice r.2.1 r.1.l.length r.2.2)
      have m1 : B1 W8 w.heap.size 3 (.int .i64 i) := K1.out.same ((o8 _ (by omega)).trans (b7.block _ (by omega) (by omega)))
      have m3 : B1 W8 (w.heap.size + 2) 3 (.int .i64 0) := K3.out.same ((o8 _ (by omega)).trans (b7.block _ (by omega) (by omega)))
      have m4 : B1 W8 (w.heap.size + 3) 28 (.int .i64 0) := K4.out.same ((o8 _ (by omega)).trans (b7.block _ (by omega) (by omega)))
      have h8 := (o8 (w.heap.size + 4) (by omega)).trans R7.box
      have u1 : W8.cell? ⟨w.heap.size + 4, 1, none⟩ = some (.int .i64 (i + m : Nat)) := by rw [Lib.cell_of_heap h8]; rfl
      have u2 : W8.cell? ⟨w.heap.size + 4, 2, none⟩ = some (.bool (tooDp false a)) := by rw [Lib.cell_of_heap h8]; rfl
      have hfr : Below w.heap.size w W8 := (H46.out.trans ((b7.below (by omega)).mono (by omega))).trans (b8 _ (by omega))
      obtain ⟨x0, x1, x2, x3, x4, x5, x6⟩ := (b7.seven K2.out (by omega)).cells
      obtain ⟨X0, X1, X2, X3, X4, X5, X6⟩ := (b7.seven K2.out (by omega)).free
      have HW8 := Lib.hid hW8
      have HFR := Lib.hid hfr
      have HM1 := Lib.hid m1
      have HM3 := Lib.hid m3
      have HM4 := Lib.hid m4
      have HQ8 := Lib.hid q8
      have HKS := Lib.hid ks
      have HO8 := Lib.hid o8
      have HKR := Lib.hid kr
      have HZ8 := Lib.hid z8
      have HZ7 := Lib.hid hz7
      first | rw [HD.out, decide_eq_true h40] at u2 | rw [HD.out, decide_eq_false h40] at u2
      simp only [rowCells]
      clear hW8 q8 m1 m3 m4 ks kr o8 hfr R7 g7 b7 b8 h8 hz hz7 z8
    · go_wp2_with (rw [← HW8.out])
      refine leaves_cons (f := 33) (args := #[.pointer (some ⟨w.heap.size + 1, 0, none⟩), .pointer (some ⟨w.heap.size + 2, 0, none⟩), .pointer (some ⟨w.heap.size + 3, 0, none⟩), .pointer (some ⟨w.heap.size, 0, none⟩)]) (by simp) (by simp [go_sem]) ?_
      refine (catch_deep (B := w.heap.size) HM1.out HQ8.out HM3.out HM4.out).mono ?_
      rintro e u' w9 ⟨rfl, rfl, g7, g5, g6, b9⟩
      obtain ⟨l0, l1, l2, l3, l4, l5, l6⟩ := g7.cells
      have l7 := g5.cell
      have l8 := g6.cell
      have hfin : Below w.heap.size w w9 := HFR.out.trans b9
      simp [Leaves, settle, results, Tryz.results14, go_sem, l0, l1, l2, l3, l4, l5, l6, l7, l8]
      first | exact hfin | exact ⟨_, rfl, e0_at _ _, hfin⟩ | exact ⟨e0_at _ _, hfin⟩
    · obtain ⟨V1, V2, V3, hV1, hV2, hV3, g5, g6, g4, r5, r6, hb, hz, ho⟩ := three HQ8.out HM3.out HM4.out (.string (str r.1.op)) (.int .i64 r.1.v.k) (.int .i64 r.1.v.i) (.string (str r.1.v.s)) (.string (str r.1.tb)) (.string (str r.1.nm)) (.slice r.2.1 r.1.l.length r.2.2) (.int .i64 (i + m : Nat)) (.int .i64 0)
      obtain ⟨y0, y1, y2, y3, y4, y5, y6⟩ := HQ8.out.cells
      obtain ⟨f0, f1, f2, f3, f4, f5, f6⟩ := HQ8.out.free
      have c31 := HM3.out.cell
      have c32 := HM3.out.free
      have c41 := HM4.out.cell
      have c42 := HM4.out.free
      have s5 := g5.cell
      have s6 := g6.cell
      have t5 := g5.free
      have t6 := g6.free
      have HV1 := Lib.hid hV1
      have HV2 := Lib.hid hV2
      have HV3 := Lib.hid hV3
      have HR := Lib.hid (And.intro g4 (And.intro r5 (And.intro r6 hb)))
      have HO := Lib.hid ho
      have HZ := Lib.hid hz
      clear hV1 hV2 hV3 g5 g6 g4 r5 r6 hb hz ho
      go_wp2_with (rw [← HW8.out])
      go_region
      simp only [Int.natCast_add] at HV2
      rw [← HV1.out, ← HV2.out, ← HV3.out]
      go_wp2_with fail
      refine leaves_cons (f := 33) (args := #[.pointer (some ⟨w.heap.size + 1, 0, none⟩), .pointer (some ⟨w.heap.size + 2, 0, none⟩), .pointer (some ⟨w.heap.size + 3, 0, none⟩), .pointer (some ⟨w.heap.size, 0, none⟩)]) (by simp) (by simp [go_sem]) ?_
      refine (catch_idle w.heap.size _).mono ?_
      rintro e u' w9 ⟨rfl, rfl, rfl⟩
      obtain ⟨g4, g5, g6, hb⟩ := HR.out
      obtain ⟨l0, l1, l2, l3, l4, l5, l6⟩ := g4.cells
      have l7 := g5.cell
      have l8 := g6.cell
      have hz := Z6.out
      have hz8 := HZ8.out
      have hz7 := HZ7.out
      have hzz := HZ.out
      have hfin : Below w.heap.size w V3.drew := (HFR.out.trans hb).drew
      have hkr := HKR.out (by rw [HD.out]; exact decide_eq_false h40)
      have hat : EAt (fun k => w.heap.size ≤ k) V3.drew a (.agg #[.string (str r.1.op), .int .i64 r.1.v.k, .int .i64 r.1.v.i, .string (str r.1.v.s), .string (str r.1.tb), .string (str r.1.nm), .slice r.2.1 r.1.l.length r.2.2]) := by
        rw [← hkr]
        refine ⟨r.2.1, r.2.2, rfl, HKS.out.keep (fun k hk hlt => ⟨by omega, ?_⟩) (by show _ ≤ V3.heap.size; omega)⟩
        show V3.heap[k]? = _
        rw [HO.out k (by omega) (by omega) (by omega)]
        exact HO8.out k (by omega)
      simp only [Int.natCast_add] at l7
      simp [Leaves, settle, results, Tryz.results14, go_sem, l0, l1, l2, l3, l4, l5, l6, l7, l8]
      exact ⟨hat, hfin⟩
end Go.Proofs.YthohfegnphocbaaGreatDoor
namespace Go.Proofs.YthohfegnphocbaaGreatDoor
theorem sgn_head {l w : List UInt8} (h : sgn l = some w) : headIs (if w = [33, 61] then [60, 62] else w) isLet = false := by
  have hm := List.mem_of_find?_eq_some h
  have : ∀ w ∈ signs, headIs (if w = [33, 61] then [60, 62] else w) isLet = false := by decide
  exact this w hm
theorem oneT_tk {l : List UInt8} {t : Tk} (h : oneT l = some t) : t.k < 6 ∧ (t.k = 5 → headIs t.s isLet = false) := by
  cases l with
  | nil => cases h
  | cons c r =>
    simp only [oneT] at h
    split at h
    · cases hb : blbR r.tail with
      | none => rw [hb] at h; cases h
      | some q => rw [hb] at h; cases h; exact ⟨show (4 : Int) < 6 by decide, fun h => absurd h (show ¬ ((4 : Int) = 5) by decide)⟩
    · split at h
      · split at h
        · cases h; exact ⟨show (1 : Int) < 6 by decide, fun h => absurd h (show ¬ ((1 : Int) = 5) by decide)⟩
        · cases h
      · split at h
        · cases hn : numV 0 (c :: r) with
          | none => rw [hn] at h; cases h
          | some q =>
            rw [hn] at h
            simp only [Option.bind_some] at h
            split at h
            · cases h
            · cases h; exact ⟨show (2 : Int) < 6 by decide, fun h => absurd h (show ¬ ((2 : Int) = 5) by decide)⟩
        · split at h
          · cases hb : txtR r with
            | none => rw [hb] at h; cases h
            | some q => rw [hb] at h; cases h; exact ⟨show (3 : Int) < 6 by decide, fun h => absurd h (show ¬ ((3 : Int) = 5) by decide)⟩
          · cases hb : sgn (c :: r) with
            | none => rw [hb] at h; cases h
            | some q => rw [hb] at h; cases h; exact ⟨show (5 : Int) < 6 by decide, fun _ => sgn_head hb⟩
theorem cut_tks (l : List UInt8) : ∀ p ts, cutP p l = .ok ts → (∀ t ∈ ts, (t.k = 5 → headIs t.s isLet = false) ∧ (t.k = 6 ∨ t.k < 6)) ∧ ts.length ≤ l.length + 1 := by
  refine cut_ind (P := fun l => ∀ p ts, cutP p l = .ok ts → (∀ t ∈ ts, (t.k = 5 → headIs t.s isLet = false) ∧ (t.k = 6 ∨ t.k < 6)) ∧ ts.length ≤ l.length + 1) (fun l ih p ts h => ?_) l
  rw [cutP_eq p l] at h
  by_cases hl : l.drop (bl false l) = []
  · rw [if_pos hl] at h
    cases h
    refine ⟨fun t ht => ?_, by simp⟩
    rw [List.mem_singleton] at ht; subst ht
    exact ⟨fun h => absurd h (show ¬ ((6 : Int) = 5) by decide), .inl rfl⟩
  · rw [if_neg hl] at h
    cases ho : oneT (l.drop (bl false l)) with
    | none => rw [ho] at h; cases h
    | some t =>
      rw [ho] at h
      simp only at h
      have hn := oneT_len ho
      rw [List.length_drop] at hn
      cases hc : cutP (p + bl false l + t.n) (l.drop (bl false l + t.n)) with
      | error q => rw [hc] at h; cases h
      | ok us =>
        rw [hc] at h; cases h
        obtain ⟨h1, h2⟩ := ih t hl ho _ _ hc
        obtain ⟨h3, h4⟩ := oneT_tk ho
        refine ⟨fun u hu => ?_, by rw [List.length_drop] at h2; simp only [List.length_cons]; omega⟩
        rcases List.mem_cons.mp hu with rfl | hu
        · exact ⟨h4, .inr h3⟩
        · exact h1 u hu
theorem toks_of {l : List UInt8} {ts : List T} (h : cutP 0 l = .ok ts) (hl : l.length ≤ 4096) : Toks ts ∧ 0 < ts.length := by
  obtain ⟨h1, h2⟩ := cut_tks l 0 ts h
  obtain ⟨⟨us, hu⟩, -⟩ := cut_parts l 0 ts h
  have hk := cut_ok l 0 ts h
  refine ⟨⟨fun t ht => ⟨hk t ht, (hk t ht).1, (h1 t ht).1⟩, by omega, fun t ht => (h1 t ht).2, fun h0 => ?_⟩, by rw [hu]; simp⟩
  subst hu
  simp
theorem ahd_lt {ts : List T} (h : Toks ts) (i : Nat) (hi : i < ts.length) : i + ahd (ts.drop i) < ts.length := by
  by_cases hz : ahd (ts.drop i) = 0
  · omega
  · have h1 := ahd_le (ts.drop i)
    rw [List.length_drop] at h1
    rcases Nat.lt_or_ge (i + ahd (ts.drop i)) ts.length with h2 | h2
    · exact h2
    · exfalso
      have h3 := ahd_drop (l := ts.drop i) (m := ts.length - 1 - i) (by omega)
      rw [List.drop_drop] at h3
      have h4 : i + (ts.length - 1 - i) = ts.length - 1 := by omega
      rw [h4] at h3
      have h5 := h.fin (by omega)
      rw [List.drop_eq_getElem_cons (by omega : ts.length - 1 < ts.length)] at h3
      generalize ahd (ts.drop i) = z at *
      unfold ahd at h3
      simp [h5] at h3
      omega
end Go.Proofs.YthohfegnphocbaaGreatDoor
namespace Go.Proofs.YthohfegnphocbaaGreatDoor
open Go.RowKit
theorem ln_fit {l : List T} {n : Nat} (h1 : 1 ≤ n) (h9 : n ≤ 9) : (∀ q, ln resB n l = .error q → q ≤ ahd l) ∧ ∀ a m, ln resB n l = .ok (a, m) → 1 ≤ m ∧ m ≤ ahd l := by
  obtain ⟨f, hf⟩ := lm_line resB l h1 h9
  have h2 : pLine resB f n l = some (ln resB n l) := hf f (Nat.le_refl _)
  have h3 := (fits resB f).1 n l
  refine ⟨fun q hq => ?_, fun a m hq => ?_⟩
  · rw [hq] at h2
    rw [h2] at h3
    exact h3
  · rw [hq] at h2
    rw [h2] at h3
    exact h3
theorem atX_lt {ts : List T} (h : Toks ts) {i : Nat} (hi : i < ts.length) : (atX ts i).2.1 < ts.length := by
  have h1 := ahd_lt h i hi
  obtain ⟨h2, h3⟩ := ln_fit (l := ts.drop i) (n := 1) (by omega) (by omega)
  unfold atX
  rcases hx : ln resB 1 (ts.drop i) with q | ⟨a, m⟩
  · have := h2 q hx
    simp only; omega
  · have := h3 a m hx
    simp only
    split <;> simp only <;> omega
noncomputable def parP (l : List UInt8) : E × Nat × Int :=
  if 4096 < l.length then (e0, 0, 2) else match cutP 0 l with
    | .error q => (e0, q, 60)
    | .ok ts => if (atX ts 0).2.2 = 0 then (if (here (ts.drop (atX ts 0).2.1)).k = 6 then ((atX ts 0).1, 0, 0) else (e0, (here (ts.drop (atX ts 0).2.1)).p, 70)) else (e0, (here (ts.drop (atX ts 0).2.1)).p, (atX ts 0).2.2)
theorem atX_err (ts : List T) (i : Nat) : (atX ts i).2.2 = 0 ∨ (atX ts i).2.2 = 70 ∨ (atX ts i).2.2 = 3 := by
  unfold atX
  rcases ln resB 1 (ts.drop i) with q | ⟨a, m⟩
  · exact .inr (.inl rfl)
  · simp only
    split
    · exact .inr (.inr rfl)
    · exact .inl rfl
theorem ne_box {w : World} {b : Nat} {s0 s3 s4 s5 : ByteArray} {i1 i2 : Int} {A : Option Addr} {n c : Nat} (q : B7 w b (.string s0) (.int .i64 i1) (.int .i64 i2) (.string s3) (.string s4) (.string s5) (.slice A n c)) {off : Nat} {k i : Int} {s : ByteArray}
    (h0 : w.cell? ⟨b, off, none⟩ = some (.int .i64 k)) (h1 : w.cell? ⟨b, off + 1, none⟩ = some (.string s)) (h2 : w.cell? ⟨b, off + 2, none⟩ = some (.int .i64 i)) : False := by
  rw [Lib.cell_of_heap q] at h0 h1 h2
  rcases off with _ | _ | _ | _ | _ | _ | _ | off <;> simp at h0 h1 h2
set_option maxRecDepth 100000 in
set_option maxHeartbeats 16000000 in
theorem parse_any (s : ByteArray) (w : World) (hE : Env w) :
    Calls Tryz.prog 10 #[.string s] w fun e w' => ∃ y, e = .returned (.tuple #[y, .int .i64 (parP s.data.toList).2.1, .int .i64 (parP s.data.toList).2.2]) ∧ EAt (fun k => w.heap.size ≤ k) w' (parP s.data.toList).1 y ∧ Below w.heap.size w w' := by
  obtain ⟨W1, hW1, q1, z1, r1⟩ := zero7 w
  have hE1 := hE.later r1
  have HW1 := Lib.hid hW1
  have hlen : s.data.toList.length = s.size := by show _ = s.data.size; exact Array.length_toList
  obtain ⟨k0, k1, k2, k3, k4, k5, k6⟩ := q1.cells
  obtain ⟨f0, f1, f2, f3, f4, f5, f6⟩ := q1.free
  by_cases hs : s.size ≤ 4096
  · have HC := Lib.hid (cut_any s W1 hE1 hs)
    have hP : parP s.data.toList = match cutP 0 s.data.toList with
      | .error q => (e0, q, 60)
      | .ok ts => if (atX ts 0).2.2 = 0 then (if (here (ts.drop (atX ts 0).2.1)).k = 6 then ((atX ts 0).1, 0, 0) else (e0, (here (ts.drop (atX ts 0).2.1)).p, 70)) else (e0, (here (ts.drop (atX ts 0).2.1)).p, (atX ts 0).2.2) := by unfold parP; rw [if_neg (by omega)]
    rw [hP]
    clear hP
    cases hc : cutP 0 s.data.toList with
    | error q =>
      simp only
      have HX := Lib.hid (fun e w' (h : Gives W1 s.data.toList e w') => h.err hc)
      clear hc hs hlen hE hE1
      go_enter Tryz.func10, Tryz.ntmps10
      go_wp2_with (rw [← HW1.out])
      refine (HC.out).mono ?_
      intro e w2 hg
      obtain ⟨rfl, b2⟩ := HX.out e w2 hg
      obtain ⟨W7, hW7, q7, z7, o7, b7⟩ := stored7 (q1.later b2) (.string ⟨#[]⟩) (.int .i64 0) (.int .i64 0) (.string ⟨#[]⟩) (.string ⟨#[]⟩) (.string ⟨#[]⟩) (.slice none 0 0)
      have HW7 := Lib.hid hW7
      obtain ⟨m0, m1, m2, m3, m4, m5, m6⟩ := (q1.later b2).cells
      obtain ⟨g0, g1, g2, g3, g4, g5, g6⟩ := (q1.later b2).free
      obtain ⟨l0, l1, l2, l3, l4, l5, l6⟩ := q7.cells
      have hfin : Below w.heap.size w W7 := (r1.trans (b2.mono (by omega))).trans (b7 _ (Nat.le_refl _))
      clear hg HX HC hW7
      go_wp2_with (rw [← HW7.out])
      exact bodyPost_ret (v := .tuple #[.agg #[.string ⟨#[]⟩, .int .i64 0, .int .i64 0, .string ⟨#[]⟩, .string ⟨#[]⟩, .string ⟨#[]⟩, .slice none 0 0], .int .i64 q, .int .i64 60]) (by simp [results, Tryz.results10, go_sem, l0, l1, l2, l3, l4, l5, l6]) rfl ⟨_, rfl, e0_at _ _, hfin⟩
    | ok ts =>
      simp only
      have HX := Lib.hid (fun e w' (h : Gives W1 s.data.toList e w') => h.ok hc)
      obtain ⟨hT, h0⟩ := toks_of hc (by omega)
      have hlt := atX_lt hT h0
      have her := atX_err ts 0
      have HAt := Lib.hid (fun V A c hA => atE_any hT V A c 0 h0 hA)
      have hlen5 := hT.len
      have hhd := here_drop hlt
      generalize hai : atX ts 0 = ai at *
      obtain ⟨a, i, r⟩ := ai
      simp only at hlt her HAt hhd ⊢
      rw [hhd]
      clear hc hs hlen hE hE1 hT hai
      by_cases hr : r = 0
      · subst hr
        simp only [if_true]
        by_cases hk : ts[i].k = 6
        · simp only [hk, if_true]
          clear hhd
          go_enter Tryz.func10, Tryz.ntmps10
          go_wp2_with (rw [← HW1.out])
          refine (HC.out).mono ?_
          intro e w2 hg
          obtain ⟨⟨A, c, rfl, hcap, hta⟩, b2⟩ := HX.out e w2 hg
          have H2 := Lib.hid (HAt.out w2 A c hta)
          have q2 := q1.later b2
          clear hg HX HC HAt
          go_wp2_with fail
          refine (H2.out).mono ?_
          rintro e w3 ⟨y, rfl, a3, b3⟩
          obtain ⟨s0, i1, i2, s3, s4, s5, A9, n9, c9, rfl⟩ := a3.agg
          have q3 := q2.later b3
          obtain ⟨V6, V7, hV6, hV7, t6, t7, y7, kk6, kk7⟩ := made7 w3 (.string s0) (.int .i64 i1) (.int .i64 i2) (.string s3) (.string s4) (.string s5) (.slice A9 n9 c9)
          obtain ⟨x0, x1, x2, x3, x4, x5, x6⟩ := t6.free
          obtain ⟨X0, X1, X2, X3, X4, X5, X6⟩ := t6.cells
          obtain ⟨g, off, rfl, hg, hcl⟩ := ((hta.later b3).later kk7) h0
          obtain ⟨u0, u1, u2, u3⟩ := hcl i hlt
          obtain ⟨p0, p1, p2, p3, p4, p5, p6⟩ := t7.cells
          have q7 := q3.later kk7
          have hgne : g ≠ w.heap.size := by
            rintro rfl
            obtain ⟨v0, v1, v2, v3⟩ := hcl 0 h0
            rw [Nat.zero_mul, Nat.add_zero] at v0 v1 v2
            exact ne_box q7 v0 v1 v2
          have hgne2 : ¬ g = w.heap.size := hgne
          have hgne3 : ¬ w.heap.size = g := fun e => hgne e.symm
          have hz2 := b2.size
          have hz3 := b3.size
          have a7 := (a3.later kk7).wide (S' := fun k => w.heap.size + 1 ≤ k) (fun k hk => by omega)
          have hfin7 : Below w.heap.size w V7 := ((r1.trans (b2.mono (by omega))).trans (b3.mono (by omega))).trans (kk7.mono (by omega))
          have HV6 := Lib.hid hV6
          have HV7 := Lib.hid hV7
          have HA7 := Lib.hid a7
          have HF7 := Lib.hid hfin7
          have HQ7 := Lib.hid q7
          obtain ⟨k0', k1', k2', k3', k4', k5', k6'⟩ := q7.cells
          obtain ⟨f0', f1', f2', f3', f4', f5', f6'⟩ := q7.free
          have hiz : (i : Int) < (ts.length : Int) := by omega
          clear hV6 hV7 a7 hfin7 q7 t6 t7 a3 kk6 kk7 q2 q3 hcl hta H2
          rw [hk] at u0
          obtain ⟨W9, hW9, q9, z9, o9, b9⟩ := stored7 HQ7.out (.string s0) (.int .i64 i1) (.int .i64 i2) (.string s3) (.string s4) (.string s5) (.slice A9 n9 c9)
          have HW9 := Lib.hid hW9
          obtain ⟨l0, l1, l2, l3, l4, l5, l6⟩ := q9.cells
          have HF9 := Lib.hid (HF7.out.trans (b9 _ (Nat.le_refl _)))
          have HA9 := Lib.hid (HA7.out.keep (S' := fun k => w.heap.size + 1 ≤ k) (fun k hk _ => ⟨hk, o9 k (by omega)⟩) (by omega))
          clear hW9 q9 b9 o9
          go_wp2_with (first | (rw [← HW9.out]) | (rw [← HV7.out]) | (rw [← HV6.out]))
          exact bodyPost_ret (v := .tuple #[.agg #[.string s0, .int .i64 i1, .int .i64 i2, .string s3, .string s4, .string s5, .slice A9 n9 c9], .int .i64 0, .int .i64 0]) (by simp [results, Tryz.results10, go_sem, l0, l1, l2, l3, l4, l5, l6]) rfl ⟨_, rfl, HA9.out.wide (fun k hk => by omega), HF9.out⟩
        · simp only [hk, if_false]
          clear hhd
          go_enter Tryz.func10, Tryz.ntmps10
          go_wp2_with (rw [← HW1.out])
          refine (HC.out).mono ?_
          intro e w2 hg
          obtain ⟨⟨A, c, rfl, hcap, hta⟩, b2⟩ := HX.out e w2 hg
          have H2 := Lib.hid (HAt.out w2 A c hta)
          have q2 := q1.later b2
          clear hg HX HC HAt
          go_wp2_with fail
          refine (H2.out).mono ?_
          rintro e w3 ⟨y, rfl, a3, b3⟩
          obtain ⟨s0, i1, i2, s3, s4, s5, A9, n9, c9, rfl⟩ := a3.agg
          have q3 := q2.later b3
          obtain ⟨V6, V7, hV6, hV7, t6, t7, y7, kk6, kk7⟩ := made7 w3 (.string s0) (.int .i64 i1) (.int .i64 i2) (.string s3) (.string s4) (.string s5) (.slice A9 n9 c9)
          obtain ⟨x0, x1, x2, x3, x4, x5, x6⟩ := t6.free
          obtain ⟨X0, X1, X2, X3, X4, X5, X6⟩ := t6.cells
          obtain ⟨g, off, rfl, hg, hcl⟩ := ((hta.later b3).later kk7) h0
          obtain ⟨u0, u1, u2, u3⟩ := hcl i hlt
          obtain ⟨p0, p1, p2, p3, p4, p5, p6⟩ := t7.cells
          have q7 := q3.later kk7
          have hgne : g ≠ w.heap.size := by
            rintro rfl
            obtain ⟨v0, v1, v2, v3⟩ := hcl 0 h0
            rw [Nat.zero_mul, Nat.add_zero] at v0 v1 v2
            exact ne_box q7 v0 v1 v2
          have hgne2 : ¬ g = w.heap.size := hgne
          have hgne3 : ¬ w.heap.size = g := fun e => hgne e.symm
          have hz2 := b2.size
          have hz3 := b3.size
          have a7 := (a3.later kk7).wide (S' := fun k => w.heap.size + 1 ≤ k) (fun k hk => by omega)
          have hfin7 : Below w.heap.size w V7 := ((r1.trans (b2.mono (by omega))).trans (b3.mono (by omega))).trans (kk7.mono (by omega))
          have HV6 := Lib.hid hV6
          have HV7 := Lib.hid hV7
          have HA7 := Lib.hid a7
          have HF7 := Lib.hid hfin7
          have HQ7 := Lib.hid q7
          obtain ⟨k0', k1', k2', k3', k4', k5', k6'⟩ := q7.cells
          obtain ⟨f0', f1', f2', f3', f4', f5', f6'⟩ := q7.free
          have hiz : (i : Int) < (ts.length : Int) := by omega
          clear hV6 hV7 a7 hfin7 q7 t6 t7 a3 kk6 kk7 q2 q3 hcl hta H2
          have hkf : (ts[i].k == 6) = false := by simpa using hk
          generalize ts[i].k = tk at *
          obtain ⟨W9, hW9, q9, z9, o9, b9⟩ := stored7 HQ7.out (.string ⟨#[]⟩) (.int .i64 0) (.int .i64 0) (.string ⟨#[]⟩) (.string ⟨#[]⟩) (.string ⟨#[]⟩) (.slice none 0 0)
          have HW9 := Lib.hid hW9
          obtain ⟨l0, l1, l2, l3, l4, l5, l6⟩ := q9.cells
          have HF9 := Lib.hid (HF7.out.trans (b9 _ (Nat.le_refl _)))
          clear hW9 q9 b9 o9
          go_wp2_with (first | (rw [← HV7.out]) | (rw [← HV6.out]))
          go_region
          rw [← HW9.out]
          go_wp2_with fail
          exact bodyPost_ret (v := .tuple #[.agg #[.string ⟨#[]⟩, .int .i64 0, .int .i64 0, .string ⟨#[]⟩, .string ⟨#[]⟩, .string ⟨#[]⟩, .slice none 0 0], .int .i64 ts[i].p, .int .i64 70]) (by simp [results, Tryz.results10, go_sem, l0, l1, l2, l3, l4, l5, l6]) rfl ⟨_, rfl, e0_at _ _, HF9.out.drew⟩
      · simp only [hr, if_false]
        clear hhd
        go_enter Tryz.func10, Tryz.ntmps10
        go_wp2_with (rw [← HW1.out])
        refine (HC.out).mono ?_
        intro e w2 hg
        obtain ⟨⟨A, c, rfl, hcap, hta⟩, b2⟩ := HX.out e w2 hg
        have H2 := Lib.hid (HAt.out w2 A c hta)
        have q2 := q1.later b2
        clear hg HX HC HAt
        go_wp2_with fail
        refine (H2.out).mono ?_
        rintro e w3 ⟨y, rfl, a3, b3⟩
        obtain ⟨s0, i1, i2, s3, s4, s5, A9, n9, c9, rfl⟩ := a3.agg
        have q3 := q2.later b3
        obtain ⟨V6, V7, hV6, hV7, t6, t7, y7, kk6, kk7⟩ := made7 w3 (.string s0) (.int .i64 i1) (.int .i64 i2) (.string s3) (.string s4) (.string s5) (.slice A9 n9 c9)
        obtain ⟨x0, x1, x2, x3, x4, x5, x6⟩ := t6.free
        obtain ⟨X0, X1, X2, X3, X4, X5, X6⟩ := t6.cells
        obtain ⟨g, off, rfl, hg, hcl⟩ := ((hta.later b3).later kk7) h0
        obtain ⟨u0, u1, u2, u3⟩ := hcl i hlt
        obtain ⟨p0, p1, p2, p3, p4, p5, p6⟩ := t7.cells
        have q7 := q3.later kk7
        have hgne : g ≠ w.heap.size := by
          rintro rfl
          obtain ⟨v0, v1, v2, v3⟩ := hcl 0 h0
          rw [Nat.zero_mul, Nat.add_zero] at v0 v1 v2
          exact ne_box q7 v0 v1 v2
        have hgne2 : ¬ g = w.heap.size := hgne
        have hgne3 : ¬ w.heap.size = g := fun e => hgne e.symm
        have hz2 := b2.size
        have hz3 := b3.size
        have a7 := (a3.later kk7).wide (S' := fun k => w.heap.size + 1 ≤ k) (fun k hk => by omega)
        have hfin7 : Below w.heap.size w V7 := ((r1.trans (b2.mono (by omega))).trans (b3.mono (by omega))).trans (kk7.mono (by omega))
        have HV6 := Lib.hid hV6
        have HV7 := Lib.hid hV7
        have HA7 := Lib.hid a7
        have HF7 := Lib.hid hfin7
        have HQ7 := Lib.hid q7
        obtain ⟨k0', k1', k2', k3', k4', k5', k6'⟩ := q7.cells
        obtain ⟨f0', f1', f2', f3', f4', f5', f6'⟩ := q7.free
        have hiz : (i : Int) < (ts.length : Int) := by omega
        clear hV6 hV7 a7 hfin7 q7 t6 t7 a3 kk6 kk7 q2 q3 hcl hta H2
        have hrf : (r == 0) = false := by simpa using hr
        generalize ts[i].k = tk at *
        obtain ⟨W9, hW9, q9, z9, o9, b9⟩ := stored7 HQ7.out (.string ⟨#[]⟩) (.int .i64 0) (.int .i64 0) (.string ⟨#[]⟩) (.string ⟨#[]⟩) (.string ⟨#[]⟩) (.slice none 0 0)
        have HW9 := Lib.hid hW9
        obtain ⟨l0, l1, l2, l3, l4, l5, l6⟩ := q9.cells
        have HF9 := Lib.hid (HF7.out.trans (b9 _ (Nat.le_refl _)))
        clear hW9 q9 b9 o9
        go_wp2_with (first | (rw [← HV7.out]) | (rw [← HV6.out]))
        go_region
        rw [← HW9.out]
        go_wp2_with fail
        exact bodyPost_ret (v := .tuple #[.agg #[.string ⟨#[]⟩, .int .i64 0, .int .i64 0, .string ⟨#[]⟩, .string ⟨#[]⟩, .string ⟨#[]⟩, .slice none 0 0], .int .i64 ts[i].p, .int .i64 r]) (by simp [results, Tryz.results10, go_sem, l0, l1, l2, l3, l4, l5, l6]) rfl ⟨_, rfl, e0_at _ _, HF9.out.drew⟩
  · have hP : parP s.data.toList = (e0, 0, 2) := by unfold parP; rw [if_pos (by omega)]
    rw [hP]
    have HC := Lib.hid (cut_long s W1 (by omega))
    clear hP hs hlen hE hE1
    go_enter Tryz.func10, Tryz.ntmps10
    go_wp2_with (rw [← HW1.out])
    refine (HC.out).mono ?_
    rintro e w2 ⟨rfl, hw2⟩
    cases hw2
    go_wp2_with fail
    exact bodyPost_ret (v := .tuple #[.agg #[.string ⟨#[]⟩, .int .i64 0, .int .i64 0, .string ⟨#[]⟩, .string ⟨#[]⟩, .string ⟨#[]⟩, .slice none 0 0], .int .i64 0, .int .i64 2]) (by simp [results, Tryz.results10, go_sem]) rfl ⟨_, rfl, e0_at _ _, (Below.refl _ w).alloc (Nat.le_refl _) _⟩
end Go.Proofs.YthohfegnphocbaaGreatDoor
