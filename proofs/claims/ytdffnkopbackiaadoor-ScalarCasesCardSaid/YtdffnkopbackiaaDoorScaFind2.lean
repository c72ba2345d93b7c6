/- Contract of scalar's find: the function of a name, whatever the name is. No condition. -/
import Derived.Test.YtdffnkopbackiaaDoorScaFind
import Derived.Laws.EntriesVeiled
namespace Go.Proofs.YtdffnkopbackiaaDoor
open Go.RowKit
theorem Below.set7 {B : Nat} {a w : World} (h : Below B a w) {b : Nat} (hb : B ≤ b) (x y z u v s t : Value) : Below B a (((((((w.setCell ⟨b, 0, none⟩ x).setCell ⟨b, 1, none⟩ y).setCell ⟨b, 2, none⟩ z).setCell ⟨b, 3, none⟩ u).setCell ⟨b, 4, none⟩ v).setCell ⟨b, 5, none⟩ s).setCell ⟨b, 6, none⟩ t) := ((((((h.setCell hb _).setCell hb _).setCell hb _).setCell hb _).setCell hb _).setCell hb _).setCell hb _
theorem look_ret {nm : ByteArray} {x : Fn} (h : look nm = some x) : Ending.returned (.tuple #[.agg #[.string x.nm, .int .i64 x.lo, .int .i64 x.hi, .int .u64 x.k0, .int .u64 x.k1, .int .u64 x.k2, .func (.func x.f) #[] #[]], .bool true]) = .returned (.tuple #[fnVal (look nm), .bool (look nm).isSome]) := by rw [h]; rfl
theorem look_ret0 {nm : ByteArray} (h : look nm = none) : Ending.returned (.tuple #[.agg #[.string ⟨#[]⟩, .int .i64 0, .int .i64 0, .int .u64 0, .int .u64 0, .int .u64 0, .nilFunc], .bool false]) = .returned (.tuple #[fnVal (look nm), .bool (look nm).isSome]) := by rw [h]; rfl
set_option maxRecDepth 100000 in
set_option maxHeartbeats 4000000 in
theorem find_any (nm : ByteArray) (w : World) : Calls Tryd.prog 28 #[.string nm] w fun e w' => e = .returned (.tuple #[fnVal (look nm), .bool (look nm).isSome]) ∧ Below w.heap.size w w' := by
  have HR1 := Lib.hid (fun x (h : look nm = some x) => look_ret h)
  have HR0 := Lib.hid (fun (h : look nm = none) => look_ret0 h)
  have HL := Lib.hid (fun (k : Nat) (hk : k < fns.length) h0 h1 => look_at (nm := nm) (k := k) hk h0 h1)
  have HLN := Lib.hid (@look_none nm)
  have HF := Lib.hid (fun w => functions_at w)
  generalize look nm = lk at *
  generalize fnVal lk = fv at *
  generalize lk.isSome = fb at *
  go_enter Tryd.func28, Tryd.ntmps28
  go_wp2_with fail
  refine (HF.out _).mono ?_
  rintro e w2 ⟨rfl, hb2, hf2⟩
  have HB2 := Lib.hid (((Below.refl _ w).alloc (Nat.le_refl _) _).trans (hb2.mono (by simp)))
  have HFB := Lib.hid (show FBox w2 w.heap.size from (hb2.block w.heap.size (by simp)).trans (heap_alloc_new w _))
  have HFN := Lib.hid (show FnsAt w2 (w.heap.size + 1) by simpa using hf2)
  have hz2 : w.heap.size + 1 < w2.heap.size := HFN.out.lt
  clear hb2 hf2
  go_wp2_with fail
  go_loopw [8] (fun i wr => ∃ k : Nat, k ≤ 11 ∧ i = .int .i64 k ∧ Hid (Below w2.heap.size w2 wr) ∧ Hid (∀ j (h : j < fns.length), j < k → (fns[j].nm.toList == nm.toList) = false)) (fun i _ => 11 - (intOf i).toNat)
  case atStart => exact ⟨0, by omega, rfl, Below.refl _ _, fun j _ h => by omega⟩
  case round =>
    obtain ⟨k, hk, rfl, HB, HI⟩ := hrel
    have hsz := HB.out.size
    have HFB' := Lib.hid (show FBox wr w.heap.size from (HB.out.block _ (by omega)).trans HFB.out)
    by_cases hlt : k < 11
    · have hkl : k < fns.length := hlt
      have hc := fun j hj => (HB.out.cell (p := ⟨w.heap.size + 1, _, none⟩) hz2).trans (HFN.out.cell k hkl j hj)
      have d0 := hc 0 (by decide)
      have d1 := hc 1 (by decide)
      have d2 := hc 2 (by decide)
      have d3 := hc 3 (by decide)
      have d4 := hc 4 (by decide)
      have d5 := hc 5 (by decide)
      have d6 := hc 6 (by decide)
      simp only [Fn.cells, Nat.add_zero] at d0 d1 d2 d3 d4 d5 d6
      have HX : Hid ((fns[k].nm.toList == nm.toList) = true → lk = some fns[k]) := fun h => HL.out k hkl HI.out h
      have HY : Hid ((fns[k].nm.toList == nm.toList) = false → ∀ j (h : j < fns.length), j < k + 1 → (fns[j].nm.toList == nm.toList) = false) := by
        intro h j hj hjk
        by_cases e : j = k
        · subst e; exact h
        · exact HI.out j hj (by omega)
      clear hc
      generalize fns[k] = x at *
      cases hq : (x.nm.toList == nm.toList)
      · go_wp2_with fail
        go_roundw
        case rel => exact ⟨k + 1, by omega, by go_num, HB.out.alloc hsz _, HY.out hq⟩
        case measure => simp [intOf]; omega
      · obtain ⟨g0, g1, g2, g3, g4, g5, g6⟩ := HFB'.out.cells
        have f0 := HFB'.out.free
        have c0 := fun o => (World.cell?_alloc_lt wr o ⟨w.heap.size, 0, none⟩ (by show w.heap.size < _; omega)).trans g0
        have c1 := fun o => (World.cell?_alloc_lt wr o ⟨w.heap.size, 1, none⟩ (by show w.heap.size < _; omega)).trans g1
        have c2 := fun o => (World.cell?_alloc_lt wr o ⟨w.heap.size, 2, none⟩ (by show w.heap.size < _; omega)).trans g2
        have c3 := fun o => (World.cell?_alloc_lt wr o ⟨w.heap.size, 3, none⟩ (by show w.heap.size < _; omega)).trans g3
        have c4 := fun o => (World.cell?_alloc_lt wr o ⟨w.heap.size, 4, none⟩ (by show w.heap.size < _; omega)).trans g4
        have c5 := fun o => (World.cell?_alloc_lt wr o ⟨w.heap.size, 5, none⟩ (by show w.heap.size < _; omega)).trans g5
        have c6 := fun o => (World.cell?_alloc_lt wr o ⟨w.heap.size, 6, none⟩ (by show w.heap.size < _; omega)).trans g6
        have q0 := fun o a => (show (wr.alloc o).frozen? ⟨w.heap.size, a, none⟩ = false from FBox.free (w := wr.alloc o) ((Below.heap_alloc wr o _ (by omega)).trans HFB'.out) a)
        clear g0 g1 g2 g3 g4 g5 g6 f0
        go_wp2_with fail
        exact bodyPost_ret (v := .tuple #[.agg #[.string x.nm, .int .i64 x.lo, .int .i64 x.hi, .int .u64 x.k0, .int .u64 x.k1, .int .u64 x.k2, .func (.func x.f) #[] #[]], .bool true]) (by simp [results, Tryd.results28, go_sem, c0, c1, c2, c3, c4, c5, c6]) rfl ⟨HR1.out x (HX.out hq), Below.set7 ((HB2.out.trans (HB.out.mono (by omega))).alloc (by omega) _) (Nat.le_refl _) _ _ _ _ _ _ _⟩
    · obtain ⟨g0, g1, g2, g3, g4, g5, g6⟩ := HFB'.out.cells
      have f0 := HFB'.out.free
      have hge : (11 : Int) ≤ (k : Int) := by omega
      have hd : decide ((k : Int) < 11) = false := by simp; omega
      go_wp2_with fail
      exact bodyPost_ret (v := .tuple #[.agg #[.string ⟨#[]⟩, .int .i64 0, .int .i64 0, .int .u64 0, .int .u64 0, .int .u64 0, .nilFunc], .bool false]) (by simp [results, Tryd.results28, go_sem, g0, g1, g2, g3, g4, g5, g6]) rfl ⟨HR0.out (HLN.out (fun j h => HI.out j h (by rw [fns_len] at h; omega))), Below.set7 (HB2.out.trans (HB.out.mono (by omega))) (Nat.le_refl _) _ _ _ _ _ _ _⟩
end Go.Proofs.YtdffnkopbackiaaDoor
