/- Contract of scalar's find: the function of a name, whatever the name is. No condition. -/
import Derived.Test.YtcmbdghbicjljaaGreatDoorQ02
import Derived.Laws.EntriesVeiled
import Derived.Deep.QuietTactic
import Derived.BigQuiet
import Derived.Test.YtcmbdghbicjljaaGreatDoorShelf
import Derived.Test.YtcmbdghbicjljaaGreatDoorQ01
import Derived.StillTailTactics
import Derived.Lib.ConvBytes
import Derived.Laws.BytesString
import Derived.Laws.Cells
namespace Go.Proofs.YtcmbdghbicjljaaGreatDoor.BV
end Go.Proofs.YtcmbdghbicjljaaGreatDoor.BV
namespace Go.Proofs.YtcmbdghbicjljaaGreatDoor.SC
open Go.Proofs.YtcmbdghbicjljaaGreatDoor.BV
open Go.RowKit
theorem Below.set7 {B : Nat} {a w : World} (h : Below B a w) {b : Nat} (hb : B ≤ b) (x y z u v s t : Value) : Below B a (((((((w.setCell ⟨b, 0, none⟩ x).setCell ⟨b, 1, none⟩ y).setCell ⟨b, 2, none⟩ z).setCell ⟨b, 3, none⟩ u).setCell ⟨b, 4, none⟩ v).setCell ⟨b, 5, none⟩ s).setCell ⟨b, 6, none⟩ t) := ((((((h.setCell hb _).setCell hb _).setCell hb _).setCell hb _).setCell hb _).setCell hb _).setCell hb _
theorem look_ret {nm : ByteArray} {x : Fn} (h : look nm = some x) : Ending.returned (.tuple #[.agg #[.string x.nm, .int .i64 x.lo, .int .i64 x.hi, .int .u64 x.k0, .int .u64 x.k1, .int .u64 x.k2, .func (.func x.f) #[] #[]], .bool true]) = .returned (.tuple #[fnVal (look nm), .bool (look nm).isSome]) := by rw [h]; rfl
theorem look_ret0 {nm : ByteArray} (h : look nm = none) : Ending.returned (.tuple #[.agg #[.string ⟨#[]⟩, .int .i64 0, .int .i64 0, .int .u64 0, .int .u64 0, .int .u64 0, .nilFunc], .bool false]) = .returned (.tuple #[fnVal (look nm), .bool (look nm).isSome]) := by rw [h]; rfl
set_option maxRecDepth 100000 in
set_option maxHeartbeats 4000000 in
theorem find_any (nm : ByteArray) (w : World) : Calls Tryz.prog 87 #[.string nm] w fun e w' => e = .returned (.tuple #[fnVal (look nm), .bool (look nm).isSome]) ∧ Below w.heap.size w w' := by
  have HR1 := Lib.hid (fun x (h : look nm = some x) => look_ret h)
  have HR0 := Lib.hid (fun (h : look nm = none) => look_ret0 h)
  have HL := Lib.hid (fun (k : Nat) (hk : k < fns.length) h0 h1 => look_at (nm := nm) (k := k) hk h0 h1)
  have HLN := Lib.hid (@look_none nm)
  have HF := Lib.hid (fun w => functions_at w)
  generalize look nm = lk at *
  generalize fnVal lk = fv at *
  generalize lk.isSome = fb at *
  go_enter Tryz.func87, Tryz.ntmps87
  go_wp2_with fail
  refine (HF.out _).mono ?_
  rintro e w2 ⟨rfl, hb2, hf2⟩
  have HB2 := Lib.hid (((Below.refl _ w).alloc (Nat.le_refl _) _).trans (hb2.mono (by simp)))
  have HFB := Lib.hid (show FBox w2 w.heap.size from (hb2.block w.heap.size (by simp)).trans (heap_alloc_new w _))
  have HFN := Lib.hid (show FnsAt w2 (w.heap.size + 1) by simpa using hf2)
  have hz2 : w.heap.size + 1 < w2.heap.size := HFN.out.lt
  clear hb2 hf2
  go_wp2_with fail
  go_loopw [8] (fun i wr => ∃ k : Nat, k ≤ 11 ∧ i = .int .i64 k ∧ Hid (Below w2.heap.size w2 wr) ∧ Hid (∀ j (h : j < fns.length), j < k → (fns[j].nm.toList == nm.toList) = false)) (fun i _ => 11 - (intOf i).toNat)
  case atStart => exact ⟨0, by omega, rfl, Below.refl _ _, fun j _ h => by omega⟩
  case round =>
    obtain ⟨k, hk, rfl, HB, HI⟩ := hrel
    have hsz := HB.out.size
    have HFB' := Lib.hid (show FBox wr w.heap.size from (HB.out.block _ (by omega)).trans HFB.out)
    by_cases hlt : k < 11
    · have hkl : k < fns.length := hlt
      have hc := fun j hj => (HB.out.cell (p := ⟨w.heap.size + 1, _, none⟩) hz2).trans (HFN.out.cell k hkl j hj)
      have d0 := hc 0 (by decide)
      have d1 := hc 1 (by decide)
      have d2 := hc 2 (by decide)
      have d3 := hc 3 (by decide)
      have d4 := hc 4 (by decide)
      have d5 := hc 5 (by decide)
      have d6 := hc 6 (by decide)
      simp only [Fn.cells, Nat.add_zero] at d0 d1 d2 d3 d4 d5 d6
      have HX : Hid ((fns[k].nm.toList == nm.toList) = true → lk = some fns[k]) := fun h => HL.out k hkl HI.out h
      have HY : Hid ((fns[k].nm.toList == nm.toList) = false → ∀ j (h : j < fns.length), j < k + 1 → (fns[j].nm.toList == nm.toList) = false) := by
        intro h j hj hjk
        by_cases e : j = k
        · subst e; exact h
        · exact HI.out j hj (by omega)
      clear hc
      generalize fns[k] = x at *
      cases hq : (x.nm.toList == nm.toList)
      · go_wp2_with fail
        go_roundw
        case rel => exact ⟨k + 1, by omega, by go_num, HB.out.alloc hsz _, HY.out hq⟩
        case measure => simp [intOf]; omega
      · obtain ⟨g0, g1, g2, g3, g4, g5, g6⟩ := HFB'.out.cells
        have f0 := HFB'.out.free
        have c0 := fun o => (World.cell?_alloc_lt wr o ⟨w.heap.size, 0, none⟩ (by show w.heap.size < _; omega)).trans g0
        have c1 := fun o => (World.cell?_alloc_lt wr o ⟨w.heap.size, 1, none⟩ (by show w.heap.size < _; omega)).trans g1
        have c2 := fun o => (World.cell?_alloc_lt wr o ⟨w.heap.size, 2, none⟩ (by show w.heap.size < _; omega)).trans g2
        have c3 := fun o => (World.cell?_alloc_lt wr o ⟨w.heap.size, 3, none⟩ (by show w.heap.size < _; omega)).trans g3
        have c4 := fun o => (World.cell?_alloc_lt wr o ⟨w.heap.size, 4, none⟩ (by show w.heap.size < _; omega)).trans g4
        have c5 := fun o => (World.cell?_alloc_lt wr o ⟨w.heap.size, 5, none⟩ (by show w.heap.size < _; omega)).trans g5
        have c6 := fun o => (World.cell?_alloc_lt wr o ⟨w.heap.size, 6, none⟩ (by show w.heap.size < _; omega)).trans g6
        have q0 := fun o a => (show (wr.alloc o).frozen? ⟨w.heap.size, a, none⟩ = false from FBox.free (w := wr.alloc o) ((Below.heap_alloc wr o _ (by omega)).trans HFB'.out) a)
        clear g0 g1 g2 g3 g4 g5 g6 f0
        go_wp2_with fail
        exact bodyPost_ret (v := .tuple #[.agg #[.string x.nm, .int .i64 x.lo, .int .i64 x.hi, .int .u64 x.k0, .int .u64 x.k1, .int .u64 x.k2, .func (.func x.f) #[] #[]], .bool true]) (by simp [results, Tryz.results87, go_sem, c0, c1, c2, c3, c4, c5, c6]) rfl ⟨HR1.out x (HX.out hq), Below.set7 ((HB2.out.trans (HB.out.mono (by omega))).alloc (by omega) _) (Nat.le_refl _) _ _ _ _ _ _ _⟩
    · obtain ⟨g0, g1, g2, g3, g4, g5, g6⟩ := HFB'.out.cells
      have f0 := HFB'.out.free
      have hge : (11 : Int) ≤ (k : Int) := by omega
      have hd : decide ((k : Int) < 11) = false := by simp; omega
      go_wp2_with fail
      exact bodyPost_ret (v := .tuple #[.agg #[.string ⟨#[]⟩, .int .i64 0, .int .i64 0, .int .u64 0, .int .u64 0, .int .u64 0, .nilFunc], .bool false]) (by simp [results, Tryz.results87, go_sem, g0, g1, g2, g3, g4, g5, g6]) rfl ⟨HR0.out (HLN.out (fun j h => HI.out j h (by rw [fns_len] at h; omega))), Below.set7 (HB2.out.trans (HB.out.mono (by omega))) (Nat.le_refl _) _ _ _ _ _ _ _⟩
end Go.Proofs.YtcmbdghbicjljaaGreatDoor.SC
namespace Go.Proofs.YtcmbdghbicjljaaGreatDoor.BV
end Go.Proofs.YtcmbdghbicjljaaGreatDoor.BV
namespace Go.Proofs.YtcmbdghbicjljaaGreatDoor.SC
open Go.Proofs.YtcmbdghbicjljaaGreatDoor.BV
open Go.RowKit
def takesB (lo hi n : Int) : Bool := decide (lo ≤ n) && (decide (n ≤ hi) || decide (hi < 0))
set_option maxHeartbeats 1000000 in
theorem takes_any (x : Fn) (n : Int) (w : World) : Calls Tryz.prog 88 #[.agg #[.string x.nm, .int .i64 x.lo, .int .i64 x.hi, .int .u64 x.k0, .int .u64 x.k1, .int .u64 x.k2, .func (.func x.f) #[] #[]], .int .i64 n] w fun e w' => e = .returned (.bool (takesB x.lo x.hi n)) ∧ Below w.heap.size w w' := by
  unfold takesB
  by_cases h1 : x.lo ≤ n
  · by_cases h2 : n ≤ x.hi
    · rw [decide_eq_true h1, decide_eq_true h2]
      go_enter Tryz.func88, Tryz.ntmps88
      go_wp2_with fail
      go_ret
      exact ⟨rfl, (Below.refl _ w).alloc (Nat.le_refl _) _⟩
    · by_cases h3 : x.hi < 0
      · rw [decide_eq_true h1, decide_eq_true h3, decide_eq_false h2]
        go_enter Tryz.func88, Tryz.ntmps88
        go_wp2_with fail
        go_ret
        exact ⟨rfl, (Below.refl _ w).alloc (Nat.le_refl _) _⟩
      · rw [decide_eq_true h1, decide_eq_false h3, decide_eq_false h2]
        go_enter Tryz.func88, Tryz.ntmps88
        go_wp2_with fail
        go_ret
        exact ⟨rfl, (Below.refl _ w).alloc (Nat.le_refl _) _⟩
  · rw [decide_eq_false h1]
    go_enter Tryz.func88, Tryz.ntmps88
    go_wp2_with fail
    go_ret
    exact ⟨rfl, (Below.refl _ w).alloc (Nat.le_refl _) _⟩
end Go.Proofs.YtcmbdghbicjljaaGreatDoor.SC
namespace Go.Proofs.YtcmbdghbicjljaaGreatDoor.BV
end Go.Proofs.YtcmbdghbicjljaaGreatDoor.BV
namespace Go.Proofs.YtcmbdghbicjljaaGreatDoor.SC
open Go.Proofs.YtcmbdghbicjljaaGreatDoor.BV
open Go.RowKit
theorem within_any (n : Int) (b : Bool) (w : World) : Calls Tryz.prog 144 #[.int .i64 n, .bool b] w fun e w' => e = .returned (.tuple #[.int .i64 (fitR n b), .int .i64 (fitE b)]) ∧ w = w' := by
  cases b
  all_goals
    go_enter Tryz.func144, Tryz.ntmps144
    go_wp2
    go_ret2
    exact ⟨rfl, rfl⟩
theorem atEnd_any (a b : Int) (w : World) : Calls Tryz.prog 145 #[.int .i64 a, .int .i64 b] w fun e w' => e = .returned (.bool (atEnd a b)) ∧ w = w' := by
  unfold atEnd
  cases h1 : (a == -9223372036854775808)
  · go_enter Tryz.func145, Tryz.ntmps145
    go_wp2
    go_ret
    exact ⟨rfl, rfl⟩
  · go_enter Tryz.func145, Tryz.ntmps145
    go_wp2
    go_ret
    exact ⟨rfl, rfl⟩
set_option maxHeartbeats 400000 in
theorem add_any (a b : Int) (w : World) (ha : In64 a) (hb : In64 b) : Calls Tryz.prog 109 #[.int .i64 a, .int .i64 b] w fun e w' => e = .returned (.tuple #[.int .i64 (numR 1 a b), .int .i64 (numE 1 a b)]) ∧ w = w' := by
  obtain ⟨e1, e2⟩ := num_lo (p := 1) (a := a) (b := b) (n := wrap64 (a + b)) (by omega) (fun h => wrap_id h)
  have e3 := (add_tell ha hb).1
  rw [e1, e2, show numX 1 a b = a + b from rfl, ← e3]
  clear e1 e2 e3 ha hb
  go_enter Tryz.func109, Tryz.ntmps109
  go_wp2_with (go_at_call 144; refine (within_any _ _ _).mono ?_; rintro e w' ⟨rfl, rfl⟩)
  go_ret2
  exact ⟨rfl, rfl⟩
set_option maxHeartbeats 400000 in
theorem subtract_any (a b : Int) (w : World) (ha : In64 a) (hb : In64 b) : Calls Tryz.prog 110 #[.int .i64 a, .int .i64 b] w fun e w' => e = .returned (.tuple #[.int .i64 (numR 2 a b), .int .i64 (numE 2 a b)]) ∧ w = w' := by
  obtain ⟨e1, e2⟩ := num_lo (p := 2) (a := a) (b := b) (n := wrap64 (a - b)) (by omega) (fun h => wrap_id h)
  have e3 := (sub_tell ha hb).1
  rw [e1, e2, show numX 2 a b = a - b from rfl, ← e3]
  clear e1 e2 e3 ha hb
  go_enter Tryz.func110, Tryz.ntmps110
  go_wp2_with (go_at_call 144; refine (within_any _ _ _).mono ?_; rintro e w' ⟨rfl, rfl⟩)
  go_ret2
  exact ⟨rfl, rfl⟩
end Go.Proofs.YtcmbdghbicjljaaGreatDoor.SC
namespace Go.Proofs.YtcmbdghbicjljaaGreatDoor.BV
end Go.Proofs.YtcmbdghbicjljaaGreatDoor.BV
namespace Go.Proofs.YtcmbdghbicjljaaGreatDoor.SC
open Go.Proofs.YtcmbdghbicjljaaGreatDoor.BV
open Go.RowKit
theorem same_turn {P : Program} {f : FuncId} {args : Array Value} {w : World} {E : Ending} (h : Calls P f args w fun e w' => e = E ∧ w = w') : Calls P f args w fun e w' => e = E ∧ w' = w :=
  h.mono fun _ _ ⟨a, b⟩ => ⟨a, b.symm⟩
set_option maxHeartbeats 400000 in
theorem multiply_any (a b : Int) (w : World) (ha : In64 a) (hb : In64 b) : Calls Tryz.prog 111 #[.int .i64 a, .int .i64 b] w fun e w' => e = .returned (.tuple #[.int .i64 (numR 3 a b), .int .i64 (numE 3 a b)]) ∧ w = w' := by
  by_cases h0 : b = 0
  · subst h0
    obtain ⟨e1, e2⟩ := num_lo (p := 3) (a := a) (b := 0) (n := 0) (by omega) (fun h => by simp [numX])
    rw [e1, e2, show numX 3 a 0 = 0 by simp [numX]]
    clear e1 e2 ha hb
    go_enter Tryz.func111, Tryz.ntmps111
    go_wp2
    go_ret2
    exact ⟨rfl, rfl⟩
  · obtain ⟨e1, e2⟩ := num_lo (p := 3) (a := a) (b := b) (n := wrap64 (a * b)) (by omega) (fun h => wrap_id h)
    have e3 := mul_tell ha hb h0
    have hz : (b == 0) = false := by simpa using h0
    rw [e1, e2, show numX 3 a b = a * b from rfl, ← e3]
    clear e1 e2 e3
    have h1 := (wrap_cases (a * b)).choose_spec.2.1
    unfold In64 at *
    cases h : (wrap64 ((wrap64 (a * b)).tdiv b) == a)
    all_goals
      go_enter Tryz.func111, Tryz.ntmps111
      go_wp2_with (first | (go_at_call 145; refine (atEnd_any _ _ _).mono ?_; rintro e w' ⟨rfl, rfl⟩) | (go_at_call 144; refine (within_any _ _ _).mono ?_; rintro e w' ⟨rfl, rfl⟩))
      go_ret2
      exact ⟨rfl, rfl⟩
set_option maxHeartbeats 400000 in
theorem remain_any (a b : Int) (w : World) (_ha : In64 a) (hb : In64 b) : Calls Tryz.prog 113 #[.int .i64 a, .int .i64 b] w fun e w' => e = .returned (.tuple #[.int .i64 (numR 5 a b), .int .i64 (numE 5 a b)]) ∧ w = w' := by
  by_cases h0 : b = 0
  · subst h0
    obtain ⟨e1, e2⟩ := num_zero (p := 5) (a := a) (by omega)
    rw [e1, e2]
    clear e1 e2 hb
    go_enter Tryz.func113, Tryz.ntmps113
    go_wp2
    go_ret2
    exact ⟨rfl, rfl⟩
  · obtain ⟨e1, e2⟩ := num_hi (p := 5) (a := a) (b := b) (n := a.tmod b) h0 (fun h => rfl)
    rw [e1, e2, show numX 5 a b = a.tmod b from rfl, tmod_ok hb h0]
    clear e1 e2
    have hz : (b == 0) = false := by simpa using h0
    have hz' : ¬ b = 0 := h0
    go_enter Tryz.func113, Tryz.ntmps113
    go_wp2
    go_ret2
    exact ⟨rfl, rfl⟩
set_option maxHeartbeats 400000 in
theorem divide_any (a b : Int) (w : World) (ha : In64 a) (hb : In64 b) : Calls Tryz.prog 112 #[.int .i64 a, .int .i64 b] w fun e w' => e = .returned (.tuple #[.int .i64 (numR 4 a b), .int .i64 (numE 4 a b)]) ∧ ∃ n, w' = w.drewN n := by
  by_cases h0 : b = 0
  · subst h0
    obtain ⟨e1, e2⟩ := num_zero (p := 4) (a := a) (by omega)
    rw [e1, e2]
    clear e1 e2 hb
    go_enter Tryz.func112, Tryz.ntmps112
    go_wp2
    go_ret2
    exact ⟨rfl, 0, rfl⟩
  · obtain ⟨e1, e2⟩ := num_hi (p := 4) (a := a) (b := b) (n := wrap64 (a.tdiv b)) h0 (fun h => wrap_id h)
    rw [e1, e2, show numX 4 a b = a.tdiv b from rfl, tdiv_tell ha h0]
    clear e1 e2
    have hz : (b == 0) = false := by simpa using h0
    have hw := IntWalk.i64_left (a.tdiv b)
    go_enter Tryz.func112, Tryz.ntmps112
    go_wp2_with fail
    go_quiet (first | (go_at_call 145; exact Calls.quiet_of_same (same_turn (atEnd_any _ _ _))) | (go_at_call 144; exact Calls.quiet_of_same (same_turn (within_any _ _ _))))
    go_wp2
    go_ret2
    exact ⟨rfl, _, rfl⟩
end Go.Proofs.YtcmbdghbicjljaaGreatDoor.SC
namespace Go.Proofs.YtcmbdghbicjljaaGreatDoor.BV
end Go.Proofs.YtcmbdghbicjljaaGreatDoor.BV
namespace Go.Proofs.YtcmbdghbicjljaaGreatDoor.SC
open Go.Proofs.YtcmbdghbicjljaaGreatDoor.BV
open Go.RowKit
def Drawn (w w' : World) : Prop := ∃ n, w' = w.drewN n
end Go.Proofs.YtcmbdghbicjljaaGreatDoor.SC
namespace Go.Proofs.YtcmbdghbicjljaaGreatDoor.BV
end Go.Proofs.YtcmbdghbicjljaaGreatDoor.BV
namespace Go.Proofs.YtcmbdghbicjljaaGreatDoor.SC
open Go.Proofs.YtcmbdghbicjljaaGreatDoor.BV
open Go.RowKit
theorem opk_cases (op : ByteArray) : (op = ⟨#[43]⟩ ∧ opk op = 1) ∨ (op = ⟨#[45]⟩ ∧ opk op = 2) ∨ (op = ⟨#[42]⟩ ∧ opk op = 3) ∨ (op = ⟨#[47]⟩ ∧ opk op = 4) ∨ (op = ⟨#[37]⟩ ∧ opk op = 5) ∨ (opk op = 0 ∧ (op.toList == [43]) = false ∧ (op.toList == [45]) = false ∧ (op.toList == [42]) = false ∧ (op.toList == [47]) = false ∧ (op.toList == [37]) = false) := by
  have key : ∀ l : List UInt8, (op.toList == l) = true → op = ⟨l.toArray⟩ := by
    intro l h
    rw [Lib.toList_data, beq_iff_eq] at h
    cases op
    simp only [ByteArray.mk.injEq]
    rw [← h]
  unfold opk
  by_cases h1 : (op.toList == [43]) = true
  · exact Or.inl ⟨key _ h1, by rw [if_pos h1]⟩
  by_cases h2 : (op.toList == [45]) = true
  · exact Or.inr (Or.inl ⟨key _ h2, by rw [if_neg h1, if_pos h2]⟩)
  by_cases h3 : (op.toList == [42]) = true
  · exact Or.inr (Or.inr (Or.inl ⟨key _ h3, by rw [if_neg h1, if_neg h2, if_pos h3]⟩))
  by_cases h4 : (op.toList == [47]) = true
  · exact Or.inr (Or.inr (Or.inr (Or.inl ⟨key _ h4, by rw [if_neg h1, if_neg h2, if_neg h3, if_pos h4]⟩)))
  by_cases h5 : (op.toList == [37]) = true
  · exact Or.inr (Or.inr (Or.inr (Or.inr (Or.inl ⟨key _ h5, by rw [if_neg h1, if_neg h2, if_neg h3, if_neg h4, if_pos h5]⟩))))
  · exact Or.inr (Or.inr (Or.inr (Or.inr (Or.inr ⟨by rw [if_neg h1, if_neg h2, if_neg h3, if_neg h4, if_neg h5], by simpa using h1, by simpa using h2, by simpa using h3, by simpa using h4, by simpa using h5⟩))))
theorem op1 (w : World) : Calls Tryz.prog 84 #[.string ⟨#[43]⟩] w fun e w' => e = .returned (.func (.func 109) #[] #[]) ∧ w = w' := by
  go_enter Tryz.func84, Tryz.ntmps84
  go_wp2
  go_ret
  exact ⟨rfl, rfl⟩
theorem op2 (w : World) : Calls Tryz.prog 84 #[.string ⟨#[45]⟩] w fun e w' => e = .returned (.func (.func 110) #[] #[]) ∧ w = w' := by
  go_enter Tryz.func84, Tryz.ntmps84
  go_wp2
  go_ret
  exact ⟨rfl, rfl⟩
theorem op3 (w : World) : Calls Tryz.prog 84 #[.string ⟨#[42]⟩] w fun e w' => e = .returned (.func (.func 111) #[] #[]) ∧ w = w' := by
  go_enter Tryz.func84, Tryz.ntmps84
  go_wp2
  go_ret
  exact ⟨rfl, rfl⟩
theorem op4 (w : World) : Calls Tryz.prog 84 #[.string ⟨#[47]⟩] w fun e w' => e = .returned (.func (.func 112) #[] #[]) ∧ w = w' := by
  go_enter Tryz.func84, Tryz.ntmps84
  go_wp2
  go_ret
  exact ⟨rfl, rfl⟩
theorem op5 (w : World) : Calls Tryz.prog 84 #[.string ⟨#[37]⟩] w fun e w' => e = .returned (.func (.func 113) #[] #[]) ∧ w = w' := by
  go_enter Tryz.func84, Tryz.ntmps84
  go_wp2
  go_ret
  exact ⟨rfl, rfl⟩
theorem op0 (op : ByteArray) (w : World) (h1 : (op.toList == [43]) = false) (h2 : (op.toList == [45]) = false) (h3 : (op.toList == [42]) = false) (h4 : (op.toList == [47]) = false) (h5 : (op.toList == [37]) = false) : Calls Tryz.prog 84 #[.string op] w fun e w' => e = .returned .nilFunc ∧ w = w' := by
  go_enter Tryz.func84, Tryz.ntmps84
  go_wp2
  go_ret
  exact ⟨rfl, rfl⟩
end Go.Proofs.YtcmbdghbicjljaaGreatDoor.SC
namespace Go.Proofs.YtcmbdghbicjljaaGreatDoor.BV
end Go.Proofs.YtcmbdghbicjljaaGreatDoor.BV
namespace Go.Proofs.YtcmbdghbicjljaaGreatDoor.SC
open Go.Proofs.YtcmbdghbicjljaaGreatDoor.BV
open Go.RowKit
def zV : V := ⟨0, 0, ⟨#[]⟩⟩
def nV (n : Int) : V := ⟨2, n, ⟨#[]⟩⟩
theorem number_any (n : Int) (w : World) : Calls Tryz.prog 82 #[.int .i64 n] w fun e w' => e = .returned (.agg #[.int .i64 2, .int .i64 n, .string ⟨#[]⟩]) ∧ Below w.heap.size w w' := by
  go_enter Tryz.func82, Tryz.ntmps82
  go_wp2
  exact bodyPost_ret (v := .agg #[.int .i64 2, .int .i64 n, .string ⟨#[]⟩]) (by simp [results, Tryz.results82, go_sem]) rfl ⟨rfl, (Below.refl _ w).alloc (Nat.le_refl _) _⟩
def arE (op : ByteArray) (a b : V) : Int := if opk op = 0 ∨ allOk [a, b] = false then 1 else if stE [4, 4, 0] [a, b] = 0 then (if nulB [a, b] then 0 else numE (opk op) a.i b.i) else 20
def arV (op : ByteArray) (a b : V) : V := if arE op a b = 0 ∧ nulB [a, b] = false then nV (numR (opk op) a.i b.i) else zV
theorem row2_made (w : World) (a b : V) : RowAt (w.alloc (.cells #[.int .i64 a.k, .int .i64 a.i, .string a.s, .int .i64 b.k, .int .i64 b.i, .string b.s] 23)) (w.heap.size + 1) (some ⟨w.heap.size, 0, none⟩) [a, b] := fun _ => by
  have hn : (w.alloc (.cells #[.int .i64 a.k, .int .i64 a.i, .string a.s, .int .i64 b.k, .int .i64 b.i, .string b.s] 23)).heap[w.heap.size]? = some (.cells _ 23 (0, 0)) := heap_alloc_new w _
  refine ⟨w.heap.size, 0, rfl, Nat.lt_succ_self _, fun j hj => ?_⟩
  match j, hj with
  | 0, _ => exact ⟨by rw [Lib.cell_of_heap hn]; rfl, by rw [Lib.cell_of_heap hn]; rfl, by rw [Lib.cell_of_heap hn]; rfl⟩
  | 1, _ => exact ⟨by rw [Lib.cell_of_heap hn]; rfl, by rw [Lib.cell_of_heap hn]; rfl, by rw [Lib.cell_of_heap hn]; rfl⟩
theorem wrong2_any (a b : V) (w : World) (H : Nat) (hH : w.heap.size = H) : Calls Tryz.prog 85 #[.slice (some ⟨H, 0, none⟩) 2 2] (w.alloc (.cells #[.int .i64 a.k, .int .i64 a.i, .string a.s, .int .i64 b.k, .int .i64 b.i, .string b.s] 23)) fun e w' => e = .returned (.bool (!allOk [a, b])) ∧ Below H w w' ∧ H + 1 ≤ w'.heap.size := by
  subst hH
  refine (wrong_any [a, b] _ 2 _ (by simpa using row2_made w a b) (by simp)).mono ?_
  rintro e w' ⟨rfl, hb⟩
  exact ⟨rfl, ((Below.refl _ w).alloc (Nat.le_refl _) _).trans (hb.mono (by simp)), by have := hb.size; simpa using this⟩
theorem strict2_any (k0 k1 k2 : Int) (a b : V) (w : World) (H : Nat) (hH : w.heap.size = H) (h0 : KindOk k0) (h1 : KindOk k1) (hok : allOk [a, b] = true) : Calls Tryz.prog 86 #[.agg #[.int .u64 k0, .int .u64 k1, .int .u64 k2], .slice (some ⟨H, 0, none⟩) 2 2] (w.alloc (.cells #[.int .i64 a.k, .int .i64 a.i, .string a.s, .int .i64 b.k, .int .i64 b.i, .string b.s] 23)) fun e w' => e = .returned (.tuple #[.bool (stN [k0, k1, k2] [a, b]), .int .i64 (stE [k0, k1, k2] [a, b])]) ∧ Below H w w' ∧ H + 1 ≤ w'.heap.size := by
  subst hH
  refine (strict_any k0 k1 k2 [a, b] _ 2 _ (by simpa using row2_made w a b) (by simp) (fun j hj => ?_) hok).mono ?_
  · match j, hj with
    | 0, _ => exact h0
    | 1, _ => exact h1
  · rintro e w' ⟨rfl, hb⟩
    exact ⟨rfl, ((Below.refl _ w).alloc (Nat.le_refl _) _).trans (hb.mono (by simp)), by have := hb.size; simpa using this⟩
end Go.Proofs.YtcmbdghbicjljaaGreatDoor.SC
namespace Go.Proofs.YtcmbdghbicjljaaGreatDoor.BV
end Go.Proofs.YtcmbdghbicjljaaGreatDoor.BV
namespace Go.Proofs.YtcmbdghbicjljaaGreatDoor.SC
open Go.Proofs.YtcmbdghbicjljaaGreatDoor.BV
open Go.RowKit
def VBox (w : World) (b : Nat) (v : V) : Prop := w.heap[b]? = some (.cells #[.int .i64 v.k, .int .i64 v.i, .string v.s] 23 (0, 0))
theorem VBox.lt {w : World} {b : Nat} {v : V} (h : VBox w b v) : b < w.heap.size := (Array.getElem?_eq_some_iff.1 h).1
theorem VBox.cells {w : World} {b : Nat} {v : V} (h : VBox w b v) : w.cell? ⟨b, 0, none⟩ = some (.int .i64 v.k) ∧ w.cell? ⟨b, 1, none⟩ = some (.int .i64 v.i) ∧ w.cell? ⟨b, 2, none⟩ = some (.string v.s) :=
  ⟨by rw [Lib.cell_of_heap h]; rfl, by rw [Lib.cell_of_heap h]; rfl, by rw [Lib.cell_of_heap h]; rfl⟩
theorem VBox.free {w : World} {b : Nat} {v : V} (h : VBox w b v) : w.frozen? ⟨b, 0, none⟩ = false ∧ w.frozen? ⟨b, 1, none⟩ = false ∧ w.frozen? ⟨b, 2, none⟩ = false :=
  ⟨Lib.frozen_of_heap h 0, Lib.frozen_of_heap h 1, Lib.frozen_of_heap h 2⟩
theorem VBox.later {w w' : World} {b : Nat} {v : V} (h : VBox w b v) (hb : Below w.heap.size w w') : VBox w' b v := (hb.block b h.lt).trans h
theorem VBox.made (w : World) (v : V) : VBox (w.alloc (.cells #[.int .i64 v.k, .int .i64 v.i, .string v.s] 23)) w.heap.size v := heap_alloc_new w _
def VBoxes : List (Nat × V) → World → Prop
  | [], _ => True
  | p :: l, W => VBox W p.1 p.2 ∧ VBoxes l W
theorem VBoxes.later {l : List (Nat × V)} {w w' : World} (h : VBoxes l w) (hb : Below w.heap.size w w') : VBoxes l w' := by
  induction l with
  | nil => trivial
  | cons p l ih => exact ⟨h.1.later hb, ih h.2⟩
theorem VBoxes.drew {l : List (Nat × V)} {w : World} (h : VBoxes l w) : VBoxes l w.drew := h.later ((Below.refl _ w).drew)
structure HV (w : World) (l : List (Nat × V)) (W : World) : Prop where
  below : Below w.heap.size w W
  boxes : VBoxes l W
theorem HV.nil (w : World) : HV w [] w := ⟨Below.refl _ _, trivial⟩
theorem HV.call {w W W2 : World} {l : List (Nat × V)} (h : HV w l W) (hb : Below W.heap.size W W2) : HV w l W2 := ⟨bthen h.below hb, h.boxes.later hb⟩
theorem HV.alloc {w W : World} {l : List (Nat × V)} (h : HV w l W) (o : Obj) : HV w l (W.alloc o) := h.call ((Below.refl _ _).alloc (Nat.le_refl _) o)
theorem HV.push {w W : World} {l : List (Nat × V)} (h : HV w l W) (v : V) : HV w ((W.heap.size, v) :: l) (W.alloc (.cells #[.int .i64 v.k, .int .i64 v.i, .string v.s] 23)) :=
  ⟨(h.alloc _).below, VBox.made W v, (h.alloc _).boxes⟩
theorem HV.pushAt {w W : World} {l : List (Nat × V)} {H : Nat} (hH : W.heap.size = H) (h : HV w l W) (v : V) : HV w ((H, v) :: l) (W.alloc (.cells #[.int .i64 v.k, .int .i64 v.i, .string v.s] 23)) := by
  subst hH
  exact h.push v
theorem HV.drew {w W : World} {l : List (Nat × V)} (h : HV w l W) : HV w l W.drew := ⟨h.below.drew, h.boxes.drew⟩
theorem HV.drewN {w W : World} {l : List (Nat × V)} (h : HV w l W) (n : Nat) : HV w l (W.drewN n) := h.call (below_drewN (Below.refl _ _) n)
theorem HV.tail {w W : World} {l : List (Nat × V)} {p : Nat × V} (h : HV w (p :: l) W) : HV w l W := ⟨h.below, h.boxes.2⟩
theorem HV.box {w W : World} {l : List (Nat × V)} {p : Nat × V} (h : HV w (p :: l) W) : VBox W p.1 p.2 := h.boxes.1
theorem Below.set3 {B : Nat} {a w : World} (h : Below B a w) {b : Nat} (hb : B ≤ b) (x y z : Value) : Below B a (((w.setCell ⟨b, 0, none⟩ x).setCell ⟨b, 1, none⟩ y).setCell ⟨b, 2, none⟩ z) := ((h.setCell hb _).setCell hb _).setCell hb _
theorem HV.read {w W : World} {l : List (Nat × V)} {b : Nat} {v : V} (h : HV w ((b, v) :: l) W) : W.cell? ⟨b, 0, none⟩ = some (.int .i64 v.k) ∧ W.cell? ⟨b, 1, none⟩ = some (.int .i64 v.i) ∧ W.cell? ⟨b, 2, none⟩ = some (.string v.s) := h.box.cells
theorem run_eql_func_nil (w : World) (fn : Go.Fn) (f c : Array Value) : (binOp .eql 86 (.func fn f c) .nilFunc).run Tryz.prog w = .ok (.bool false) w := by
  have h : ∀ d : Nat, (Op.equalIn (d + 1) 86 (.func fn f c) .nilFunc).run Tryz.prog w = .ok false w := fun d => by
    simp [Op.equalIn, run_underlying Tryz.underlying86]
  simp only [binOp]
  simp [Op.equal, Op.maxDepth, h 9999]
theorem run_eql_nil_nil (w : World) : (binOp .eql 86 .nilFunc .nilFunc).run Tryz.prog w = .ok (.bool true) w := by
  have h : ∀ d : Nat, (Op.equalIn (d + 1) 86 .nilFunc .nilFunc).run Tryz.prog w = .ok true w := fun d => by
    simp [Op.equalIn, run_underlying Tryz.underlying86]
  simp only [binOp]
  simp [Op.equal, Op.maxDepth, h 9999]
theorem bele {w w' : World} {H : Nat} (h : Below H w w') (hH : w.heap.size = H) : Below w.heap.size w w' := by subst hH; exact h
end Go.Proofs.YtcmbdghbicjljaaGreatDoor.SC
namespace Go.Proofs.YtcmbdghbicjljaaGreatDoor.BV
end Go.Proofs.YtcmbdghbicjljaaGreatDoor.BV
namespace Go.Proofs.YtcmbdghbicjljaaGreatDoor.SC
open Go.Proofs.YtcmbdghbicjljaaGreatDoor.BV
open Go.RowKit
def pcA (n : Nat) (m : Int) : Nat := (min (max m 1) ((n : Int) + 1)).toNat - 1
def pcB (n : Nat) (m k : Int) : Nat := if m < 1 ∨ k < (n : Int) + 1 - m then (min (max (m + k) (min (max m 1) ((n : Int) + 1))) ((n : Int) + 1)).toNat - 1 else n
def pc (s : ByteArray) (m k : Int) : ByteArray := s.extract (pcA s.size m) (pcB s.size m k)
theorem ret_str {a b : ByteArray} (h : a = b) : Ending.returned (.string a) = .returned (.string b) := by rw [h]
set_option maxHeartbeats 1000000 in
theorem piece_any (s : ByteArray) (m k : Int) (w : World) (hs : s.size ≤ 140737488355328) (hm : In64 m) (hk : 0 ≤ k) (hk' : k ≤ 9223372036854775807) :
    Calls Tryz.prog 175 #[.string s, .int .i64 m, .int .i64 k] w fun e w' => e = .returned (.string (pc s m k)) ∧ w = w' := by
  unfold In64 at hm
  go_enter Tryz.func175, Tryz.ntmps175
  go_wp2_with fail
  all_goals go_ret
  all_goals
    refine ⟨ret_str ?_, rfl⟩
    unfold pc pcA pcB
    first
    | rw [if_pos (by omega)]
    | rw [if_neg (by omega)]
end Go.Proofs.YtcmbdghbicjljaaGreatDoor.SC
namespace Go.Proofs.YtcmbdghbicjljaaGreatDoor.BV
end Go.Proofs.YtcmbdghbicjljaaGreatDoor.BV
namespace Go.Proofs.YtcmbdghbicjljaaGreatDoor.SC
open Go.Proofs.YtcmbdghbicjljaaGreatDoor.BV
open Go.RowKit
def Args (w : World) (H : Nat) (xs : List V) : Prop := w.heap[H]? = some (.cells (flat xs).toArray 23 (0, 0))
theorem Args.lt {w : World} {H : Nat} {xs : List V} (h : Args w H xs) : H < w.heap.size := (Array.getElem?_eq_some_iff.1 h).1
theorem Args.later {w w' : World} {H : Nat} {xs : List V} (h : Args w H xs) (hb : Below w.heap.size w w') : Args w' H xs := (hb.block H h.lt).trans h
theorem Args.row {w : World} {H : Nat} {xs : List V} (h : Args w H xs) : RowAt w w.heap.size (some ⟨H, 0, none⟩) xs :=
  RowAt.of_flat (fun j u hu => by
    rw [WideShapes.add_plain, Nat.zero_add, Lib.cell_of_heap h]
    simpa using hu) h.lt
theorem Args.drewN {w : World} {H : Nat} {xs : List V} (h : Args w H xs) (n : Nat) : Args (w.drewN n) H xs := h
theorem args1 {w : World} {H : Nat} {a : V} (hH : w.heap.size = H) : Args (w.alloc (.cells #[.int .i64 a.k, .int .i64 a.i, .string a.s] 23)) H [a] := by subst hH; exact heap_alloc_new w _
theorem args2 {w : World} {H : Nat} {a b : V} (hH : w.heap.size = H) : Args (w.alloc (.cells #[.int .i64 a.k, .int .i64 a.i, .string a.s, .int .i64 b.k, .int .i64 b.i, .string b.s] 23)) H [a, b] := by subst hH; exact heap_alloc_new w _
structure Env (w : World) : Prop where
  size : 1 ≤ w.heap.size
  max : ∃ m, w.cell? ⟨0, 0, none⟩ = some (.int .i64 m)
theorem Env.later {w w' : World} (h : Env w) (hb : Below w.heap.size w w') : Env w' :=
  ⟨Nat.le_trans h.size hb.size, by obtain ⟨m, hm⟩ := h.max; exact ⟨m, (hb.cell (p := ⟨0, 0, none⟩) (by show 0 < _; have := h.size; omega)).trans hm⟩⟩
theorem zero_box (w : World) : HV w [(w.heap.size, zV)] (w.alloc (.cells #[.int .i64 0, .int .i64 0, .string ⟨#[]⟩] 23)) := (HV.nil w).push zV
theorem Args.cell {w : World} {H : Nat} {xs : List V} (h : Args w H xs) (j : Nat) : w.cell? ⟨H, j, none⟩ = (flat xs)[j]? := by
  rw [Lib.cell_of_heap h]; simp
theorem index_le : ∀ s sub : List UInt8, Lib.index s sub ≤ s.length
  | [], sub => by unfold Lib.index; split <;> simp
  | b :: l, sub => by
    have := index_le l sub
    unfold Lib.index
    simp only [List.length_cons]
    split
    · omega
    · split <;> omega
theorem index_in (s t : ByteArray) : -1 ≤ Lib.index s.data.toList t.data.toList ∧ Lib.index s.data.toList t.data.toList ≤ s.size :=
  ⟨Lib.index_ge _ _, by have := index_le s.data.toList t.data.toList; simpa using this⟩
theorem text_any (s : ByteArray) (w : World) : Calls Tryz.prog 172 #[.string s] w fun e w' => e = .returned (.agg #[.int .i64 3, .int .i64 0, .string s]) ∧ Below w.heap.size w w' := by
  go_enter Tryz.func172, Tryz.ntmps172
  go_wp2
  exact bodyPost_ret (v := .agg #[.int .i64 3, .int .i64 0, .string s]) (by simp [results, Tryz.results172, go_sem]) rfl ⟨rfl, (Below.refl _ w).alloc (Nat.le_refl _) _⟩
set_option maxRecDepth 100000 in
set_option maxHeartbeats 2000000 in
theorem length_do (a : V) (H : Nat) (w : World) (h : Args w H [a]) (_hs : a.s.size ≤ 140737488355328) : Calls Tryz.prog 151 #[.slice (some ⟨H, 0, none⟩) 1 1] w fun e w' => e = .returned (.tuple #[.agg #[.int .i64 2, .int .i64 a.s.size, .string ⟨#[]⟩], .int .i64 0]) ∧ Below w.heap.size w w' := by
  have hl := h.lt
  have HZ := Lib.hid (zero_box w)
  have c2 : w.cell? ⟨H, 2, none⟩ = some (.string a.s) := h.cell 2
  clear h
  go_enter Tryz.func151, Tryz.ntmps151
  go_wp2_with fail
  refine (number_any _ _).mono ?_
  rintro e w1 ⟨rfl, hb⟩
  have H1 := Lib.hid (HZ.out.call hb)
  obtain ⟨g0, g1, g2⟩ := H1.out.box.cells
  obtain ⟨f0, f1, f2⟩ := H1.out.box.free
  simp only [zV] at g0 g1 g2
  clear c2
  go_wp2_with fail
  exact bodyPost_ret (v := .tuple #[.agg #[.int .i64 2, .int .i64 a.s.size, .string ⟨#[]⟩], .int .i64 0]) (by simp [results, Tryz.results151, go_sem, g0, g1, g2]) rfl ⟨rfl, Below.set3 H1.out.below (by omega) _ _ _⟩
set_option maxRecDepth 100000 in
set_option maxHeartbeats 2000000 in
theorem substr_do (a : V) (m k : Int) (H : Nat) (w : World) (h : Args w H [a, nV m, nV k]) (hs : a.s.size ≤ 140737488355328) (hm : In64 m) (hk : 0 ≤ k) (hk' : k ≤ 9223372036854775807) : Calls Tryz.prog 155 #[.slice (some ⟨H, 0, none⟩) 3 3] w fun e w' => e = .returned (.tuple #[.agg #[.int .i64 a.k, .int .i64 0, .string (pc a.s m k)], .int .i64 0]) ∧ Below w.heap.size w w' := by
  have hl := h.lt
  have HZ := Lib.hid (zero_box w)
  have h1 := h.later ((Below.refl _ w).alloc (Nat.le_refl _) (.cells #[.int .i64 0, .int .i64 0, .string ⟨#[]⟩] 23))
  have HA := Lib.hid h1
  have c7 : w.cell? ⟨H, 7, none⟩ = some (.int .i64 k) := h.cell 7
  have HP := Lib.hid (fun w => piece_any a.s m k w hs hm hk hk')
  clear h h1 hs hm
  generalize pc a.s m k = q at *
  go_enter Tryz.func155, Tryz.ntmps155
  go_wp2_with fail
  generalize w.alloc (.cells #[.int .i64 0, .int .i64 0, .string ⟨#[]⟩] 23) = W1 at *
  clear c7
  have c0 : W1.cell? ⟨H, 0, none⟩ = some (.int .i64 a.k) := HA.out.cell 0
  have c2 : W1.cell? ⟨H, 2, none⟩ = some (.string a.s) := HA.out.cell 2
  have c4 : W1.cell? ⟨H, 4, none⟩ = some (.int .i64 m) := HA.out.cell 4
  have c7 : W1.cell? ⟨H, 7, none⟩ = some (.int .i64 k) := HA.out.cell 7
  obtain ⟨g0, g1, g2⟩ := HZ.out.box.cells
  obtain ⟨f0, f1, f2⟩ := HZ.out.box.free
  simp only [zV] at g0 g1 g2
  refine wp_region_still_tail 18 (by kernel_rfl) (by kernel_rfl) ?_
  simp only [List.take_succ_cons, List.take_zero, List.drop_succ_cons, List.drop_zero]
  repeat still_step
  still_call (same_turn (HP.out _))
  repeat still_step
  refine wpStill_nil ?_
  change wpList _ _ _ _ _ W1.drew
  go_wp2_with fail
  exact bodyPost_ret (v := .tuple #[.agg #[.int .i64 a.k, .int .i64 0, .string q], .int .i64 0]) (by simp [results, Tryz.results155, go_sem, g0, g1, g2]) rfl ⟨rfl, Below.set3 HZ.out.below.drew (Nat.le_refl _) _ _ _⟩
set_option maxRecDepth 100000 in
set_option maxHeartbeats 2000000 in
theorem instr_do (a b : V) (H : Nat) (w : World) (h : Args w H [a, b]) (hE : Env w) (hs : a.s.size < 4294967281) : Calls Tryz.prog 156 #[.slice (some ⟨H, 0, none⟩) 2 2] w fun e w' => e = .returned (.tuple #[.agg #[.int .i64 2, .int .i64 (Lib.index a.s.data.toList b.s.data.toList + 1), .string ⟨#[]⟩], .int .i64 0]) ∧ Below w.heap.size w w' := by
  have hl := h.lt
  have HZ := Lib.hid (zero_box w)
  have h1 := h.later ((Below.refl _ w).alloc (Nat.le_refl _) (.cells #[.int .i64 0, .int .i64 0, .string ⟨#[]⟩] 23))
  have HA := Lib.hid h1
  have HE := Lib.hid hE
  have hr : -1 ≤ Lib.index a.s.data.toList b.s.data.toList ∧ Lib.index a.s.data.toList b.s.data.toList ≤ a.s.size := index_in a.s b.s
  have HI : Hid (∀ w' m, w'.cell? ⟨0, 0, none⟩ = some (.int .i64 m) → Calls Tryz.prog 176 #[.string a.s, .string b.s] w' fun e w2 => e = .returned (.int .i64 (Lib.index a.s.data.toList b.s.data.toList)) ∧ w2 = w') := fun w' m hm => Tryz.strings_Index a.s b.s m w' hs hm
  clear h h1 hE
  generalize Lib.index a.s.data.toList b.s.data.toList = x at *
  have hx1 := hr.1
  have hx2 := hr.2
  clear hr
  go_enter Tryz.func156, Tryz.ntmps156
  go_wp2_with fail
  generalize w.alloc (.cells #[.int .i64 0, .int .i64 0, .string ⟨#[]⟩] 23) = W1 at *
  have c2 : W1.cell? ⟨H, 2, none⟩ = some (.string a.s) := HA.out.cell 2
  have c5 : W1.cell? ⟨H, 5, none⟩ = some (.string b.s) := HA.out.cell 5
  go_still_tail 8, (by kernel_rfl)
  change wpList _ _ _ _ _ W1.drew
  obtain ⟨m, hm⟩ := (HE.out.later (HZ.out.below.drew)).max
  have HM := Lib.hid hm
  clear hm
  go_wp2_with (go_at_call 176; refine (HI.out _ m HM.out).mono ?_; rintro e w' ⟨rfl, rfl⟩)
  refine (number_any _ _).mono ?_
  rintro e w1 ⟨rfl, hb⟩
  have H1 := Lib.hid (HZ.out.drew.call hb)
  obtain ⟨g0, g1, g2⟩ := H1.out.box.cells
  obtain ⟨f0, f1, f2⟩ := H1.out.box.free
  simp only [zV] at g0 g1 g2
  clear c2 c5
  go_wp2_with fail
  exact bodyPost_ret (v := .tuple #[.agg #[.int .i64 2, .int .i64 (x + 1), .string ⟨#[]⟩], .int .i64 0]) (by simp [results, Tryz.results156, go_sem, g0, g1, g2]) rfl ⟨rfl, Below.set3 H1.out.below (Nat.le_refl _) _ _ _⟩
end Go.Proofs.YtcmbdghbicjljaaGreatDoor.SC
namespace Go.Proofs.YtcmbdghbicjljaaGreatDoor.BV
end Go.Proofs.YtcmbdghbicjljaaGreatDoor.BV
namespace Go.Proofs.YtcmbdghbicjljaaGreatDoor.SC
open Go.Proofs.YtcmbdghbicjljaaGreatDoor.BV
open Go.RowKit
def FnBox (w : World) (b : Nat) (x : Fn) : Prop := w.heap[b]? = some (.cells #[.string x.nm, .int .i64 x.lo, .int .i64 x.hi, .int .u64 x.k0, .int .u64 x.k1, .int .u64 x.k2, .func (.func x.f) #[] #[]] 97 (0, 0))
theorem FnBox.made (w : World) (x : Fn) : FnBox (w.alloc (.cells #[.string x.nm, .int .i64 x.lo, .int .i64 x.hi, .int .u64 x.k0, .int .u64 x.k1, .int .u64 x.k2, .func (.func x.f) #[] #[]] 97)) w.heap.size x := heap_alloc_new w _
theorem FnBox.later {w w' : World} {b : Nat} {x : Fn} (h : FnBox w b x) (hb : Below w.heap.size w w') : FnBox w' b x := (hb.block b (Array.getElem?_eq_some_iff.1 h).1).trans h
theorem FnBox.cells {w : World} {b : Nat} {x : Fn} (h : FnBox w b x) : w.cell? ⟨b, 0, none⟩ = some (.string x.nm) ∧ w.cell? ⟨b, 1, none⟩ = some (.int .i64 x.lo) ∧ w.cell? ⟨b, 2, none⟩ = some (.int .i64 x.hi) ∧ w.cell? ⟨b, 3, none⟩ = some (.int .u64 x.k0) ∧ w.cell? ⟨b, 4, none⟩ = some (.int .u64 x.k1) ∧ w.cell? ⟨b, 5, none⟩ = some (.int .u64 x.k2) ∧ w.cell? ⟨b, 6, none⟩ = some (.func (.func x.f) #[] #[]) := by
  unfold FnBox at h
  refine ⟨?_, ?_, ?_, ?_, ?_, ?_, ?_⟩ <;> (rw [Lib.cell_of_heap h]; rfl)
end Go.Proofs.YtcmbdghbicjljaaGreatDoor.SC
namespace Go.Proofs.YtcmbdghbicjljaaGreatDoor.BV
end Go.Proofs.YtcmbdghbicjljaaGreatDoor.BV
namespace Go.Proofs.YtcmbdghbicjljaaGreatDoor.SC
open Go.Proofs.YtcmbdghbicjljaaGreatDoor.BV
open Go.RowKit
def byteAt (s : ByteArray) (j : Nat) : Nat := (s.data.toList.getD j 0).toNat
def tog (f : Nat) (c : Nat) : Nat := if f ≤ c ∧ c < f + 26 then c ^^^ 32 else c
theorem byte_lt (s : ByteArray) (j : Nat) : byteAt s j < 256 := UInt8.toNat_lt _
theorem keep_cells {w : World} {g n k f : Nat} {B : Nat → Nat} (h : ∀ j, j < n → w.cell? ⟨g, j, none⟩ = some (.int .u8 (if j < k then tog f (B j) else B j : Nat))) (hk : tog f (B k) = B k) : ∀ j, j < n → w.cell? ⟨g, j, none⟩ = some (.int .u8 (if j < k + 1 then tog f (B j) else B j : Nat)) := by
  intro j hj
  rw [h j hj]
  by_cases e : j = k
  · subst e
    rw [if_neg (by omega), if_pos (by omega), hk]
  · by_cases e2 : j < k
    · rw [if_pos e2, if_pos (by omega)]
    · rw [if_neg e2, if_neg (by omega)]
theorem set_cells {w : World} {g n k f : Nat} {B : Nat → Nat} {x : Int} (h : ∀ j, j < n → w.cell? ⟨g, j, none⟩ = some (.int .u8 (if j < k then tog f (B j) else B j : Nat))) (hkn : k < n) (hk : x = (tog f (B k) : Nat)) : ∀ j, j < n → (w.setCell ⟨g, k, none⟩ (.int .u8 x)).cell? ⟨g, j, none⟩ = some (.int .u8 (if j < k + 1 then tog f (B j) else B j : Nat)) := by
  intro j hj
  by_cases e : j = k
  · subst e
    rw [if_pos (by omega), ← hk]
    exact World.cell?_setCell_same _ _ _ (h j hj)
  · rw [World.cell?_setCell_other _ _ _ _ (by simp <;> omega), h j hj]
    by_cases e2 : j < k
    · rw [if_pos e2, if_pos (by omega)]
    · rw [if_neg e2, if_neg (by omega)]
theorem bits_xor : ∀ b : Nat, b < 256 → bits .xor .u8 (b : Int) 32 = ((b ^^^ 32 : Nat) : Int) := by decide +kernel
theorem bytes_below (w : World) (s : ByteArray) : Below w.heap.size w (Lib.bytesWorld w 5 s) := ⟨rfl, rfl, rfl, by rw [Lib.bytesWorld_size]; omega, fun j hj => Lib.bytesWorld_at_old w 5 s j hj⟩
theorem bytes_free (w : World) (s : ByteArray) : ∀ j, j < s.size → (Lib.bytesWorld w 5 s).frozen? ⟨w.heap.size, j, none⟩ = false := by
  intro j hj
  unfold World.frozen?
  rw [Lib.bytesWorld_at_new]
  simp [Lib.bytesCells]
  omega
def turnedL (f : Nat) (s : ByteArray) : List Int := (List.range s.size).map fun j => ((tog f (byteAt s j) : Nat) : Int)
def turnedB (f : Nat) (s : ByteArray) : ByteArray := (turnedL f s).foldl (fun r n => r.push (UInt8.ofNat n.toNat)) ByteArray.empty
theorem back_str {w : World} {g : Nat} {s : ByteArray} {f n c : Nat} (hn : n = s.size) (h : ∀ j, j < n → w.cell? ⟨g, j, none⟩ = some (.int .u8 (if j < n then tog f (byteAt s j) else byteAt s j : Nat))) : (convert 154 9 (.slice (some ⟨g, 0, none⟩) n c)).run Tryz.prog w = .ok (.string (turnedB f s)) w := by
  rw [run_convert_bytes_string w 154 9 5 _ _ _ Tryz.underlying154 Tryz.underlying5 Tryz.underlying9]
  unfold turnedB
  refine run_bytesToString w _ n c (turnedL f s) ?_
  have hl := run_loadCells (P := Tryz.prog) (w := w) ⟨g, 0, none⟩ n (fun j => .int .u8 (tog f (byteAt s j) : Nat)) (fun j hj => by
    rw [WideShapes.add_plain, Nat.zero_add, h j hj, if_pos hj])
  rw [hl]
  unfold turnedL
  rw [← hn]
  simp [List.map_map]
set_option maxRecDepth 100000 in
set_option maxHeartbeats 2000000 in
theorem turned65 (s : ByteArray) (w : World) (hs : s.size ≤ 100000000) : Calls Tryz.prog 173 #[.string s, .int .u8 65] w fun e w' => e = .returned (.string (turnedB 65 s)) ∧ Below w.heap.size w w' := by
  obtain ⟨n, hn⟩ : ∃ n, n = s.size := ⟨_, rfl⟩
  have hc := Lib.run_convert_string_bytes w 9 154 5 s Tryz.underlying9 Tryz.underlying154 Tryz.underlying5
  have hB0 := Lib.hid (bytes_below w s)
  have hC0 := Lib.hid (fun j hj => Lib.bytesWorld_cell w 5 s j hj)
  have hF0 := Lib.hid (bytes_free w s)
  have hZ0 := Lib.hid (Lib.bytesWorld_size w 5 s)
  rw [← hn] at hc hs hC0 hF0
  have HN := Lib.hid hn
  clear hn
  go_enter Tryz.func173, Tryz.ntmps173
  go_wp2_with fail
  clear hc
  generalize Lib.bytesWorld w 5 s = W0 at *
  generalize grownCap w n 0 5 = cap at *
  go_loopw [12] (fun i wr => ∃ k : Nat, k ≤ n ∧ i = .int .i64 k ∧ w.heap.size < wr.heap.size ∧ Hid (Below w.heap.size w wr) ∧ Hid (∀ j, j < n → wr.cell? ⟨w.heap.size, j, none⟩ = some (.int .u8 (if j < k then tog 65 (byteAt s j) else byteAt s j : Nat))) ∧ Hid (∀ j, j < n → wr.frozen? ⟨w.heap.size, j, none⟩ = false)) (fun i _ => n - (intOf i).toNat)
  case atStart => exact ⟨0, Nat.zero_le _, rfl, by rw [hZ0.out]; omega, hB0.out, fun j hj => by rw [hC0.out j hj]; rfl, hF0.out⟩
  case round =>
    obtain ⟨k, hk, rfl, hz, HB, HC, HF⟩ := hrel
    by_cases hlt : k < n
    · have c0 := HC.out k hlt
      rw [if_neg (by omega)] at c0
      have f0 := HF.out k hlt
      have hb := byte_lt s k
      have HT : Hid (tog 65 (byteAt s k) = if 65 ≤ byteAt s k ∧ byteAt s k < 65 + 26 then byteAt s k ^^^ 32 else byteAt s k) := rfl
      obtain ⟨b, hbb⟩ : ∃ b, b = byteAt s k := ⟨_, rfl⟩
      rw [← hbb] at c0 hb HT
      have HBB := Lib.hid hbb
      clear hbb
      by_cases h1 : 65 ≤ b
      · by_cases h2 : b < 91
        · go_wp2_with fail
          go_roundw
          case rel => exact ⟨k + 1, by omega, by go_num, by simpa using hz, HB.out.setCell (Nat.le_refl _) _, set_cells HC.out hlt (by rw [← HBB.out, HT.out, if_pos ⟨h1, by omega⟩]; exact bits_xor b hb), fun j hj => by rw [World.frozen?_setCell]; exact HF.out j hj⟩
          case measure => simp [intOf]; omega
        · go_wp2_with fail
          go_roundw
          case rel => exact ⟨k + 1, by omega, by go_num, hz, HB.out, keep_cells HC.out (by rw [← HBB.out, HT.out, if_neg (by omega)]), HF.out⟩
          case measure => simp [intOf]; omega
      · go_wp2_with fail
        go_roundw
        case rel => exact ⟨k + 1, by omega, by go_num, hz, HB.out, keep_cells HC.out (by rw [← HBB.out, HT.out, if_neg (by omega)]), HF.out⟩
        case measure => simp [intOf]; omega
    · obtain rfl : k = n := by omega
      have hback := back_str (c := cap) HN.out HC.out
      go_wp2_with fail
      go_ret
      exact ⟨rfl, HB.out⟩
set_option maxRecDepth 100000 in
set_option maxHeartbeats 2000000 in
theorem turned97 (s : ByteArray) (w : World) (hs : s.size ≤ 100000000) : Calls Tryz.prog 173 #[.string s, .int .u8 97] w fun e w' => e = .returned (.string (turnedB 97 s)) ∧ Below w.heap.size w w' := by
  obtain ⟨n, hn⟩ : ∃ n, n = s.size := ⟨_, rfl⟩
  have hc := Lib.run_convert_string_bytes w 9 154 5 s Tryz.underlying9 Tryz.underlying154 Tryz.underlying5
  have hB0 := Lib.hid (bytes_below w s)
  have hC0 := Lib.hid (fun j hj => Lib.bytesWorld_cell w 5 s j hj)
  have hF0 := Lib.hid (bytes_free w s)
  have hZ0 := Lib.hid (Lib.bytesWorld_size w 5 s)
  rw [← hn] at hc hs hC0 hF0
  have HN := Lib.hid hn
  clear hn
  go_enter Tryz.func173, Tryz.ntmps173
  go_wp2_with fail
  clear hc
  generalize Lib.bytesWorld w 5 s = W0 at *
  generalize grownCap w n 0 5 = cap at *
  go_loopw [12] (fun i wr => ∃ k : Nat, k ≤ n ∧ i = .int .i64 k ∧ w.heap.size < wr.heap.size ∧ Hid (Below w.heap.size w wr) ∧ Hid (∀ j, j < n → wr.cell? ⟨w.heap.size, j, none⟩ = some (.int .u8 (if j < k then tog 97 (byteAt s j) else byteAt s j : Nat))) ∧ Hid (∀ j, j < n → wr.frozen? ⟨w.heap.size, j, none⟩ = false)) (fun i _ => n - (intOf i).toNat)
  case atStart => exact ⟨0, Nat.zero_le _, rfl, by rw [hZ0.out]; omega, hB0.out, fun j hj => by rw [hC0.out j hj]; rfl, hF0.out⟩
  case round =>
    obtain ⟨k, hk, rfl, hz, HB, HC, HF⟩ := hrel
    by_cases hlt : k < n
    · have c0 := HC.out k hlt
      rw [if_neg (by omega)] at c0
      have f0 := HF.out k hlt
      have hb := byte_lt s k
      have HT : Hid (tog 97 (byteAt s k) = if 97 ≤ byteAt s k ∧ byteAt s k < 97 + 26 then byteAt s k ^^^ 32 else byteAt s k) := rfl
      obtain ⟨b, hbb⟩ : ∃ b, b = byteAt s k := ⟨_, rfl⟩
      rw [← hbb] at c0 hb HT
      have HBB := Lib.hid hbb
      clear hbb
      by_cases h1 : 97 ≤ b
      · by_cases h2 : b < 123
        · go_wp2_with fail
          go_roundw
          case rel => exact ⟨k + 1, by omega, by go_num, by simpa using hz, HB.out.setCell (Nat.le_refl _) _, set_cells HC.out hlt (by rw [← HBB.out, HT.out, if_pos ⟨h1, by omega⟩]; exact bits_xor b hb), fun j hj => by rw [World.frozen?_setCell]; exact HF.out j hj⟩
          case measure => simp [intOf]; omega
        · go_wp2_with fail
          go_roundw
          case rel => exact ⟨k + 1, by omega, by go_num, hz, HB.out, keep_cells HC.out (by rw [← HBB.out, HT.out, if_neg (by omega)]), HF.out⟩
          case measure => simp [intOf]; omega
      · go_wp2_with fail
        go_roundw
        case rel => exact ⟨k + 1, by omega, by go_num, hz, HB.out, keep_cells HC.out (by rw [← HBB.out, HT.out, if_neg (by omega)]), HF.out⟩
        case measure => simp [intOf]; omega
    · obtain rfl : k = n := by omega
      have hback := back_str (c := cap) HN.out HC.out
      go_wp2_with fail
      go_ret
      exact ⟨rfl, HB.out⟩
end Go.Proofs.YtcmbdghbicjljaaGreatDoor.SC
namespace Go.Proofs.YtcmbdghbicjljaaGreatDoor.BV
end Go.Proofs.YtcmbdghbicjljaaGreatDoor.BV
namespace Go.Proofs.YtcmbdghbicjljaaGreatDoor.SC
open Go.Proofs.YtcmbdghbicjljaaGreatDoor.BV
open Go.RowKit
end Go.Proofs.YtcmbdghbicjljaaGreatDoor.SC
namespace Go.Proofs.YtcmbdghbicjljaaGreatDoor.BV
end Go.Proofs.YtcmbdghbicjljaaGreatDoor.BV
namespace Go.Proofs.YtcmbdghbicjljaaGreatDoor.SC
open Go.Proofs.YtcmbdghbicjljaaGreatDoor.BV
open Go.RowKit
end Go.Proofs.YtcmbdghbicjljaaGreatDoor.SC
namespace Go.Proofs.YtcmbdghbicjljaaGreatDoor.BV
end Go.Proofs.YtcmbdghbicjljaaGreatDoor.BV
namespace Go.Proofs.YtcmbdghbicjljaaGreatDoor.SC
open Go.Proofs.YtcmbdghbicjljaaGreatDoor.BV
open Go.RowKit
end Go.Proofs.YtcmbdghbicjljaaGreatDoor.SC
