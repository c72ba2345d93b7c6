/- Plain facts on the order of values and rows (no program): comparing numbers, bytes, values and lists of values is an order: it answers -1, 0 or 1, turned round it is turned round, it is 0 just where both are the same, and it goes on. No condition. -/
import Derived.Lib.Bytealg
import Derived.Sort.Walk0
import Derived.Test.YthohfegnphocbaaGreatDoorProg
import Derived.WalkKit
import Derived.WalkSpells
import Derived.WalkLawsBesides
import Derived.Lib.Hide
import Derived.Deep.Light
import Derived.Test.YthohfegnphocbaaGreatDoorShelf
import Derived.Lib.Builder
import Derived.Lib.AppendStr
import Derived.Lib.UnsafeStr
import Derived.Lib.Walk
import Derived.Laws.Externs
import Derived.Laws.IdiomCopy
import Derived.StillTailTactics
import Derived.Lib.Replace
import Derived.Lib.SplitLaws
import Derived.Lib.ItoaNum
import Derived.Deep.RegionHeld3
import Derived.Lib.ItoaLen
import Derived.Deep.RegionWith
import Derived.Lib.AppendIntMem
import Derived.WalkSmall
import Derived.Lib.LaidTab
namespace Go.Proofs.YthohfegnphocbaaGreatDoor.BV

structure V where
  k : Int
  i : Int
  s : ByteArray

structure CmpOk {α : Type} (c : α → α → Int) : Prop where
  range : ∀ a b, c a b = -1 ∨ c a b = 0 ∨ c a b = 1
  flip : ∀ a b, c b a = - c a b
  zero : ∀ a b, c a b = 0 ↔ a = b
  trans : ∀ a b d, c a b = -1 → c b d = -1 → c a d = -1

theorem CmpOk.pos {α : Type} {c : α → α → Int} (h : CmpOk c) {a b : α} (h1 : c a b = 1) : c b a = -1 := by have := h.flip a b; omega
theorem CmpOk.le_trans {α : Type} {c : α → α → Int} (h : CmpOk c) {a b d : α} (h1 : c a b ≤ 0) (h2 : c b d ≤ 0) : c a d ≤ 0 := by
  rcases h.range a b with p | p | p
  · rcases h.range b d with q | q | q
    · have := h.trans _ _ _ p q; omega
    · obtain rfl := (h.zero _ _).1 q; omega
    · omega
  · obtain rfl := (h.zero _ _).1 p; omega
  · omega
end Go.Proofs.YthohfegnphocbaaGreatDoor.BV
namespace Go.Proofs.YthohfegnphocbaaGreatDoor.BV
open Go.RowKit

theorem ret_int {k : IntKind} {a b : Int} (h : a = b) : Ending.returned (.int k a) = .returned (.int k b) := by rw [h]
def emp (s : ByteArray) : Bool := s.toList.isEmpty
def mayB (k i : Int) (s : ByteArray) : Bool :=
  if k == 0 then i == 0 && emp s else if k == 1 then (i == 0 || i == 1) && emp s else if k == 2 then emp s else if k == 3 || k == 4 then i == 0 else false
def sameB (k i : Int) (s : ByteArray) (k' i' : Int) (s' : ByteArray) : Bool := k == k' && (i == i' && s.toList == s'.toList)
def chkI (k i : Int) (s : ByteArray) : Int := if mayB k i s then 0 else 1

set_option maxHeartbeats 400000 in
theorem mayBe_any (k i : Int) (s : ByteArray) (w : World) :
    Calls Tryz.prog 129 #[.agg #[.int .i64 k, .int .i64 i, .string s]] w fun e w' => e = .returned (.bool (mayB k i s)) ∧ Below w.heap.size w w' := by
  go_enter Tryz.func129, Tryz.ntmps129
  go_wp2
  all_goals go_ret
  all_goals refine ⟨?_, (Below.refl _ _).alloc (Nat.le_refl _) _⟩
  all_goals (go_light; simp [mayB, emp, *])

set_option maxHeartbeats 400000 in
theorem check_any (k i : Int) (s : ByteArray) (w : World) :
    Calls Tryz.prog 88 #[.agg #[.int .i64 k, .int .i64 i, .string s]] w fun e w' => e = .returned (.int .i64 (chkI k i s)) ∧ Below w.heap.size w w' := by
  cases hm : mayB k i s
  all_goals
    have HC := mayBe_any k i s
    rw [hm] at HC
    have H : Hid (mayB k i s = _) := hm
    clear hm
    go_enter Tryz.func88, Tryz.ntmps88
    go_wp2_with (go_at_call 129; refine (HC _).mono ?_; rintro e w' ⟨rfl, hb⟩)
    go_ret
    exact ⟨by simp [chkI, H.out], ((Below.refl _ _).alloc (Nat.le_refl _) _).trans (hb.mono (by simp))⟩

end Go.Proofs.YthohfegnphocbaaGreatDoor.BV
namespace Go.Proofs.YthohfegnphocbaaGreatDoor.BV
open Go.RowKit
set_option maxHeartbeats 400000 in
theorem same_any (k i k' i': Int) (s s' : ByteArray) (w : World) :
    Calls Tryz.prog 44 #[.agg #[.int .i64 k, .int .i64 i, .string s], .agg #[.int .i64 k', .int .i64 i', .string s']] w fun e w' => e = .returned (.bool (sameB k i s k' i' s')) ∧ Below w.heap.size w w' := by
  go_enter Tryz.func44, Tryz.ntmps44
  go_wp2
  all_goals go_ret
  all_goals refine ⟨?_, ((Below.refl _ _).alloc (Nat.le_refl _) _).alloc (by simp) _⟩
  all_goals (go_light; simp [sameB, *])

set_option maxHeartbeats 400000 in
theorem rsame_any (k i k' i': Int) (s s' : ByteArray) (w : World) :
    Calls Tryz.prog 30 #[.agg #[.int .i64 k, .int .i64 i, .string s], .agg #[.int .i64 k', .int .i64 i', .string s']] w fun e w' => e = .returned (.bool (sameB k i s k' i' s')) ∧ Below w.heap.size w w' := by
  go_enter Tryz.func30, Tryz.ntmps30
  go_wp2
  all_goals go_ret
  all_goals refine ⟨?_, ((Below.refl _ _).alloc (Nat.le_refl _) _).alloc (by simp) _⟩
  all_goals (go_light; simp [sameB, *])
end Go.Proofs.YthohfegnphocbaaGreatDoor.BV
namespace Go.Proofs.YthohfegnphocbaaGreatDoor.BV
open Go.RowKit
theorem infoB : (Tryz.prog.info? 69).map (fun j => j.size) = some 2 := by kernel_rfl
theorem liesB : liesAt Tryz.prog Tryz.prog.depth 129 (2 / Tryz.prog.cellsOf 129) 0 69 1 = true := by kernel_rfl
theorem info5 : (Tryz.prog.info? 5).map (fun i => (i.zero, i.size, i.bytes)) = some (some (.int .u8 0), 1, 1) := by kernel_rfl
set_option maxHeartbeats 1000000 in
set_option maxRecDepth 100000 in
theorem copyCheck_used (b : Nat) (w : World) (h0 : w.cell? ⟨b, 0, none⟩ = some (.pointer (some ⟨b, 0, none⟩))) :
    Calls Tryz.prog 120 #[.pointer (some ⟨b, 0, none⟩)] w fun e w' => e = .returned (.tuple #[]) ∧ w' = w := by
  obtain ⟨j, hj, _⟩ := Option.map_eq_some_iff.1 infoB
  go_enter Tryz.func120, Tryz.ntmps120
  go_wp2
  rw [Lib.run_neq_ptr_same w _ Tryz.underlying66 hj]
  go_wp2
  go_end0
  exact ⟨rfl, rfl⟩
set_option maxHeartbeats 1000000 in
set_option maxRecDepth 100000 in
theorem copyCheck_fresh (b : Nat) (w : World) (h0 : w.cell? ⟨b, 0, none⟩ = some (.pointer none)) (hsh : w.shape? b = some (129, 2)) (hfz : w.frozen? ⟨b, 0, none⟩ = false) :
    Calls Tryz.prog 120 #[.pointer (some ⟨b, 0, none⟩)] w fun e w' => e = .returned (.tuple #[]) ∧ w' = w.setCell ⟨b, 0, none⟩ (.pointer (some ⟨b, 0, none⟩)) := by
  obtain ⟨j, hj, hjs⟩ := Option.map_eq_some_iff.1 infoB
  go_enter Tryz.func120, Tryz.ntmps120
  go_wp2
  rw [Lib.run_to_unsafe w ⟨b, 0, none⟩ Tryz.underlying66 Tryz.underlying146 hj (by rw [hjs]; decide) hsh (Nat.zero_lt_succ 1)]
  simp only [Result.andThen]
  rw [Oper.upon_value]
  go_wp2
  rw [run_callFunc_extern Tryz.func149 (by kernel_rfl) (by kernel_rfl) (by kernel_rfl) (e := Extern.AbiNoEscape.same) (by kernel_rfl)]
  rw [Lib.run_noEscape]
  simp only [Result.andThen]
  rw [Oper.upon_value]
  go_wp2
  rw [Lib.run_from_unsafe w ⟨b, 0, none⟩ Tryz.underlying146 Tryz.underlying66 hj hsh liesB]
  simp only [Result.andThen]
  rw [Oper.upon_value]
  go_wp2
  go_end0
  exact ⟨rfl, rfl⟩

def Keep (w w' : World) : Prop := ∀ (k : Nat) (cs : Array Value) (t : TypeId) (f : Nat × Nat), t ≠ 129 → t ≠ 5 → w.heap[k]? = some (.cells cs t f) → w'.heap[k]? = some (.cells cs t f)
theorem Keep.refl (w : World) : Keep w w := fun _ _ _ _ _ _ h => h
theorem Keep.trans {a b c : World} (h : Keep a b) (h' : Keep b c) : Keep a c := fun k cs t f h1 h2 h3 => h' k cs t f h1 h2 (h k cs t f h1 h2 h3)
theorem Keep.setCell {w : World} {b o : Nat} {c : Array Value} {f : Nat × Nat} (hb : w.heap[b]? = some (.cells c 129 f)) (u : Value) : Keep w (w.setCell ⟨b, o, none⟩ u) := fun k cs t f' h1 _ h3 => by
  rw [Below.heap_setCell w _ _ k ?_]
  · exact h3
  · intro e
    have e' : k = b := e
    subst e'
    rw [hb] at h3
    simp at h3
    exact h1 h3.2.1.symm
theorem Keep.grown {w w' : World} {v : Value} {n : Nat} {B : Nat} {xs : List Value} (hg : w.grownBy w' v.ownBlock) (hown : w.ownsRow B 5 1 v n xs) : Keep w w' := fun k cs t f _ h2 h3 => by
  have hlt : k < w.heap.size := by
    rcases Nat.lt_or_ge k w.heap.size with h' | h'
    · exact h'
    · simp [Array.getElem?_eq_none h'] at h3
  rw [hg.block k hlt ?_]
  · exact h3
  · intro e
    rcases hown.2 with ⟨hv, _⟩ | ⟨g, cap, cur, hv, _, hgg, _⟩
    · rw [hv] at e; simp [Value.ownBlock] at e
    · rw [hv] at e
      simp [Value.ownBlock] at e
      subst e
      rw [hgg] at h3
      simp at h3
      exact h2 h3.2.1.symm
theorem Keep.alloc (w : World) (o : Obj) : Keep w (w.alloc o) := fun k cs t f _ _ h3 => by
  have hlt : k < w.heap.size := by
    rcases Nat.lt_or_ge k w.heap.size with h' | h'
    · exact h'
    · simp [Array.getElem?_eq_none h'] at h3
  rw [Below.heap_alloc w o k hlt]
  exact h3

theorem copyCheck_any (B b : Nat) (bs : List Value) (w : World) (h : Lib.IsBuilder 129 5 B b bs w) :
    Calls Tryz.prog 120 #[.pointer (some ⟨b, 0, none⟩)] w fun e w' => e = .returned (.tuple #[]) ∧ (Lib.BuilderAt 129 5 B b (.pointer (some ⟨b, 0, none⟩)) bs w' ∧ Below B w w' ∧ Keep w w') := by
  rcases h with h | h
  · refine (copyCheck_fresh b w h.cell0 h.shape h.frozen0).mono ?_
    rintro e w' ⟨rfl, rfl⟩
    obtain ⟨_, v, hbk, _⟩ := id h
    exact ⟨rfl, h.used _, (Below.refl B w).setCell (p := ⟨b, 0, none⟩) h.1 _, Keep.setCell hbk _⟩
  · refine (copyCheck_used b w h.cell0).mono ?_
    rintro e w' ⟨rfl, rfl⟩
    exact ⟨rfl, h, Below.refl B _, Keep.refl _⟩

set_option maxHeartbeats 2000000 in
set_option maxRecDepth 100000 in
theorem writeByte_any (B b : Nat) (bs : List Value) (c : Int) (w : World) (h : Lib.IsBuilder 129 5 B b bs w) (hlen : bs.length + 1 ≤ 140737488355328) (hBw : B ≤ w.heap.size) :
    Calls Tryz.prog 78 #[.pointer (some ⟨b, 0, none⟩), .int .u8 c] w fun e w' => e = .returned .nilIface ∧ (Lib.IsBuilder 129 5 B b (bs ++ [.int .u8 c]) w' ∧ Below B w w' ∧ Keep w w') := by
  obtain ⟨i0, hi, hz0, hz1, hz2⟩ := info_parts info5
  go_enter Tryz.func78, Tryz.ntmps78
  go_wp2_with (go_at_call 120; refine (copyCheck_any B b bs _ h).mono ?_)
  rintro e w1 ⟨rfl, h1, hb1, hk1⟩
  obtain ⟨hB, v, hbk, hown, hne⟩ := h1
  have c0 : w1.cell? ⟨b, 0, none⟩ = some (.pointer (some ⟨b, 0, none⟩)) := by rw [Lib.cell_of_heap hbk]; rfl
  have c1 : w1.cell? ⟨b, 1, none⟩ = some v := by rw [Lib.cell_of_heap hbk]; rfl
  go_wp2_with (at_builtin; refine wpList_append_own _ rfl _ _ 67 rfl B 5 i0 (.int .u8 0) 1 1 Tryz.underlying67 hi hz0 hz1 hz2 rfl (by decide) _ _ _ rfl (hown.alloc _) ⟨w1.heap.size, 0, none⟩ 1 1 [.int .u8 c] rfl rfl ?c1 ?c2 ?c3 ?c4 ?c5 ?_)
  case c1 =>
    intro j u hj
    match j, hj with
    | 0, hj => simp at hj; subst hj; simp [Addr.add]
  case c2 => intro u hu; simp at hu; subst hu; rfl
  case c3 => unfold maxLen; omega
  case c4 => omega
  case c5 => have := hb1.size; simp; omega
  intro v' w2 hown' hgrow _
  have hlt : b < w1.heap.size := by
    rcases Nat.lt_or_ge b w1.heap.size with h' | h'
    · exact h'
    · simp [Array.getElem?_eq_none h'] at hbk
  have hb2 : w2.heap[b]? = some (.cells #[.pointer (some ⟨b, 0, none⟩), v] 129 (0, 0)) := by
    rw [hgrow.block b (by simp; omega) (fun e => hne e.symm), Lib.alloc_old w1 _ b hlt]
    exact hbk
  have d0 : w2.cell? ⟨b, 0, none⟩ = some (.pointer (some ⟨b, 0, none⟩)) := by rw [Lib.cell_of_heap hb2]; rfl
  have d1 : w2.cell? ⟨b, 1, none⟩ = some v := by rw [Lib.cell_of_heap hb2]; rfl
  have f1 : w2.frozen? ⟨b, 1, none⟩ = false := Lib.frozen_of_heap hb2 1
  obtain ⟨g, cap, rfl⟩ : ∃ g cap, v' = .slice (some ⟨g, 0, none⟩) (bs.length + 1) cap := by
    rcases hown'.2 with ⟨_, h0⟩ | ⟨g, cap, cur, hv, _⟩
    · omega
    · exact ⟨g, cap, hv⟩
  go_wp2
  go_ret
  refine ⟨rfl, Or.inr ?_, ?_, ?_⟩
  · exact Lib.BuilderAt.put (T := 129) (e := 5) hB hb2 (bs' := bs ++ [.int .u8 c]) (by simpa using hown') (by decide)
  · exact ((hb1.alloc (by have := hb1.size; omega) _).grown hgrow (by have := hb1.size; simp; omega) (fun k hk => (hown.lt k hk).1)).setCell (p := ⟨b, 1, none⟩) hB _
  · exact ((hk1.trans (Keep.alloc _ _)).trans (Keep.grown hgrow (hown.alloc _))).trans (Keep.setCell hb2 _)

set_option maxHeartbeats 2000000 in
set_option maxRecDepth 100000 in
theorem writeString_any (B b : Nat) (bs : List Value) (s : ByteArray) (w : World) (h : Lib.IsBuilder 129 5 B b bs w) (hlen : bs.length + s.size ≤ 140737488355328) (hBw : B ≤ w.heap.size) :
    Calls Tryz.prog 76 #[.pointer (some ⟨b, 0, none⟩), .string s] w fun e w' => e = .returned (.tuple #[.int .i64 s.size, .nilIface]) ∧ (Lib.IsBuilder 129 5 B b (bs ++ Lib.strCells s) w' ∧ Below B w w' ∧ Keep w w') := by
  obtain ⟨i0, hi, hz0, hz1, hz2⟩ := info_parts info5
  go_enter Tryz.func76, Tryz.ntmps76
  go_wp2_with (go_at_call 120; refine (copyCheck_any B b bs _ h).mono ?_)
  rintro e w1 ⟨rfl, h1, hb1, hk1⟩
  obtain ⟨hB, v, hbk, hown, hne⟩ := h1
  have c0 : w1.cell? ⟨b, 0, none⟩ = some (.pointer (some ⟨b, 0, none⟩)) := by rw [Lib.cell_of_heap hbk]; rfl
  have c1 : w1.cell? ⟨b, 1, none⟩ = some v := by rw [Lib.cell_of_heap hbk]; rfl
  go_wp2_with (at_builtin; refine Lib.wpList_append_own_string _ rfl _ _ 67 9 rfl B 5 i0 Tryz.underlying67 Tryz.underlying9 hi hz0 hz1 hz2 _ _ _ rfl hown s rfl ?c3 ?c4 ?c5 ?_)
  case c3 => unfold maxLen; omega
  case c4 => omega
  case c5 => have := hb1.size; omega
  intro v' w2 hown' hgrow _
  have hlt : b < w1.heap.size := by
    rcases Nat.lt_or_ge b w1.heap.size with h' | h'
    · exact h'
    · simp [Array.getElem?_eq_none h'] at hbk
  have hb2 : w2.heap[b]? = some (.cells #[.pointer (some ⟨b, 0, none⟩), v] 129 (0, 0)) := by
    rw [hgrow.block b hlt (fun e => hne e.symm)]
    exact hbk
  have d0 : w2.cell? ⟨b, 0, none⟩ = some (.pointer (some ⟨b, 0, none⟩)) := by rw [Lib.cell_of_heap hb2]; rfl
  have d1 : w2.cell? ⟨b, 1, none⟩ = some v := by rw [Lib.cell_of_heap hb2]; rfl
  have f1 : w2.frozen? ⟨b, 1, none⟩ = false := Lib.frozen_of_heap hb2 1
  obtain ⟨ao, n', cap, rfl⟩ : ∃ ao n' cap, v' = .slice ao n' cap := by
    rcases hown'.2 with ⟨hv, _⟩ | ⟨g, cap, cur, hv, _⟩
    · exact ⟨_, _, _, hv⟩
    · exact ⟨_, _, _, hv⟩
  go_wp2
  go_ret2
  refine ⟨rfl, Or.inr ?_, ?_, ?_⟩
  · exact Lib.BuilderAt.put (T := 129) (e := 5) hB hb2 (bs' := bs ++ Lib.strCells s) (by simpa [Lib.strCells_length] using hown') (by decide)
  · exact (hb1.grown hgrow (by have := hb1.size; omega) (fun k hk => (hown.lt k hk).1)).setCell (p := ⟨b, 1, none⟩) hB _
  · exact (hk1.trans (Keep.grown hgrow hown)).trans (Keep.setCell hb2 _)

set_option maxHeartbeats 1000000 in
set_option maxRecDepth 100000 in
theorem string_some (B b : Nat) (l : List UInt8) (w : World) (h : Lib.IsBuilder 129 5 B b (Lib.byteCells l) w) (h0 : l ≠ []) :
    Calls Tryz.prog 39 #[.pointer (some ⟨b, 0, none⟩)] w fun e w' => e = .returned (.string ⟨l.toArray⟩) ∧ Below B w w' := by
  obtain ⟨p, hB, v, hbk, hown, hne⟩ : ∃ p, Lib.BuilderAt 129 5 B b p (Lib.byteCells l) w := by
    rcases h with h | h
    · exact ⟨_, h⟩
    · exact ⟨_, h⟩
  have hl0 : l.length ≠ 0 := by simpa using h0
  rw [Lib.byteCells_length] at hown
  obtain ⟨g, cap, cur, rfl, hbg, hg, hnc, hcm, hcs, htake⟩ : ∃ g cap cur, v = .slice (some ⟨g, 0, none⟩) l.length cap ∧ B ≤ g ∧ w.heap[g]? = some (.cells cur 5 (0, 0)) ∧ l.length ≤ cap ∧ cap ≤ maxLen ∧ cur.size = cap * 1 ∧ cur.toList.take (l.length * 1) = Lib.byteCells l := by
    rcases hown.2 with ⟨_, hz⟩ | ⟨g, cap, cur, hv, r⟩
    · exact absurd hz hl0
    · exact ⟨g, cap, cur, hv, r⟩
  have c1 : w.drew.cell? ⟨b, 1, none⟩ = some (.slice (some ⟨g, 0, none⟩) l.length cap) := by
    have : w.drew.heap[b]? = some (.cells #[p, .slice (some ⟨g, 0, none⟩) l.length cap] 129 (0, 0)) := hbk
    rw [Lib.cell_of_heap this]; rfl
  have hSD : (Builtin.unsafeSliceData_ #[67] 104 #[.slice (some ⟨g, 0, none⟩) l.length cap]).run Tryz.prog w.drew = .ok (.pointer (some ⟨g, 0, none⟩)) w.drew :=
    Lib.run_unsafeSliceData_row _ _ _ _ _ _ (by omega)
  have hUS : (Builtin.unsafeString_ #[104, 3] 9 #[.pointer (some ⟨g, 0, none⟩), .int .i64 l.length]).run Tryz.prog w.drew = .ok (.string ⟨l.toArray⟩) (w.drew.freeze ⟨g, 0, none⟩ l.length) := by
    refine Lib.run_unsafeString_row w.drew 104 3 9 5 Tryz.underlying104 (by kernel_rfl) g cur.size (by have hg' : w.drew.heap[g]? = some (.cells cur 5 (0, 0)) := hg; simp [World.shape?, hg']) l h0 (by omega) (by unfold maxLen at hcm; omega) ?_
    intro j x hx
    have := hown.cells (g := g) rfl j (.int .u8 x.toNat) (by simp [Lib.byteCells, hx])
    exact this
  go_enter Tryz.func39, Tryz.ntmps39
  go_wp2
  go_region
  all_goals (go_wp2; go_ret; exact ⟨rfl, Lib.below_freeze (Below.drew (Below.refl B w)) (p := ⟨g, 0, none⟩) hbg _⟩)

/-! ### The same, said of bytes -/

def W63 (B b : Nat) (l : List UInt8) (w : World) : Prop := Lib.IsBuilder 129 5 B b (Lib.byteCells l) w
theorem W63.lt {B b : Nat} {l : List UInt8} {w : World} (h : W63 B b l w) : B ≤ b ∧ b < w.heap.size := by
  rcases h with h | h
  · exact ⟨h.1, h.lt⟩
  · exact ⟨h.1, h.lt⟩
theorem W63.below {B b : Nat} {l : List UInt8} {w w' : World} (h : W63 B b l w) (hb : Below w.heap.size w w') : W63 B b l w' := by
  have hlt := (W63.lt h).2
  have key : ∀ p, Lib.BuilderAt 129 5 B b p (Lib.byteCells l) w → Lib.BuilderAt 129 5 B b p (Lib.byteCells l) w' := fun p ⟨hB, v, hk, hown, hne⟩ =>
    ⟨hB, v, (hb.block b hlt).trans hk, hown.kept (row := none) ⟨hb.os, hb.tape, hb.output, hb.size, fun k hk _ => hb.block k hk⟩ (by rcases h : v.ownBlock with _ | g <;> simp), hne⟩
  rcases h with h | h
  · exact Or.inl (key _ h)
  · exact Or.inr (key _ h)
theorem W63.drew {B b : Nat} {l : List UInt8} {w : World} (h : W63 B b l w) : W63 B b l w.drew := h
theorem wByte (B b : Nat) (l : List UInt8) (u : UInt8) (c : Int) (w : World) (hc : c = u.toNat) (h : W63 B b l w) (hlen : l.length ≤ 140737488355327) (hBw : B ≤ w.heap.size) :
    Calls Tryz.prog 78 #[.pointer (some ⟨b, 0, none⟩), .int .u8 c] w fun e w' => e = .returned .nilIface ∧ W63 B b (l ++ [u]) w' ∧ Below B w w' ∧ Keep w w' := by
  subst hc
  refine (writeByte_any B b _ _ w h (by simp only [Lib.byteCells_length]; omega) hBw).mono fun _ _ ⟨h1, h2, h3, h4⟩ => ⟨h1, ?_, h3, h4⟩
  unfold W63
  rw [show Lib.byteCells (l ++ [u]) = Lib.byteCells l ++ [.int .u8 u.toNat] by simp [Lib.byteCells]]
  exact h2
theorem wString (B b : Nat) (l : List UInt8) (s : ByteArray) (w : World) (h : W63 B b l w) (hlen : l.length + s.size ≤ 140737488355328) (hBw : B ≤ w.heap.size) :
    Calls Tryz.prog 76 #[.pointer (some ⟨b, 0, none⟩), .string s] w fun e w' => e = .returned (.tuple #[.int .i64 s.size, .nilIface]) ∧ W63 B b (l ++ s.data.toList) w' ∧ Below B w w' ∧ Keep w w' := by
  refine (writeString_any B b _ s w h (by simp only [Lib.byteCells_length]; omega) hBw).mono fun _ _ ⟨h1, h2, h3, h4⟩ => ⟨h1, ?_, h3, h4⟩
  unfold W63
  rw [show Lib.byteCells (l ++ s.data.toList) = Lib.byteCells l ++ Lib.strCells s by simp [Lib.byteCells, Lib.strCells]]
  exact h2
theorem wText (B b : Nat) (l : List UInt8) (w : World) (h : W63 B b l w) (h0 : l ≠ []) :
    Calls Tryz.prog 39 #[.pointer (some ⟨b, 0, none⟩)] w fun e w' => e = .returned (.string ⟨l.toArray⟩) ∧ Below B w w' := string_some B b l w h h0
end Go.Proofs.YthohfegnphocbaaGreatDoor.BV
namespace Go.Proofs.YthohfegnphocbaaGreatDoor.BV
open Go.RowKit

def CellsAt (w : World) (b off : Nat) (v : V) : Prop := w.cell? ⟨b, off, none⟩ = some (.int .i64 v.k) ∧ w.cell? ⟨b, off + 1, none⟩ = some (.int .i64 v.i) ∧ w.cell? ⟨b, off + 2, none⟩ = some (.string v.s)
def RowAt (w : World) (B : Nat) (A : Option Addr) (xs : List V) : Prop := 0 < xs.length → ∃ b off, A = some ⟨b, off, none⟩ ∧ b < B ∧ ∀ j (h : j < xs.length), CellsAt w b (off + j * 3) xs[j]
theorem RowAt.below {w w' : World} {B : Nat} {A : Option Addr} {xs : List V} (h : RowAt w B A xs) (hb : Below B w w') : RowAt w' B A xs := by
  intro hl
  obtain ⟨b, off, hA, hlt, hc⟩ := h hl
  refine ⟨b, off, hA, hlt, fun j hj => ?_⟩
  obtain ⟨h1, h2, h3⟩ := hc j hj
  exact ⟨(hb.cell (p := ⟨b, _, none⟩) hlt).trans h1, (hb.cell (p := ⟨b, _, none⟩) hlt).trans h2, (hb.cell (p := ⟨b, _, none⟩) hlt).trans h3⟩

theorem RowAt.mono {w : World} {B B' : Nat} {A : Option Addr} {xs : List V} (h : RowAt w B A xs) (hB : B ≤ B') : RowAt w B' A xs := fun hl => by
  obtain ⟨b, off, hA, hlt, hc⟩ := h hl
  exact ⟨b, off, hA, by omega, hc⟩
theorem RowAt.later {w w' : World} {A : Option Addr} {xs : List V} (h : RowAt w w.heap.size A xs) (hb : Below w.heap.size w w') : RowAt w' w'.heap.size A xs := (h.below hb).mono hb.size
theorem bthen {w w1 w2 : World} (h : Below w.heap.size w w1) (h' : Below w1.heap.size w1 w2) : Below w.heap.size w w2 := h.trans (h'.mono h.size)
structure R where
  A : Option Addr
  c : Nat
  xs : List V
def R.val (r : R) : Value := .slice r.A r.xs.length r.c
def RowsAt (w : World) (B : Nat) (A : Option Addr) (rs : List R) : Prop :=
  (0 < rs.length → ∃ b off, A = some ⟨b, off, none⟩ ∧ b < B ∧ ∀ j (h : j < rs.length), w.cell? ⟨b, off + j, none⟩ = some rs[j].val) ∧ ∀ r ∈ rs, RowAt w B r.A r.xs
theorem RowsAt.below {w w' : World} {B : Nat} {A : Option Addr} {rs : List R} (h : RowsAt w B A rs) (hb : Below B w w') : RowsAt w' B A rs := by
  refine ⟨fun hl => ?_, fun r hr => (h.2 r hr).below hb⟩
  obtain ⟨b, off, hA, hlt, hc⟩ := h.1 hl
  exact ⟨b, off, hA, hlt, fun j hj => (hb.cell (p := ⟨b, _, none⟩) hlt).trans (hc j hj)⟩

def Box (w : World) (g : Nat) (v : V) : Prop := CellsAt w g 0 v ∧ g < w.heap.size
theorem Box.below {w w' : World} {g : Nat} {v : V} (h : Box w g v) (hb : Below w.heap.size w w') : Box w' g v :=
  ⟨⟨(hb.cell (p := ⟨g, 0, none⟩) h.2).trans h.1.1, (hb.cell (p := ⟨g, 0 + 1, none⟩) h.2).trans h.1.2.1, (hb.cell (p := ⟨g, 0 + 2, none⟩) h.2).trans h.1.2.2⟩, Nat.lt_of_lt_of_le h.2 hb.size⟩
theorem Box.made (w : World) (v : V) : Box (w.alloc (.cells #[.int .i64 v.k, .int .i64 v.i, .string v.s] 24)) w.heap.size v := by
  have hn : (w.alloc (.cells #[.int .i64 v.k, .int .i64 v.i, .string v.s] 24)).heap[w.heap.size]? = some (.cells _ 24 (0, 0)) := heap_alloc_new w _
  exact ⟨⟨by rw [Lib.cell_of_heap hn]; rfl, by rw [Lib.cell_of_heap hn]; rfl, by rw [Lib.cell_of_heap hn]; rfl⟩, by simp⟩
end Go.Proofs.YthohfegnphocbaaGreatDoor.BV
namespace Go.Proofs.YthohfegnphocbaaGreatDoor.BV
def dbl (l : List UInt8) : List UInt8 := l.flatMap fun c => if c = 39 then [39, 39] else [c]
theorem dbl_cons (c : UInt8) (l : List UInt8) : dbl (c :: l) = (if c = 39 then [39, 39] else [c]) ++ dbl l := rfl
theorem dbl_len (l : List UInt8) : (dbl l).length ≤ 2 * l.length := by
  induction l with
  | nil => simp [dbl]
  | cons c l ih =>
    rw [dbl_cons, List.length_append, List.length_cons]
    split <;> simp <;> omega
theorem index_cons_ne {b c : UInt8} {l : List UInt8} {i : Nat} (h : b ≠ c) (hi : Lib.index l [c] = i) : Lib.index (b :: l) [c] = ((i + 1 : Nat) : Int) := by
  unfold Lib.index
  have h0 : [c].isPrefixOf (b :: l) = false := by simp [List.isPrefixOf]; intro e; exact h e.symm
  rw [h0, hi]
  have : ((i : Int) == -1) = false := by rw [beq_eq_false_iff_ne]; omega
  simp [this]
theorem repl_core (l : List UInt8) : Lib.replaceK [39] [39, 39] (l.count 39) l = dbl l := by
  induction l with
  | nil => rfl
  | cons b l ih =>
    by_cases h : b = 39
    · subst h
      rw [List.count_cons_self, Lib.replaceK_hit [39] [39, 39] (l.count 39) (39 :: l) 0 (by unfold Lib.index; simp [List.isPrefixOf])]
      simp only [List.take_zero, List.length_cons, List.length_nil, List.drop_succ_cons, List.drop_zero, Nat.zero_add]
      rw [ih, dbl_cons]
      rfl
    · rw [List.count_cons_of_ne (by simpa using h), dbl_cons, if_neg h]
      cases hn : l.count 39 with
      | zero =>
        rw [hn] at ih
        simp only [Lib.replaceK] at ih ⊢
        rw [← ih]
        rfl
      | succ k =>
        rw [hn] at ih
        obtain ⟨i, hi⟩ := Lib.index_of_count (s := l) (old := [39]) (by rw [Lib.count_one, hn]; omega)
        rw [Lib.replaceK_hit _ _ k l i hi] at ih
        rw [Lib.replaceK_hit _ _ k (b :: l) (i + 1) (index_cons_ne h hi), ← ih]
        simp
theorem repl_eq (l : List UInt8) : Lib.replaceAll l [39] [39, 39] = dbl l := by
  unfold Lib.replaceAll Lib.replace Lib.replaceNum
  rw [if_neg (by decide), if_pos (Or.inl (by decide)), Lib.count_one]
  exact repl_core l

def hexd (n : Nat) : UInt8 := [48, 49, 50, 51, 52, 53, 54, 55, 56, 57, 97, 98, 99, 100, 101, 102].getD n 0
def hex2 (c : UInt8) : List UInt8 := [hexd (c.toNat / 16), hexd (c.toNat % 16)]
def hexs (l : List UInt8) : List UInt8 := l.flatMap hex2
theorem hexs_len (l : List UInt8) : (hexs l).length = 2 * l.length := by
  induction l with
  | nil => rfl
  | cons c l ih => show (hex2 c ++ hexs l).length = _; rw [List.length_append, ih]; simp [hex2]; omega
theorem hexs_snoc (l : List UInt8) (k : Nat) (h : k < l.length) : hexs (l.take (k + 1)) = hexs (l.take k) ++ hex2 l[k] := by
  unfold hexs; rw [List.take_succ_eq_append_getElem h, List.flatMap_append]; simp
def txt (k i : Int) (s : ByteArray) : List UInt8 :=
  if k = 0 then [78, 85, 76, 76] else if k = 1 then (if i = 1 then [84, 82, 85, 69] else [70, 65, 76, 83, 69]) else if k = 2 then Lib.itoa i
  else if k = 3 then [39] ++ dbl s.data.toList ++ [39] else [120, 39] ++ hexs s.data.toList ++ [39]
def V.txt (v : V) : List UInt8 := Go.Proofs.YthohfegnphocbaaGreatDoor.BV.txt v.k v.i v.s
end Go.Proofs.YthohfegnphocbaaGreatDoor.BV
namespace Go.Proofs.YthohfegnphocbaaGreatDoor.BV
open Go.RowKit
structure Env (w : World) : Prop where
  size : 10 ≤ w.heap.size
  max : ∃ m, w.cell? ⟨1, 0, none⟩ = some (.int .i64 m)
  tab : Lib.TabIs Tryz.prog w "internal/strconv.uint64pow10" .u64 Lib.pow10Tab
theorem Env.below {w w' : World} {B : Nat} (h : Env w) (hb : Below B w w') (hB : 10 ≤ B) : Env w' where
  size := Nat.le_trans h.size hb.size
  max := by
    obtain ⟨m, hm⟩ := h.max
    exact ⟨m, (hb.cell (p := ⟨1, 0, none⟩) (by show 1 < B; omega)).trans hm⟩
  tab := var?_below hb (g := 7) (by kernel_rfl) (by omega) h.tab
theorem Env.drew {w : World} (h : Env w) : Env w.drew := ⟨h.size, h.max, h.tab⟩
def repl (s : ByteArray) : List UInt8 := dbl s.data.toList
theorem repl_any (s : ByteArray) (w : World) (hE : Env w) (hs : s.size ≤ 1000000) :
    Calls Tryz.prog 175 #[.string s, .string ⟨#[39]⟩, .string ⟨#[39, 39]⟩] w fun e w' => e = .returned (.string ⟨(repl s).toArray⟩) ∧ Below w.heap.size w w' := by
  obtain ⟨m, hm⟩ := hE.max
  have h := Tryz.strings_ReplaceAll s ⟨#[39]⟩ ⟨#[39, 39]⟩ m w (by omega) hm (by decide) (by
    have : Lib.countB s ⟨#[39]⟩ ≤ s.size := by
      show Lib.count s.data.toList [39] ≤ _
      rw [Lib.count_one]
      have := List.count_le_length (a := (39 : UInt8)) (l := s.data.toList)
      simpa using this
    show s.size + Lib.countB s ⟨#[39]⟩ * 2 ≤ _
    omega)
  rw [show (⟨#[39]⟩ : ByteArray).data.toList = [39] from rfl, show (⟨#[39, 39]⟩ : ByteArray).data.toList = [39, 39] from rfl, repl_eq] at h
  exact h
theorem repl_len (s : ByteArray) : (repl s).length ≤ 2 * s.size := by
  have := dbl_len s.data.toList
  simpa [repl] using this
set_option maxRecDepth 100000 in
set_option maxHeartbeats 400000 in
theorem wtext (B b : Nat) (l : List UInt8) (s : ByteArray) (w : World) (h : W63 B b l w) (hs : s.size ≤ 1000000) (hlen : l.length ≤ 100000000000) (hBw : B ≤ w.heap.size) (hE : Env w) (hB : 10 ≤ B) :
    Calls Tryz.prog 147 #[.pointer (some ⟨b, 0, none⟩), .string s] w fun e w' => e = .returned (.tuple #[]) ∧ W63 B b (l ++ ([39] ++ repl s ++ [39])) w' ∧ Below B w w' := by
  have HE := Lib.hid hE
  have HB := Lib.hid h
  clear hE h
  have hrl := repl_len s
  have hrs : (⟨(repl s).toArray⟩ : ByteArray).size = (repl s).length := by show (repl s).toArray.size = _; simp
  have HR := Lib.hid hrs
  clear hrs
  go_enter Tryz.func147, Tryz.ntmps147
  go_wp2_with (go_at_call 78; refine (wByte B b l 39 _ _ (by decide) HB.out (by omega) (by omega)).mono ?_; rintro e w1 ⟨rfl, h1, hb1, _⟩)
  have hz1 := hb1.size
  have HE1 := Lib.hid (HE.out.below hb1 hB).drew
  have HI1 := Lib.hid h1.drew
  clear h1
  go_region_held3 (fun _ => True) (trivial) (first | (go_at_call 175; go_must (refine (repl_any s _ HE1.out hs).mono ?_); rintro e w2 ⟨rfl, hb2⟩; have hz2 := hb2.size) | (go_at_call 76; go_must (refine (wString B b _ _ _ (HI1.out.below hb2) (by rw [HR.out]; simp; omega) (by simp at hz2; omega)).mono ?_); rintro e w3 ⟨rfl, h3, hb3, _⟩))
  have hz3 := hb3.size
  simp at hz2
  go_wp2_with (go_at_call 78; go_must (refine (wByte B b _ 39 _ _ (by decide) h3 (by simp; omega) (by omega)).mono ?_); rintro e w4 ⟨rfl, h4, hb4, _⟩)
  go_end0
  exact ⟨rfl, by simpa using h4, ((hb1.drew.trans (hb2.mono (by simp; omega))).trans hb3).trans hb4⟩

set_option maxRecDepth 100000 in
set_option maxHeartbeats 400000 in
theorem wtruth (B b : Nat) (l : List UInt8) (q : Bool) (w : World) (h : W63 B b l w) (hlen : l.length ≤ 100000000000) (hBw : B ≤ w.heap.size) :
    Calls Tryz.prog 145 #[.pointer (some ⟨b, 0, none⟩), .bool q] w fun e w' => e = .returned (.tuple #[]) ∧ W63 B b (l ++ if q then [84, 82, 85, 69] else [70, 65, 76, 83, 69]) w' ∧ Below B w w' := by
  cases q
  all_goals
    go_enter Tryz.func145, Tryz.ntmps145
    go_wp2_with (go_at_call 76; go_must (refine (wString B b l _ _ h (by first | (show l.length + 4 ≤ _; omega) | (show l.length + 5 ≤ _; omega)) (by omega)).mono ?_); rintro e w1 ⟨rfl, h1, hb1, _⟩)
    go_end0
    exact ⟨rfl, h1, hb1⟩
def hexBA : ByteArray := ⟨#[48, 49, 50, 51, 52, 53, 54, 55, 56, 57, 97, 98, 99, 100, 101, 102]⟩
theorem hexAll : ∀ n : Fin 16, (hexBA[n.1]'n.2) = hexd n.1 := by decide
theorem hexAt {n : Nat} (h : n < (⟨#[48, 49, 50, 51, 52, 53, 54, 55, 56, 57, 97, 98, 99, 100, 101, 102]⟩ : ByteArray).size) : ((((⟨#[48, 49, 50, 51, 52, 53, 54, 55, 56, 57, 97, 98, 99, 100, 101, 102]⟩ : ByteArray)[n]'h).toNat : Int)) = (hexd n).toNat := by
  rw [show ((⟨#[48, 49, 50, 51, 52, 53, 54, 55, 56, 57, 97, 98, 99, 100, 101, 102]⟩ : ByteArray)[n]'h) = (hexBA[n]'h) from rfl, hexAll ⟨n, h⟩]
theorem bitsAll : ∀ n : Fin 256, bits BinOp.and IntKind.u8 (n.1 : Int) 15 = ((n.1 % 16 : Nat) : Int) := by decide +kernel
theorem bits15 (u : UInt8) : bits BinOp.and IntKind.u8 (u.toNat : Int) 15 = (u.toNat : Int) % 16 := by
  rw [bitsAll ⟨u.toNat, u.toNat_lt⟩]; simp
set_option maxRecDepth 100000 in
set_option maxHeartbeats 400000 in
theorem wblob (B b : Nat) (l : List UInt8) (s : ByteArray) (w : World) (h : W63 B b l w) (hs : s.size ≤ 1000000) (hlen : l.length ≤ 100000000000) (hBw : B ≤ w.heap.size) :
    Calls Tryz.prog 148 #[.pointer (some ⟨b, 0, none⟩), .string s] w fun e w' => e = .returned (.tuple #[]) ∧ W63 B b (l ++ ([120, 39] ++ hexs s.data.toList ++ [39])) w' ∧ Below B w w' := by
  have HB := Lib.hid h
  clear h
  go_enter Tryz.func148, Tryz.ntmps148
  go_wp2_with (go_at_call 76; go_must (refine (wString B b l _ _ HB.out (by show l.length + 2 ≤ _; omega) (by omega)).mono ?_); rintro e w1 ⟨rfl, h1, hb1, _⟩)
  go_loopw [11] (fun i wr => ∃ k : Nat, k ≤ s.size ∧ i = .int .i64 k ∧ Below B w wr ∧ Hid (W63 B b (l ++ [120, 39] ++ hexs (s.data.toList.take k)) wr)) (fun i _ => s.size - (intOf i).toNat)
  case atStart => exact ⟨0, Nat.zero_le _, rfl, hb1, by show W63 _ _ _ _; simpa [hexs] using h1⟩
  case round =>
    obtain ⟨k, hk, rfl, hb, hw⟩ := hrel
    by_cases hlt : k < s.size
    · have hx0 : 0 ≤ (s[k].toNat : Int) / 16 := by omega
      have hx1 : (s[k].toNat : Int) / 16 < 16 := by have := s[k].toNat_lt; omega
      have hy0 : 0 ≤ (s[k].toNat : Int) % 16 := by omega
      have hy1 : (s[k].toNat : Int) % 16 < 16 := by omega
      have hbit := bits15 s[k]
      have hlen2 : (hexs (s.data.toList.take k)).length = 2 * k := by rw [hexs_len, List.length_take]; have : s.data.toList.length = s.size := (by simp); omega
      have HL := Lib.hid hlen2
      clear hlen2
      have HX : Hid (hexs (s.data.toList.take (k + 1)) = hexs (s.data.toList.take k) ++ hex2 s[k]) := hexs_snoc _ _ (by simpa using hlt)
      have hzr := hb.size
      go_wp2_with fail
      go_still_tail 8, (by kernel_rfl)
      change wpList _ _ _ _ _ wr.drew
      go_wp2_with fail
      refine (wByte B b _ (hexd (s[k].toNat / 16)) _ _ ?hc hw.out.drew (by simp [HL.out]; omega) (by simp; omega)).mono ?_
      case hc => exact hexAt _
      rintro e w2 ⟨rfl, h2, hb2, _⟩
      have hz2 := hb2.size
      simp at hz2
      go_wp2_with fail
      go_still_tail 8, (by kernel_rfl)
      change wpList _ _ _ _ _ w2.drew
      go_wp2_with fail
      refine (wByte B b _ (hexd (s[k].toNat % 16)) _ _ ?hc2 h2.drew (by simp [HL.out]; omega) (by simp; omega)).mono ?_
      case hc2 => exact hexAt _
      rintro e w3 ⟨rfl, h3, hb3, _⟩
      go_wp2_with fail
      go_roundw
      case rel => exact ⟨k + 1, by omega, by go_num, (hb.drew.trans hb2).drew.trans hb3, by show W63 _ _ _ _; rw [HX.out]; simpa [hex2] using h3⟩
      case measure => simp [intOf]; omega
    · obtain rfl : k = s.size := by omega
      have hzr := hb.size
      have HT : Hid (hexs (s.data.toList.take s.size) = hexs s.data.toList) := by show _ = _; rw [List.take_of_length_le (by simp)]
      have HL := hexs_len s.data.toList
      have HL2 : s.data.toList.length = s.size := by simp
      have HW : W63 B b (l ++ [120, 39] ++ hexs s.data.toList) wr := by have := hw.out; rwa [HT.out] at this
      have HW2 := Lib.hid HW
      clear HW hw
      have HL3 : (hexs s.data.toList).length ≤ 2000000 := by omega
      clear HL HL2
      go_wp2_with (go_at_call 78; go_must (refine (wByte B b _ 39 _ _ (by decide) HW2.out (by simp; omega) (by omega)).mono ?_); rintro e w4 ⟨rfl, h4, hb4, _⟩)
      go_end0
      exact ⟨rfl, by simpa using h4, hb.trans hb4⟩
theorem fmt_any (n : Int) (w : World) (hE : Env w) (h0 : -9223372036854775808 ≤ n) (h1 : n ≤ 9223372036854775807) :
    Calls Tryz.prog 146 #[.int .i64 n, .int .i64 10] w fun e w' => e = .returned (.string ⟨(Lib.itoa n).toArray⟩) ∧ Below w.heap.size w w' :=
  (Tryz.strconv_FormatInt_10 n h0 h1 w hE.tab).mono fun _ _ ⟨h, k, os, hw⟩ => ⟨h, by rw [hw]; exact Lib.below_grow _ _ (Nat.le_refl _) _ _⟩
def V.ok (v : V) : Prop := -9223372036854775808 ≤ v.i ∧ v.i ≤ 9223372036854775807 ∧ v.s.size ≤ 1000000
set_option maxRecDepth 100000 in
set_option maxHeartbeats 400000 in
theorem wvalue (B b : Nat) (l : List UInt8) (k i : Int) (s : ByteArray) (w : World) (h : W63 B b l w) (hm : mayB k i s = true) (hs : s.size ≤ 1000000) (hi0 : -9223372036854775808 ≤ i) (hi1 : i ≤ 9223372036854775807) (hlen : l.length ≤ 100000000000) (hBw : B ≤ w.heap.size) (hE : Env w) (hB : 10 ≤ B) :
    Calls Tryz.prog 119 #[.pointer (some ⟨b, 0, none⟩), .agg #[.int .i64 k, .int .i64 i, .string s]] w fun e w' => e = .returned (.tuple #[]) ∧ W63 B b (l ++ txt k i s) w' ∧ Below B w w' := by
  have hk : k = 0 ∨ k = 1 ∨ k = 2 ∨ k = 3 ∨ k = 4 := by
    unfold mayB at hm
    by_cases h0 : k = 0
    · exact Or.inl h0
    by_cases h1 : k = 1
    · exact Or.inr (Or.inl h1)
    by_cases h2 : k = 2
    · exact Or.inr (Or.inr (Or.inl h2))
    by_cases h3 : k = 3
    · exact Or.inr (Or.inr (Or.inr (Or.inl h3)))
    by_cases h4 : k = 4
    · exact Or.inr (Or.inr (Or.inr (Or.inr h4)))
    simp [h0, h1, h2, h3, h4] at hm
  have HE := Lib.hid hE
  have HB := Lib.hid h
  clear hE h hm
  rcases hk with rfl | rfl | rfl | rfl | rfl
  · go_enter Tryz.func119, Tryz.ntmps119
    go_wp2_with (go_at_call 76; go_must (refine (wString B b l _ _ (HB.out.below (Below.alloc (Below.refl _ _) (Nat.le_refl _) _)) (by show l.length + 4 ≤ _; omega) (by simp; omega)).mono ?_); rintro e w1 ⟨rfl, h1, hb1, _⟩)
    go_end0
    exact ⟨rfl, h1, ((Below.refl B w).alloc hBw _).trans hb1⟩
  · go_enter Tryz.func119, Tryz.ntmps119
    go_wp2_with (go_at_call 145; go_must (refine (wtruth B b l _ _ (HB.out.below (Below.alloc (Below.refl _ _) (Nat.le_refl _) _)) (by omega) (by simp; omega)).mono ?_); rintro e w1 ⟨rfl, h1, hb1⟩)
    go_end0
    exact ⟨rfl, by unfold txt; simpa using h1, ((Below.refl B w).alloc hBw _).trans hb1⟩
  · have hl21 := Lib.itoa_length_le i hi0 hi1
    have hsz : (⟨(Lib.itoa i).toArray⟩ : ByteArray).size = (Lib.itoa i).length := by show (Lib.itoa i).toArray.size = _; simp
    have HZ := Lib.hid hsz
    clear hsz
    go_enter Tryz.func119, Tryz.ntmps119
    go_wp2_with fail
    have HE1 := Lib.hid (HE.out.below (Below.alloc (Below.refl _ _) hBw (.cells #[.int .i64 2, .int .i64 i, .string s] 24)) hB).drew
    have HI1 := Lib.hid (HB.out.below (Below.alloc (Below.refl _ _) (Nat.le_refl _) (.cells #[.int .i64 2, .int .i64 i, .string s] 24))).drew
    go_region_with (first | (go_at_call 146; refine (fmt_any i _ HE1.out hi0 hi1).mono ?_; rintro e w2 ⟨rfl, hb2⟩; have hz2 := hb2.size) | (go_at_call 76; refine (wString B b _ _ _ (HI1.out.below hb2) (by rw [HZ.out]; omega) (by simp at hz2; omega)).mono ?_; rintro e w3 ⟨rfl, h3, hb3, _⟩))
    all_goals
      simp at hz2
      go_wp2_with fail
      go_end0
      exact ⟨rfl, h3, (((Below.refl B w).alloc hBw _).drew.trans (hb2.mono (by simp; omega))).trans hb3⟩
  · go_enter Tryz.func119, Tryz.ntmps119
    go_wp2_with (go_at_call 147; go_must (refine (wtext B b l s _ (HB.out.below (Below.alloc (Below.refl _ _) (Nat.le_refl _) _)) hs hlen (by simp; omega) (HE.out.below (Below.alloc (Below.refl _ _) hBw _) hB) hB).mono ?_); rintro e w1 ⟨rfl, h1, hb1⟩)
    go_end0
    exact ⟨rfl, h1, ((Below.refl B w).alloc hBw _).trans hb1⟩
  · go_enter Tryz.func119, Tryz.ntmps119
    go_wp2_with (go_at_call 148; go_must (refine (wblob B b l s _ (HB.out.below (Below.alloc (Below.refl _ _) (Nat.le_refl _) _)) hs hlen (by simp; omega)).mono ?_); rintro e w1 ⟨rfl, h1, hb1⟩)
    go_end0
    exact ⟨rfl, h1, ((Below.refl B w).alloc hBw _).trans hb1⟩


end Go.Proofs.YthohfegnphocbaaGreatDoor.BV
namespace Go.Proofs.YthohfegnphocbaaGreatDoor.BV
open Go.RowKit
theorem txt_ne (k i : Int) (s : ByteArray) : txt k i s ≠ [] := by
  unfold txt
  split
  · simp
  split
  · split <;> simp
  split
  · unfold Lib.itoa
    have : ∀ u, Lib.decDigits u ≠ [] := fun u => by rw [Lib.decDigits]; split <;> simp
    split
    · simp
    · exact this _
  split <;> simp
theorem box3 {w w1 : World} {a b c : Value} (hb : Below (w.alloc (.cells #[a, b, c] 24)).heap.size (w.alloc (.cells #[a, b, c] 24)) w1) :
    (∀ o, (w1.alloc o).cell? ⟨w.heap.size, 0, none⟩ = some a ∧ (w1.alloc o).cell? ⟨w.heap.size, 1, none⟩ = some b ∧ (w1.alloc o).cell? ⟨w.heap.size, 2, none⟩ = some c) ∧
    (w1.cell? ⟨w.heap.size, 0, none⟩ = some a ∧ w1.cell? ⟨w.heap.size, 1, none⟩ = some b ∧ w1.cell? ⟨w.heap.size, 2, none⟩ = some c) ∧ Below w.heap.size w w1 ∧ w.heap.size < w1.heap.size := by
  have hz : w.heap.size < w1.heap.size := by have := hb.size; simp at this; omega
  have hn : (w.alloc (.cells #[a, b, c] 24)).heap[w.heap.size]? = some (.cells #[a, b, c] 24 (0, 0)) := heap_alloc_new w _
  have h1 := (hb.block w.heap.size (by simp)).trans hn
  refine ⟨fun o => ?_, ?_, ((Below.refl _ w).alloc (Nat.le_refl _) _).trans (hb.mono (by simp)), hz⟩
  · have h2 := (Below.heap_alloc w1 o _ hz).trans h1
    exact ⟨by rw [Lib.cell_of_heap h2]; rfl, by rw [Lib.cell_of_heap h2]; rfl, by rw [Lib.cell_of_heap h2]; rfl⟩
  · exact ⟨by rw [Lib.cell_of_heap h1]; rfl, by rw [Lib.cell_of_heap h1]; rfl, by rw [Lib.cell_of_heap h1]; rfl⟩
set_option maxRecDepth 100000 in
set_option maxHeartbeats 1000000 in
theorem text_ok (k i : Int) (s : ByteArray) (w : World) (hm : mayB k i s = true) (hs : s.size ≤ 1000000) (hi0 : -9223372036854775808 ≤ i) (hi1 : i ≤ 9223372036854775807) (hE : Env w) :
    Calls Tryz.prog 75 #[.agg #[.int .i64 k, .int .i64 i, .string s]] w fun e w' => e = .returned (.tuple #[.string ⟨(txt k i s).toArray⟩, .int .i64 0]) ∧ Below w.heap.size w w' := by
  have hc := check_any k i s
  rw [show chkI k i s = 0 by unfold chkI; rw [hm]; rfl] at hc
  have HM := Lib.hid hm
  have HE := Lib.hid hE
  have hsz := hE.size
  have HN := Lib.hid (txt_ne k i s)
  clear hm hE
  go_enter Tryz.func75, Tryz.ntmps75
  go_wp2_with (go_at_call 88; go_must (refine (hc _).mono ?_); rintro e w1 ⟨rfl, hb1⟩; obtain ⟨hb3, -, hb, hz⟩ := box3 hb1; have e0 := fun o => (hb3 o).1; have e1 := fun o => (hb3 o).2.1; have e2 := fun o => (hb3 o).2.2; clear hb3 hb1)
  have hw : W63 w1.heap.size w1.heap.size [] (w1.alloc (.cells #[.pointer none, .slice none 0 0] 129)) := Lib.fresh_isBuilder 129 5 w1
  have HE1 := HE.out.below (hb.alloc (by omega) (.cells #[.pointer none, .slice none 0 0] 129)) hsz
  have HW := Lib.hid hw
  have HE2 := Lib.hid HE1
  clear hw HE1
  go_wp2_with (go_at_call 119; go_must (refine (wvalue w1.heap.size w1.heap.size _ _ _ _ _ HW.out HM.out hs hi0 hi1 (by simp) (by simp) HE2.out (by omega)).mono ?_); rintro e w2 ⟨rfl, h2, hb2⟩)
  have hz2 := hb2.size
  go_wp2_with (go_at_call 39; go_must (refine (wText w1.heap.size w1.heap.size _ _ h2 (by simpa using HN.out)).mono ?_); rintro e w3 ⟨rfl, hb3⟩)
  go_ret2
  exact ⟨rfl, ((hb.alloc (by omega) _).trans (hb2.mono (by omega))).trans (hb3.mono (by omega))⟩
end Go.Proofs.YthohfegnphocbaaGreatDoor.BV
