/- Contract of scalar's Arith, of any word and any two values. Conditions: both values' numbers have 64 bits. -/
import Derived.Test.YtdffnkopbackiaaDoorScaStrict
import Derived.Test.YtdffnkopbackiaaDoorScaOp
namespace Go.Proofs.YtdffnkopbackiaaDoor
open Go.RowKit
def zV : V := ⟨0, 0, ⟨#[]⟩⟩
def nV (n : Int) : V := ⟨2, n, ⟨#[]⟩⟩
theorem number_any (n : Int) (w : World) : Calls Tryd.prog 25 #[.int .i64 n] w fun e w' => e = .returned (.agg #[.int .i64 2, .int .i64 n, .string ⟨#[]⟩]) ∧ Below w.heap.size w w' := by
  go_enter Tryd.func25, Tryd.ntmps25
  go_wp2
  exact bodyPost_ret (v := .agg #[.int .i64 2, .int .i64 n, .string ⟨#[]⟩]) (by simp [results, Tryd.results25, go_sem]) rfl ⟨rfl, (Below.refl _ w).alloc (Nat.le_refl _) _⟩
/-- What Arith tells of an error, and of the number. -/
def arE (op : ByteArray) (a b : V) : Int := if opk op = 0 ∨ allOk [a, b] = false then 1 else if stE [4, 4, 0] [a, b] = 0 then (if nulB [a, b] then 0 else numE (opk op) a.i b.i) else 20
def arV (op : ByteArray) (a b : V) : V := if arE op a b = 0 ∧ nulB [a, b] = false then nV (numR (opk op) a.i b.i) else zV
/-- Two values side by side in a block of their own. -/
theorem row2_made (w : World) (a b : V) : RowAt (w.alloc (.cells #[.int .i64 a.k, .int .i64 a.i, .string a.s, .int .i64 b.k, .int .i64 b.i, .string b.s] 23)) (w.heap.size + 1) (some ⟨w.heap.size, 0, none⟩) [a, b] := fun _ => by
  have hn : (w.alloc (.cells #[.int .i64 a.k, .int .i64 a.i, .string a.s, .int .i64 b.k, .int .i64 b.i, .string b.s] 23)).heap[w.heap.size]? = some (.cells _ 23 (0, 0)) := heap_alloc_new w _
  refine ⟨w.heap.size, 0, rfl, Nat.lt_succ_self _, fun j hj => ?_⟩
  match j, hj with
  | 0, _ => exact ⟨by rw [Lib.cell_of_heap hn]; rfl, by rw [Lib.cell_of_heap hn]; rfl, by rw [Lib.cell_of_heap hn]; rfl⟩
  | 1, _ => exact ⟨by rw [Lib.cell_of_heap hn]; rfl, by rw [Lib.cell_of_heap hn]; rfl, by rw [Lib.cell_of_heap hn]; rfl⟩
theorem wrong2_any (a b : V) (w : World) (H : Nat) (hH : w.heap.size = H) : Calls Tryd.prog 23 #[.slice (some ⟨H, 0, none⟩) 2 2] (w.alloc (.cells #[.int .i64 a.k, .int .i64 a.i, .string a.s, .int .i64 b.k, .int .i64 b.i, .string b.s] 23)) fun e w' => e = .returned (.bool (!allOk [a, b])) ∧ Below H w w' ∧ H + 1 ≤ w'.heap.size := by
  subst hH
  refine (wrong_any [a, b] _ 2 _ (by simpa using row2_made w a b) (by simp)).mono ?_
  rintro e w' ⟨rfl, hb⟩
  exact ⟨rfl, ((Below.refl _ w).alloc (Nat.le_refl _) _).trans (hb.mono (by simp)), by have := hb.size; simpa using this⟩
theorem strict2_any (k0 k1 k2 : Int) (a b : V) (w : World) (H : Nat) (hH : w.heap.size = H) (h0 : KindOk k0) (h1 : KindOk k1) (hok : allOk [a, b] = true) : Calls Tryd.prog 24 #[.agg #[.int .u64 k0, .int .u64 k1, .int .u64 k2], .slice (some ⟨H, 0, none⟩) 2 2] (w.alloc (.cells #[.int .i64 a.k, .int .i64 a.i, .string a.s, .int .i64 b.k, .int .i64 b.i, .string b.s] 23)) fun e w' => e = .returned (.tuple #[.bool (stN [k0, k1, k2] [a, b]), .int .i64 (stE [k0, k1, k2] [a, b])]) ∧ Below H w w' ∧ H + 1 ≤ w'.heap.size := by
  subst hH
  refine (strict_any k0 k1 k2 [a, b] _ 2 _ (by simpa using row2_made w a b) (by simp) (fun j hj => ?_) hok).mono ?_
  · match j, hj with
    | 0, _ => exact h0
    | 1, _ => exact h1
  · rintro e w' ⟨rfl, hb⟩
    exact ⟨rfl, ((Below.refl _ w).alloc (Nat.le_refl _) _).trans (hb.mono (by simp)), by have := hb.size; simpa using this⟩
end Go.Proofs.YtdffnkopbackiaaDoor
