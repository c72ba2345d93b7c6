/- Contract of scalar's functions: the list of functions, made anew. No condition. -/
import Derived.Test.YtdffnkopbackiaaDoorScaStrict
namespace Go.Proofs.YtdffnkopbackiaaDoor
open Go.RowKit
structure Fn where
  nm : ByteArray
  lo : Int
  hi : Int
  k0 : Int
  k1 : Int
  k2 : Int
  f : Nat
def Fn.cells (x : Fn) : List Value := [.string x.nm, .int .i64 x.lo, .int .i64 x.hi, .int .u64 x.k0, .int .u64 x.k1, .int .u64 x.k2, .func (.func x.f) #[] #[]]
def fns : List Fn := [⟨⟨#[99, 111, 97, 108, 101, 115, 99, 101]⟩, 1, (-1), 0, 0, 0, 44⟩,
  ⟨⟨#[110, 117, 108, 108, 105, 102]⟩, 2, 2, 0, 0, 0, 45⟩,
  ⟨⟨#[97, 98, 115]⟩, 1, 1, 4, 0, 0, 46⟩,
  ⟨⟨#[115, 105, 103, 110]⟩, 1, 1, 4, 0, 0, 47⟩,
  ⟨⟨#[108, 101, 110, 103, 116, 104]⟩, 1, 1, 24, 0, 0, 48⟩,
  ⟨⟨#[108, 111, 119, 101, 114]⟩, 1, 1, 8, 0, 0, 49⟩,
  ⟨⟨#[117, 112, 112, 101, 114]⟩, 1, 1, 8, 0, 0, 50⟩,
  ⟨⟨#[116, 114, 105, 109]⟩, 1, 1, 8, 0, 0, 51⟩,
  ⟨⟨#[115, 117, 98, 115, 116, 114]⟩, 3, 3, 24, 4, 4, 52⟩,
  ⟨⟨#[105, 110, 115, 116, 114]⟩, 2, 2, 8, 8, 0, 53⟩,
  ⟨⟨#[114, 101, 112, 108, 97, 99, 101]⟩, 3, 3, 8, 8, 8, 54⟩]
set_option maxRecDepth 100000 in
set_option maxHeartbeats 1000000 in
theorem functions_any (w : World) : Calls Tryd.prog 39 #[] w fun e w' => e = .returned (.slice (some ⟨w.heap.size, 0, none⟩) 11 11) ∧ w' = w.alloc (.cells #[.string ⟨#[99, 111, 97, 108, 101, 115, 99, 101]⟩, .int .i64 1, .int .i64 (-1), .int .u64 0, .int .u64 0, .int .u64 0, .func (.func 44) #[] #[], .string ⟨#[110, 117, 108, 108, 105, 102]⟩, .int .i64 2, .int .i64 2, .int .u64 0, .int .u64 0, .int .u64 0, .func (.func 45) #[] #[], .string ⟨#[97, 98, 115]⟩, .int .i64 1, .int .i64 1, .int .u64 4, .int .u64 0, .int .u64 0, .func (.func 46) #[] #[], .string ⟨#[115, 105, 103, 110]⟩, .int .i64 1, .int .i64 1, .int .u64 4, .int .u64 0, .int .u64 0, .func (.func 47) #[] #[], .string ⟨#[108, 101, 110, 103, 116, 104]⟩, .int .i64 1, .int .i64 1, .int .u64 24, .int .u64 0, .int .u64 0, .func (.func 48) #[] #[], .string ⟨#[108, 111, 119, 101, 114]⟩, .int .i64 1, .int .i64 1, .int .u64 8, .int .u64 0, .int .u64 0, .func (.func 49) #[] #[], .string ⟨#[117, 112, 112, 101, 114]⟩, .int .i64 1, .int .i64 1, .int .u64 8, .int .u64 0, .int .u64 0, .func (.func 50) #[] #[], .string ⟨#[116, 114, 105, 109]⟩, .int .i64 1, .int .i64 1, .int .u64 8, .int .u64 0, .int .u64 0, .func (.func 51) #[] #[], .string ⟨#[115, 117, 98, 115, 116, 114]⟩, .int .i64 3, .int .i64 3, .int .u64 24, .int .u64 4, .int .u64 4, .func (.func 52) #[] #[], .string ⟨#[105, 110, 115, 116, 114]⟩, .int .i64 2, .int .i64 2, .int .u64 8, .int .u64 8, .int .u64 0, .func (.func 53) #[] #[], .string ⟨#[114, 101, 112, 108, 97, 99, 101]⟩, .int .i64 3, .int .i64 3, .int .u64 8, .int .u64 8, .int .u64 8, .func (.func 54) #[] #[]] 58) := by
  go_enter Tryd.func39, Tryd.ntmps39
  go_wp2_with fail
  go_ret
  exact ⟨rfl, rfl⟩
/-- The list in a block of its own. -/
structure FnsAt (w : World) (b : Nat) : Prop where
  lt : b < w.heap.size
  cell : ∀ k (h : k < fns.length) j, j < 7 → w.cell? ⟨b, k * 7 + j, none⟩ = fns[k].cells[j]?
theorem FnsAt.later {w w' : World} {b : Nat} (h : FnsAt w b) (hb : Below w.heap.size w w') : FnsAt w' b :=
  ⟨Nat.lt_of_lt_of_le h.lt hb.size, fun k hk j hj => (hb.cell (p := ⟨b, _, none⟩) h.lt).trans (h.cell k hk j hj)⟩
theorem fns_cells (k : Nat) (h : k < fns.length) (j : Nat) (hj : j < 7) : (#[.string ⟨#[99, 111, 97, 108, 101, 115, 99, 101]⟩, .int .i64 1, .int .i64 (-1), .int .u64 0, .int .u64 0, .int .u64 0, .func (.func 44) #[] #[], .string ⟨#[110, 117, 108, 108, 105, 102]⟩, .int .i64 2, .int .i64 2, .int .u64 0, .int .u64 0, .int .u64 0, .func (.func 45) #[] #[], .string ⟨#[97, 98, 115]⟩, .int .i64 1, .int .i64 1, .int .u64 4, .int .u64 0, .int .u64 0, .func (.func 46) #[] #[], .string ⟨#[115, 105, 103, 110]⟩, .int .i64 1, .int .i64 1, .int .u64 4, .int .u64 0, .int .u64 0, .func (.func 47) #[] #[], .string ⟨#[108, 101, 110, 103, 116, 104]⟩, .int .i64 1, .int .i64 1, .int .u64 24, .int .u64 0, .int .u64 0, .func (.func 48) #[] #[], .string ⟨#[108, 111, 119, 101, 114]⟩, .int .i64 1, .int .i64 1, .int .u64 8, .int .u64 0, .int .u64 0, .func (.func 49) #[] #[], .string ⟨#[117, 112, 112, 101, 114]⟩, .int .i64 1, .int .i64 1, .int .u64 8, .int .u64 0, .int .u64 0, .func (.func 50) #[] #[], .string ⟨#[116, 114, 105, 109]⟩, .int .i64 1, .int .i64 1, .int .u64 8, .int .u64 0, .int .u64 0, .func (.func 51) #[] #[], .string ⟨#[115, 117, 98, 115, 116, 114]⟩, .int .i64 3, .int .i64 3, .int .u64 24, .int .u64 4, .int .u64 4, .func (.func 52) #[] #[], .string ⟨#[105, 110, 115, 116, 114]⟩, .int .i64 2, .int .i64 2, .int .u64 8, .int .u64 8, .int .u64 0, .func (.func 53) #[] #[], .string ⟨#[114, 101, 112, 108, 97, 99, 101]⟩, .int .i64 3, .int .i64 3, .int .u64 8, .int .u64 8, .int .u64 8, .func (.func 54) #[] #[]] : Array Value)[k * 7 + j]? = fns[k].cells[j]? := by
  have hk : k < 11 := h
  match k, hk, j, hj with
  | 0, _, 0, _ => rfl
  | 0, _, 1, _ => rfl
  | 0, _, 2, _ => rfl
  | 0, _, 3, _ => rfl
  | 0, _, 4, _ => rfl
  | 0, _, 5, _ => rfl
  | 0, _, 6, _ => rfl
  | 1, _, 0, _ => rfl
  | 1, _, 1, _ => rfl
  | 1, _, 2, _ => rfl
  | 1, _, 3, _ => rfl
  | 1, _, 4, _ => rfl
  | 1, _, 5, _ => rfl
  | 1, _, 6, _ => rfl
  | 2, _, 0, _ => rfl
  | 2, _, 1, _ => rfl
  | 2, _, 2, _ => rfl
  | 2, _, 3, _ => rfl
  | 2, _, 4, _ => rfl
  | 2, _, 5, _ => rfl
  | 2, _, 6, _ => rfl
  | 3, _, 0, _ => rfl
  | 3, _, 1, _ => rfl
  | 3, _, 2, _ => rfl
  | 3, _, 3, _ => rfl
  | 3, _, 4, _ => rfl
  | 3, _, 5, _ => rfl
  | 3, _, 6, _ => rfl
  | 4, _, 0, _ => rfl
  | 4, _, 1, _ => rfl
  | 4, _, 2, _ => rfl
  | 4, _, 3, _ => rfl
  | 4, _, 4, _ => rfl
  | 4, _, 5, _ => rfl
  | 4, _, 6, _ => rfl
  | 5, _, 0, _ => rfl
  | 5, _, 1, _ => rfl
  | 5, _, 2, _ => rfl
  | 5, _, 3, _ => rfl
  | 5, _, 4, _ => rfl
  | 5, _, 5, _ => rfl
  | 5, _, 6, _ => rfl
  | 6, _, 0, _ => rfl
  | 6, _, 1, _ => rfl
  | 6, _, 2, _ => rfl
  | 6, _, 3, _ => rfl
  | 6, _, 4, _ => rfl
  | 6, _, 5, _ => rfl
  | 6, _, 6, _ => rfl
  | 7, _, 0, _ => rfl
  | 7, _, 1, _ => rfl
  | 7, _, 2, _ => rfl
  | 7, _, 3, _ => rfl
  | 7, _, 4, _ => rfl
  | 7, _, 5, _ => rfl
  | 7, _, 6, _ => rfl
  | 8, _, 0, _ => rfl
  | 8, _, 1, _ => rfl
  | 8, _, 2, _ => rfl
  | 8, _, 3, _ => rfl
  | 8, _, 4, _ => rfl
  | 8, _, 5, _ => rfl
  | 8, _, 6, _ => rfl
  | 9, _, 0, _ => rfl
  | 9, _, 1, _ => rfl
  | 9, _, 2, _ => rfl
  | 9, _, 3, _ => rfl
  | 9, _, 4, _ => rfl
  | 9, _, 5, _ => rfl
  | 9, _, 6, _ => rfl
  | 10, _, 0, _ => rfl
  | 10, _, 1, _ => rfl
  | 10, _, 2, _ => rfl
  | 10, _, 3, _ => rfl
  | 10, _, 4, _ => rfl
  | 10, _, 5, _ => rfl
  | 10, _, 6, _ => rfl
theorem fns_made (w : World) : FnsAt (w.alloc (.cells #[.string ⟨#[99, 111, 97, 108, 101, 115, 99, 101]⟩, .int .i64 1, .int .i64 (-1), .int .u64 0, .int .u64 0, .int .u64 0, .func (.func 44) #[] #[], .string ⟨#[110, 117, 108, 108, 105, 102]⟩, .int .i64 2, .int .i64 2, .int .u64 0, .int .u64 0, .int .u64 0, .func (.func 45) #[] #[], .string ⟨#[97, 98, 115]⟩, .int .i64 1, .int .i64 1, .int .u64 4, .int .u64 0, .int .u64 0, .func (.func 46) #[] #[], .string ⟨#[115, 105, 103, 110]⟩, .int .i64 1, .int .i64 1, .int .u64 4, .int .u64 0, .int .u64 0, .func (.func 47) #[] #[], .string ⟨#[108, 101, 110, 103, 116, 104]⟩, .int .i64 1, .int .i64 1, .int .u64 24, .int .u64 0, .int .u64 0, .func (.func 48) #[] #[], .string ⟨#[108, 111, 119, 101, 114]⟩, .int .i64 1, .int .i64 1, .int .u64 8, .int .u64 0, .int .u64 0, .func (.func 49) #[] #[], .string ⟨#[117, 112, 112, 101, 114]⟩, .int .i64 1, .int .i64 1, .int .u64 8, .int .u64 0, .int .u64 0, .func (.func 50) #[] #[], .string ⟨#[116, 114, 105, 109]⟩, .int .i64 1, .int .i64 1, .int .u64 8, .int .u64 0, .int .u64 0, .func (.func 51) #[] #[], .string ⟨#[115, 117, 98, 115, 116, 114]⟩, .int .i64 3, .int .i64 3, .int .u64 24, .int .u64 4, .int .u64 4, .func (.func 52) #[] #[], .string ⟨#[105, 110, 115, 116, 114]⟩, .int .i64 2, .int .i64 2, .int .u64 8, .int .u64 8, .int .u64 0, .func (.func 53) #[] #[], .string ⟨#[114, 101, 112, 108, 97, 99, 101]⟩, .int .i64 3, .int .i64 3, .int .u64 8, .int .u64 8, .int .u64 8, .func (.func 54) #[] #[]] 58)) w.heap.size := by
  have hn : (w.alloc (.cells #[.string ⟨#[99, 111, 97, 108, 101, 115, 99, 101]⟩, .int .i64 1, .int .i64 (-1), .int .u64 0, .int .u64 0, .int .u64 0, .func (.func 44) #[] #[], .string ⟨#[110, 117, 108, 108, 105, 102]⟩, .int .i64 2, .int .i64 2, .int .u64 0, .int .u64 0, .int .u64 0, .func (.func 45) #[] #[], .string ⟨#[97, 98, 115]⟩, .int .i64 1, .int .i64 1, .int .u64 4, .int .u64 0, .int .u64 0, .func (.func 46) #[] #[], .string ⟨#[115, 105, 103, 110]⟩, .int .i64 1, .int .i64 1, .int .u64 4, .int .u64 0, .int .u64 0, .func (.func 47) #[] #[], .string ⟨#[108, 101, 110, 103, 116, 104]⟩, .int .i64 1, .int .i64 1, .int .u64 24, .int .u64 0, .int .u64 0, .func (.func 48) #[] #[], .string ⟨#[108, 111, 119, 101, 114]⟩, .int .i64 1, .int .i64 1, .int .u64 8, .int .u64 0, .int .u64 0, .func (.func 49) #[] #[], .string ⟨#[117, 112, 112, 101, 114]⟩, .int .i64 1, .int .i64 1, .int .u64 8, .int .u64 0, .int .u64 0, .func (.func 50) #[] #[], .string ⟨#[116, 114, 105, 109]⟩, .int .i64 1, .int .i64 1, .int .u64 8, .int .u64 0, .int .u64 0, .func (.func 51) #[] #[], .string ⟨#[115, 117, 98, 115, 116, 114]⟩, .int .i64 3, .int .i64 3, .int .u64 24, .int .u64 4, .int .u64 4, .func (.func 52) #[] #[], .string ⟨#[105, 110, 115, 116, 114]⟩, .int .i64 2, .int .i64 2, .int .u64 8, .int .u64 8, .int .u64 0, .func (.func 53) #[] #[], .string ⟨#[114, 101, 112, 108, 97, 99, 101]⟩, .int .i64 3, .int .i64 3, .int .u64 8, .int .u64 8, .int .u64 8, .func (.func 54) #[] #[]] 58)).heap[w.heap.size]? = some (.cells _ 58 (0, 0)) := heap_alloc_new w _
  refine ⟨by simp [World.size_alloc], fun k hk j hj => ?_⟩
  rw [Lib.cell_of_heap hn]
  exact fns_cells k hk j hj
theorem functions_at (w : World) : Calls Tryd.prog 39 #[] w fun e w' => e = .returned (.slice (some ⟨w.heap.size, 0, none⟩) 11 11) ∧ Below w.heap.size w w' ∧ FnsAt w' w.heap.size :=
  (functions_any w).mono fun e w' ⟨he, hw⟩ => ⟨he, by rw [hw]; exact (Below.refl _ w).alloc (Nat.le_refl _) _, by rw [hw]; exact fns_made w⟩
end Go.Proofs.YtdffnkopbackiaaDoor
