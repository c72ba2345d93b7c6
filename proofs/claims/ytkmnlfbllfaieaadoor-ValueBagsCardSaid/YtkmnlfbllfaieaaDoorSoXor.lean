/- Contracts of (*slices.xorshift).Next and slices.nextPowerOfTwo. Conditions: the number lies in a cell that may be written; the length is below 2 to the 62. -/
import Derived.Test.YtkmnlfbllfaieaaDoorSoRev
import Derived.Test.YtkmnlfbllfaieaaDoorShelf
import Derived.Sort.Walk7
import Derived.Sort.WalkA14
import Derived.Laws.Bits64
namespace Go.Proofs.YtkmnlfbllfaieaaDoor
open Go.RowKit Go.Sort
/-- A number's 64 bits turned by those of another, as numbers. -/
theorem xor_nat {a b : Nat} {y : Int} (ha : a < 18446744073709551616) (hb : b < 18446744073709551616) (hy : y = (b : Int)) : bits .xor .u64 (a : Int) y = ((a ^^^ b : Nat) : Int) := by
  rw [hy]; exact bits_xor_u64_nat a b ha hb
theorem xor_lt {a b : Nat} (ha : a < 18446744073709551616) (hb : b < 18446744073709551616) : a ^^^ b < 18446744073709551616 := Nat.xor_lt_two_pow (n := 64) (by omega) (by omega)
def turnL (k x : Nat) : Nat := x ^^^ (x * k % 18446744073709551616)
def turnR (k x : Nat) : Nat := x ^^^ (x / k)
theorem turnL_lt {k x : Nat} (h : x < 18446744073709551616) : turnL k x < 18446744073709551616 := xor_lt h (by omega)
theorem turnR_lt {k x : Nat} (h : x < 18446744073709551616) : turnR k x < 18446744073709551616 := xor_lt h (Nat.lt_of_le_of_lt (Nat.div_le_self _ _) h)
theorem turn13 {x : Nat} (h : x < 18446744073709551616) : bits .xor .u64 (x : Int) (IntKind.u64.wrap ((x : Int) * 8192)) = (turnL 8192 x : Int) :=
  xor_nat h (by omega) (by rw [IntKind.wrap_u64]; omega)
theorem turn7 {x : Nat} (h : x < 18446744073709551616) : bits .xor .u64 (x : Int) ((x : Int) / 128) = (turnR 128 x : Int) :=
  xor_nat h (by omega) (by omega)
theorem turn17 {x : Nat} (h : x < 18446744073709551616) : bits .xor .u64 (x : Int) (IntKind.u64.wrap ((x : Int) * 131072)) = (turnL 131072 x : Int) :=
  xor_nat h (by omega) (by rw [IntKind.wrap_u64]; omega)
set_option maxRecDepth 100000 in
set_option maxHeartbeats 4000000 in
theorem next_any (p X : Nat) (hX : X < 18446744073709551616) (w : World) (hc : w.cell? ⟨p, 0, none⟩ = some (.int .u64 X)) (hf : w.frozen? ⟨p, 0, none⟩ = false) :
    Calls Tryd.prog 73 #[.pointer (some ⟨p, 0, none⟩)] w fun e w' => e = .returned (.int .u64 (xorNextN X : Nat)) ∧ w' = (w.setCell ⟨p, 0, none⟩ (.int .u64 (xorNextN X : Nat))).drew.drew.drew := by
  have hv : xorNextN X = turnL 131072 (turnR 128 (turnL 8192 X)) := rfl
  have h1 := turn13 hX
  have h2 := turn7 (turnL_lt (k := 8192) hX)
  have h3 := turn17 (turnR_lt (k := 128) (turnL_lt (k := 8192) hX))
  rw [hv]
  clear hv
  generalize turnL 131072 (turnR 128 (turnL 8192 X)) = z at *
  generalize turnR 128 (turnL 8192 X) = y at *
  generalize turnL 8192 X = x at *
  have hss := fun v v' => setCell_setCell w p 0 v v'
  go_enter Tryd.func73, Tryd.ntmps73
  go_wp2
  go_region
  all_goals go_wp2
  all_goals go_region
  all_goals go_wp2
  all_goals go_region
  all_goals go_wp2
  all_goals go_ret
  all_goals exact ⟨rfl, rfl⟩
set_option maxHeartbeats 2000000 in
theorem npow_any (n : Nat) (hn : n < 4611686018427387904) (w : World) :
    Calls Tryd.prog 72 #[.int .i64 n] w fun e w' => e = .returned (.int .u64 ((1 <<< bitsLen n : Nat) : Int)) ∧ w = w' := by
  have hLen : ∀ w, Calls Tryd.prog 49 #[.int .u64 (n : Int)] w fun e w' => e = .returned (.int .i64 (bitsLen n : Nat)) ∧ w' = w := fun w => by
    have h := Tryd.bits_Len (n : Int) w (by omega) (by omega)
    rwa [Int.toNat_natCast, bitLen_eq _ (by omega)] at h
  have hk : bitsLen n ≤ 62 := (bitsLen_le_iff n 62).2 (by omega)
  have hp := wrap_two_pow (bitsLen n) hk
  have wr : IntKind.u64.wrap (n : Int) = n := by rw [IntKind.wrap_u64]; omega
  go_enter Tryd.func72, Tryd.ntmps72
  go_wp2_with (go_at_call 49; refine (hLen _).mono ?_; rintro e w' ⟨rfl, rfl⟩)
  go_ret
  exact ⟨rfl, rfl⟩
end Go.Proofs.YtkmnlfbllfaieaaDoor
