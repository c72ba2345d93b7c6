/- Contracts of scalar's takes and Arity, whatever function and name. No condition. -/
import Derived.Test.YtdffnkopbackiaaDoorScaFind2
namespace Go.Proofs.YtdffnkopbackiaaDoor
open Go.RowKit
def takesB (lo hi n : Int) : Bool := decide (lo ≤ n) && (decide (n ≤ hi) || decide (hi < 0))
set_option maxHeartbeats 1000000 in
theorem takes_any (x : Fn) (n : Int) (w : World) : Calls Tryd.prog 29 #[.agg #[.string x.nm, .int .i64 x.lo, .int .i64 x.hi, .int .u64 x.k0, .int .u64 x.k1, .int .u64 x.k2, .func (.func x.f) #[] #[]], .int .i64 n] w fun e w' => e = .returned (.bool (takesB x.lo x.hi n)) ∧ Below w.heap.size w w' := by
  unfold takesB
  by_cases h1 : x.lo ≤ n
  · by_cases h2 : n ≤ x.hi
    · rw [decide_eq_true h1, decide_eq_true h2]
      go_enter Tryd.func29, Tryd.ntmps29
      go_wp2_with fail
      go_ret
      exact ⟨rfl, (Below.refl _ w).alloc (Nat.le_refl _) _⟩
    · by_cases h3 : x.hi < 0
      · rw [decide_eq_true h1, decide_eq_true h3, decide_eq_false h2]
        go_enter Tryd.func29, Tryd.ntmps29
        go_wp2_with fail
        go_ret
        exact ⟨rfl, (Below.refl _ w).alloc (Nat.le_refl _) _⟩
      · rw [decide_eq_true h1, decide_eq_false h3, decide_eq_false h2]
        go_enter Tryd.func29, Tryd.ntmps29
        go_wp2_with fail
        go_ret
        exact ⟨rfl, (Below.refl _ w).alloc (Nat.le_refl _) _⟩
  · rw [decide_eq_false h1]
    go_enter Tryd.func29, Tryd.ntmps29
    go_wp2_with fail
    go_ret
    exact ⟨rfl, (Below.refl _ w).alloc (Nat.le_refl _) _⟩
def arLo (o : Option Fn) : Int := match o with | some x => x.lo | none => 0
def arHi (o : Option Fn) : Int := match o with | some x => x.hi | none => 0
set_option maxHeartbeats 1000000 in
theorem arity_any (nm : ByteArray) (w : World) : Calls Tryd.prog 20 #[.string nm] w fun e w' => e = .returned (.tuple #[.int .i64 (arLo (look nm)), .int .i64 (arHi (look nm)), .bool (look nm).isSome]) ∧ Below w.heap.size w w' := by
  have HF := Lib.hid (fun w => find_any nm w)
  cases hl : look nm with
  | none =>
    rw [hl] at HF
    clear hl
    have HF' : Hid (∀ w, Calls Tryd.prog 28 #[.string nm] w fun e w' => e = .returned (.tuple #[.agg #[.string ⟨#[]⟩, .int .i64 0, .int .i64 0, .int .u64 0, .int .u64 0, .int .u64 0, .nilFunc], .bool false]) ∧ Below w.heap.size w w') := HF.out
    clear HF
    go_enter Tryd.func20, Tryd.ntmps20
    go_wp2_with (go_at_call 28; refine (HF'.out _).mono ?_; rintro e w1 ⟨rfl, hb⟩)
    go_quiet (fail)
    go_wp2
    go_ret3
    exact ⟨rfl, below_drewN (hb.alloc hb.size _) _⟩
  | some x =>
    rw [hl] at HF
    clear hl
    have HF' : Hid (∀ w, Calls Tryd.prog 28 #[.string nm] w fun e w' => e = .returned (.tuple #[.agg #[.string x.nm, .int .i64 x.lo, .int .i64 x.hi, .int .u64 x.k0, .int .u64 x.k1, .int .u64 x.k2, .func (.func x.f) #[] #[]], .bool true]) ∧ Below w.heap.size w w') := HF.out
    clear HF
    go_enter Tryd.func20, Tryd.ntmps20
    go_wp2_with (go_at_call 28; refine (HF'.out _).mono ?_; rintro e w1 ⟨rfl, hb⟩)
    go_quiet (fail)
    go_wp2
    go_ret3
    exact ⟨rfl, below_drewN (hb.alloc hb.size _) _⟩
end Go.Proofs.YtdffnkopbackiaaDoor
