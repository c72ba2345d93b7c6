/- Contracts of Check, in value and in the reference, of one value, whatever it is; plain functions on a value's three parts say what it answers. No condition. -/
import Derived.Test.YtnpemegklndegaaDoorProg
import Derived.Test.YtnpemegklndegaaDoorOrd
import Derived.WalkKit
import Derived.WalkSpells
import Derived.WalkLawsBesides
import Derived.Lib.Hide
import Derived.Deep.Light
namespace Go.Proofs.YtnpemegklndegaaDoor
open Go.RowKit

theorem ret_int {k : IntKind} {a b : Int} (h : a = b) : Ending.returned (.int k a) = .returned (.int k b) := by rw [h]
def emp (s : ByteArray) : Bool := s.toList.isEmpty
def mayB (k i : Int) (s : ByteArray) : Bool :=
  if k == 0 then i == 0 && emp s else if k == 1 then (i == 0 || i == 1) && emp s else if k == 2 then emp s else if k == 3 || k == 4 then i == 0 else false
def sameB (k i : Int) (s : ByteArray) (k' i' : Int) (s' : ByteArray) : Bool := k == k' && (i == i' && s.toList == s'.toList)
def chkI (k i : Int) (s : ByteArray) : Int := if mayB k i s then 0 else 1

set_option maxHeartbeats 400000 in
theorem mayBe_any (k i : Int) (s : ByteArray) (w : World) :
    Calls Tryd.prog 47 #[.agg #[.int .i64 k, .int .i64 i, .string s]] w fun e w' => e = .returned (.bool (mayB k i s)) ∧ Below w.heap.size w w' := by
  go_enter Tryd.func47, Tryd.ntmps47
  go_wp2
  all_goals go_ret
  all_goals refine ⟨?_, (Below.refl _ _).alloc (Nat.le_refl _) _⟩
  all_goals (go_light; simp [mayB, emp, *])

set_option maxHeartbeats 400000 in
theorem check_any (k i : Int) (s : ByteArray) (w : World) :
    Calls Tryd.prog 36 #[.agg #[.int .i64 k, .int .i64 i, .string s]] w fun e w' => e = .returned (.int .i64 (chkI k i s)) ∧ Below w.heap.size w w' := by
  cases hm : mayB k i s
  all_goals
    have HC := mayBe_any k i s
    rw [hm] at HC
    have H : Hid (mayB k i s = _) := hm
    clear hm
    go_enter Tryd.func36, Tryd.ntmps36
    go_wp2_with (go_at_call 47; refine (HC _).mono ?_; rintro e w' ⟨rfl, hb⟩)
    go_ret
    exact ⟨by simp [chkI, H.out], ((Below.refl _ _).alloc (Nat.le_refl _) _).trans (hb.mono (by simp))⟩

end Go.Proofs.YtnpemegklndegaaDoor
