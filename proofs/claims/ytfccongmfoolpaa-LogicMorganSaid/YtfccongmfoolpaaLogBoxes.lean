/- Boxes of values that a walk lays one behind the other: each stays as it was. No condition. -/
import Derived.Test.YtfccongmfoolpaaLogHeld
namespace Go.Proofs.Ytfccongmfoolpaa
open Go.RowKit
/-- The boxes l in the world W, all below its end; and all that was there in w. -/
structure HB (w : World) (l : List (Nat × V)) (W : World) : Prop where
  below : Below w.heap.size w W
  lt : AllLt W.heap.size l
  boxes : Boxes l W
theorem HB.nil (w : World) : HB w [] w := ⟨Below.refl _ _, allLt_nil, trivial⟩
theorem HB.call {w W W2 : World} {l : List (Nat × V)} (h : HB w l W) (hb : Below W.heap.size W W2) : HB w l W2 :=
  ⟨bthen h.below hb, fun p hp => Nat.lt_of_lt_of_le (h.lt p hp) hb.size, h.boxes.same h.lt (fun b o hlt => hb.cell (p := ⟨b, o, none⟩) hlt)⟩
theorem HB.alloc {w W : World} {l : List (Nat × V)} (h : HB w l W) (o : Obj) : HB w l (W.alloc o) := h.call ((Below.refl _ _).alloc (Nat.le_refl _) o)
theorem HB.push {w W : World} {l : List (Nat × V)} (h : HB w l W) (v : V) : HB w ((W.heap.size, v) :: l) (W.alloc (.cells #[.int .i64 v.k, .int .i64 v.i, .string v.s] 24)) :=
  ⟨(h.alloc _).below, allLt_cons (by simp) (h.alloc _).lt, ⟨(VBox.made W v).cells.1, (VBox.made W v).cells.2.1, (VBox.made W v).cells.2.2, (h.alloc _).boxes⟩⟩
theorem HB.pushAt {w W : World} {l : List (Nat × V)} {H : Nat} (hH : W.heap.size = H) (h : HB w l W) (v : V) : HB w ((H, v) :: l) (W.alloc (.cells #[.int .i64 v.k, .int .i64 v.i, .string v.s] 24)) := by
  subst hH
  exact h.push v
theorem HB.drew {w W : World} {l : List (Nat × V)} (h : HB w l W) : HB w l W.drew := by
  refine ⟨h.below.drew, h.lt, ?_⟩
  exact h.boxes.same h.lt (fun _ _ _ => rfl)
theorem HB.tail {w W : World} {l : List (Nat × V)} {p : Nat × V} (h : HB w (p :: l) W) : HB w l W := ⟨h.below, fun q hq => h.lt q (by simp [hq]), h.boxes.2.2.2⟩
theorem HB.held {w W : World} {l : List (Nat × V)} (h : HB w l W) : Held w W.heap.size l W := ⟨Nat.le_refl _, h.below, h.boxes⟩
end Go.Proofs.Ytfccongmfoolpaa
