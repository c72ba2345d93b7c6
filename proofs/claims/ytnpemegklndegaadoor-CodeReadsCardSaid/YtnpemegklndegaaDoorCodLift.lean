/- What the rows of this seat give a walk: the library's one variable that is read is there. A world for the witness, in which every listed variable is laid. No condition. -/
import Derived.Test.YtnpemegklndegaaDoorCards
import Derived.Test.YtnpemegklndegaaDoorTie
import Derived.Test.YtnpemegklndegaaDoorCodWTxt
import Derived.Test.YtnpemegklndegaaDoorOpen
import Derived.ProofKit
import Derived.OpenShut
import Derived.Deep.DeepHandedRow
import Derived.Lib.LaidTab
import Derived.Lib.LaidU8
import Derived.Lay
import Derived.SevenTiedAt
import Derived.ChangeMaps5
namespace Go.Proofs.YtnpemegklndegaaDoor
open Go.ChangeShapes Go.WideShapes Go.ChangeAt Go.RowKit
theorem own : ownKnob Tryd.prog.godebug = none := by kernel_rfl
theorem laidOut : laidOutB Tryd.prog = true := by kernel_rfl
/-- What every row of this seat lists. -/
def laidL : List (String × DataW Unit) := [("unicode/utf8.acceptRanges", Rows.laid_unicode_utf8_acceptRanges), ("unicode/utf8.first", Rows.laid_unicode_utf8_first)]
theorem env_of {W : World} (_hL : laidMetH Tryd.prog laidL W) (hsh : W.ShapedOpen Tryd.prog) : Env W := by
  have hmax : ∃ m, W.cell? ⟨0, 0, none⟩ = some (.int .i64 m) := Go.Proofs.cell_of_shapedOpen_int (zero := #[.int .i64 0]) (t := 3) hsh (of_decide_eq_true (by kernel_rfl)) (by kernel_rfl) rfl (by kernel_rfl) (by kernel_rfl) Tryd.underlying3
  obtain ⟨m, hm⟩ := hmax
  have := cell_in hm
  exact ⟨by omega, m, hm⟩
/-- A world for the witness: every listed variable laid. -/
noncomputable def wWorld (os : Os) : World := World.laidAll Tryd.prog os laidL
theorem wWorld_met (os : Os) (args : Array Value) : laidMetH Tryd.prog laidL ((wWorld os).forCall (fun _ _ => 0) ⟨#[], args, []⟩).memory := by
  rw [MakeChecks.laidMetH_plain _ _ _ (by kernel_rfl)]
  exact laidMet_laidAll args (by kernel_rfl) (by kernel_rfl)
end Go.Proofs.YtnpemegklndegaaDoor
