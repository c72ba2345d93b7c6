import Derived.Test.YtcicpjgnpcnnmaaGreatDoorQ37
set_option linter.unusedSimpArgs false
set_option linter.unusedVariables false
namespace Go.Proofs.YtcicpjgnpcnnmaaGreatDoor
open Go.RowKit
section
variable {w W W2 : World} {b : Nat} {l : List Int}
end
theorem wp_region_classR{P:Program}{id:Nat}{Q:Exit→Act→World→Prop}{a:Act}{w:World}{l:List Oper}(C:World→Prop)(hm:P.follows .mixedOrders=true)(hB:Region.lexB .any l.toArray=true)(hC:C w.drew)(h:wpQuiet P l.toArray C (fun a'=>∀ w',C w'→Q .normal a' w') l a):(Code.region id l.toArray true).wp P Q a w :=
 wp_region_quiet (C:=C) hm hB hC (by simpa using h)
section
variable {P : Int → Prop} {cf : Int → Int → Int}
end
open BV (CmpOk)
structure Ky where
 e:E
 desc:Bool
def kc(k:Ky)(x y:BV.V):Int:=if k.desc then - BV.cmpVV x y else BV.cmpVV x y
end Go.Proofs.YtcicpjgnpcnnmaaGreatDoor
namespace Go.Proofs.YtcicpjgnpcnnmaaGreatDoor
open Go.RowKit
def B8(w:World)(b:Nat)(c0 c1 c2 c3 c4 c5 c6 c7:Value):Prop:=w.heap[b]? = some (.cells #[c0,c1,c2,c3,c4,c5,c6,c7] 48 (0,0))
theorem B8.lt{w:World}{b:Nat}{c0 c1 c2 c3 c4 c5 c6 c7:Value}(h:B8 w b c0 c1 c2 c3 c4 c5 c6 c7):b < w.heap.size:=(Array.getElem?_eq_some_iff.1 h).1
theorem B8.cells{w:World}{b:Nat}{c0 c1 c2 c3 c4 c5 c6 c7:Value}(h:B8 w b c0 c1 c2 c3 c4 c5 c6 c7):w.cell? ⟨b,0,none⟩=some c0∧w.cell? ⟨b,1,none⟩=some c1∧w.cell? ⟨b,2,none⟩=some c2∧w.cell? ⟨b,3,none⟩=some c3∧w.cell? ⟨b,4,none⟩=some c4∧w.cell? ⟨b,5,none⟩=some c5∧w.cell? ⟨b,6,none⟩=some c6∧w.cell? ⟨b,7,none⟩=some c7 :=
 ⟨by rw[Lib.cell_of_heap h];rfl,by rw[Lib.cell_of_heap h];rfl,by rw[Lib.cell_of_heap h];rfl,by rw[Lib.cell_of_heap h];rfl,by rw[Lib.cell_of_heap h];rfl,by rw[Lib.cell_of_heap h];rfl,by rw[Lib.cell_of_heap h];rfl,by rw[Lib.cell_of_heap h];rfl⟩
theorem B8.free{w:World}{b:Nat}{c0 c1 c2 c3 c4 c5 c6 c7:Value}(h:B8 w b c0 c1 c2 c3 c4 c5 c6 c7):w.frozen? ⟨b,0,none⟩=false∧w.frozen? ⟨b,1,none⟩=false∧w.frozen? ⟨b,2,none⟩=false∧w.frozen? ⟨b,3,none⟩=false∧w.frozen? ⟨b,4,none⟩=false∧w.frozen? ⟨b,5,none⟩=false∧w.frozen? ⟨b,6,none⟩=false∧w.frozen? ⟨b,7,none⟩=false :=
 ⟨Lib.frozen_of_heap h 0,Lib.frozen_of_heap h 1,Lib.frozen_of_heap h 2,Lib.frozen_of_heap h 3,Lib.frozen_of_heap h 4,Lib.frozen_of_heap h 5,Lib.frozen_of_heap h 6,Lib.frozen_of_heap h 7⟩
theorem B8.made(w:World)(c0 c1 c2 c3 c4 c5 c6 c7:Value):B8 (w.alloc (.cells #[c0,c1,c2,c3,c4,c5,c6,c7] 48)) w.heap.size c0 c1 c2 c3 c4 c5 c6 c7:=heap_alloc_new w _
def LTT(w:World):Type := { W:World // Below w.heap.size w W }
end Go.Proofs.YtcicpjgnpcnnmaaGreatDoor
