import Derived.Test.YtcicpjgnpcnnmaaGreatDoorQ38
set_option linter.unusedSimpArgs false
set_option linter.unusedVariables false
namespace Go.Proofs.YtcicpjgnpcnnmaaGreatDoor
open Go.RowKit
open Classical in
noncomputable def cnt (l:List BV.V) (y:BV.V):Nat:=(l.filter fun z=>decide (z=y)).length
end Go.Proofs.YtcicpjgnpcnnmaaGreatDoor
namespace Go.Proofs.YtcicpjgnpcnnmaaGreatDoor
open Go.RowKit Go.Maps Go.WideMaps
section
variable {w wr w' : World} {g : Nat} {o : Value} {l : List (List BV.V)} {ks : List (List UInt8)} {D : DataW Unit}
end
end Go.Proofs.YtcicpjgnpcnnmaaGreatDoor
namespace Go.Proofs.YtcicpjgnpcnnmaaGreatDoor
open Go.RowKit
def eT(e:E)(l:List (List BV.V)):Int:=firstE (l.map (projE [e]))
def pT(e:E)(l:List (List BV.V)):List (List BV.V):=if eT e l=0 then l.map (projV [e])else []
end Go.Proofs.YtcicpjgnpcnnmaaGreatDoor
