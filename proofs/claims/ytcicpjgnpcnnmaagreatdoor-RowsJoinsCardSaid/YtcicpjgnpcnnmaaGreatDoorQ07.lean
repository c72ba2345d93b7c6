import Derived.Test.YtcicpjgnpcnnmaaGreatDoorQ06
namespace Go.Proofs.YtcicpjgnpcnnmaaGreatDoor
structure Vl where
 k:Int
 i:Int
 s:List UInt8
deriving DecidableEq
inductive E where
 | mk:List UInt8→Vl→List UInt8→List UInt8→List E→E
def v0:Vl:=⟨0,0,[]⟩
def E.op:E→List UInt8 | .mk o _ _ _ _=>o
def E.v:E→Vl | .mk _ v _ _ _=>v
def E.tb:E→List UInt8 | .mk _ _ t _ _=>t
def E.nm:E→List UInt8 | .mk _ _ _ n _=>n
def E.l:E→List E | .mk _ _ _ _ l=>l
def wLit:List UInt8:=[108,105,116]
def wCol:List UInt8:=[99,111,108]
def wStar:List UInt8:=[115,116,97,114]
def wCall:List UInt8:=[99,97,108,108]
def wCount:List UInt8:=[99,111,117,110,116]
def wNeg:List UInt8:=[110,101,103]
def wNot:List UInt8:=[110,111,116]
def wIsnull:List UInt8:=[105,115,110,117,108,108]
def wNotnull:List UInt8:=[110,111,116,110,117,108,108]
def wAnd:List UInt8:=[97,110,100]
def wOr:List UInt8:=[111,114]
def wLike:List UInt8:=[108,105,107,101]
def wIn:List UInt8:=[105,110]
def wBetween:List UInt8:=[98,101,116,119,101,101,110]
def op1(o:List UInt8)(l:List E):E:= .mk o v0 [] [] l
def lit(v:Vl):E:= .mk wLit v [] [] []
def col(t n:List UInt8):E:= .mk wCol v0 t n []
def star:E:=op1 wStar []
def e0:E:= .mk [] v0 [] [] []
section
variable (res : List UInt8 → Bool)
end
section
variable (res : List UInt8 → Bool)
end
theorem E.ind{P:E→Prop}(h:∀ o v t n l,(∀ x∈l,P x)→P (.mk o v t n l))(e:E):P e :=
 E.rec (motive_1:=P) (motive_2:=fun l=>∀ x∈l,P x) (fun o v t n l ih=>h o v t n l ih) (fun _ hx=>by cases hx) (fun x l hx hl y hy=>by
  rcases List.mem_cons.mp hy with rfl | hy
  ·exact hx
  ·exact hl y hy) e
section
variable (res : List UInt8 → Bool)
end
section
variable (res : List UInt8 → Bool)
end
section
variable (res : List UInt8 → Bool)
end
end Go.Proofs.YtcicpjgnpcnnmaaGreatDoor
