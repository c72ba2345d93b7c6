import Derived.Lib.Hide
import Derived.Lib.ParseIntB
import Derived.Test.YtcicpjgnpcnnmaaGreatDoorProg
import Derived.WalkKit
import Derived.WalkSpells
import Derived.WalkLawsBesides
import Derived.Lib.Walk
import Derived.Deep.Light
import Derived.IntWalk
import Derived.StillTailTactics
import Derived.Lib.Bytealg
import Derived.Lib.SplitLaws
import Derived.Deep.AppendLies
import Derived.Lib.AppendStr
import Derived.Deep.Upon
import Derived.Lib.SlFresh
import Derived.Laws.BytesString
import Derived.Laws.Cells
import Derived.Test.YtcicpjgnpcnnmaaGreatDoorShelf
import Derived.Lib.ConvBytes
import Derived.Laws.Strings3
import Derived.Laws.Closers25
import Derived.Laws.Closers25b
import Derived.BigCall
import Derived.BigGuard
import Derived.Lib.IndexLaws
import Derived.BigRegion
import Derived.Deep.Quiet
import Derived.Deep.QuietTactic
import Derived.Lib.Strings
import Derived.WalkMore
set_option maxRecDepth 100000
set_option maxHeartbeats 1000000
namespace Go.Proofs.YtcicpjgnpcnnmaaGreatDoor
def isLet(c:UInt8):Bool:=(97≤c && c≤122) || (65≤c && c≤90) || c == 95
def isDig(c:UInt8):Bool:=48≤c && c≤57
def isWch(c:UInt8):Bool:=isLet c || isDig c
def txtR:List UInt8→Option (List UInt8×Nat)
 | []=>none
 | c::r=>if c=39 then
   match r with
   | []=>some ([],1)
   | d::r'=>if d=39 then (txtR r').map (fun p=>(39::p.1,p.2+2))else some ([],1)
  else (txtR r).map fun p=>(c::p.1,p.2+1)
def headIs(l:List UInt8)(f:UInt8→Bool):Bool:=match l with | []=>false | c::_=>f c
theorem isDig_iff(c:UInt8):isDig c=true↔48≤c.toNat∧c.toNat≤57:=by
 simp[isDig,UInt8.le_iff_toNat_le]
def resL:List (List UInt8):=[[97,108,108],[97,110,100],[97,115],[97,115,99],[98,101,103,105,110],[98,101,116,119,101,101,110],[98,108,111,98],[98,111,111,108],[98,121],[99,97,115,101],[99,111,109,109,105,116],[99,114,101,97,116,101],[99,114,111,115,115],[100,101,108,101,116,101],[100,101,115,99],[100,105,115,116,105,110,99,116],[100,114,111,112],[101,120,99,101,112,116],[101,120,105,115,116,115],[102,97,108,115,101],[102,114,111,109],[102,117,108,108],[103,114,111,117,112],[104,97,118,105,110,103],[105,110],[105,110,100,101,120],[105,110,110,101,114],[105,110,115,101,114,116],[105,110,116],[105,110,116,101,114,115,101,99,116],[105,110,116,111],[105,115],[106,111,105,110],[107,101,121],[108,101,102,116],[108,105,107,101],[108,105,109,105,116],[110,111,116],[110,117,108,108],[111,102,102,115,101,116],[111,110],[111,114],[111,114,100,101,114],[111,117,116,101,114],[112,114,105,109,97,114,121],[114,105,103,104,116],[114,111,108,108,98,97,99,107],[115,101,108,101,99,116],[115,101,116],[116,97,98,108,101],[116,101,120,116],[116,114,117,101],[117,110,105,111,110],[117,110,105,113,117,101],[117,112,100,97,116,101],[117,115,105,110,103],[118,97,108,117,101,115],[119,104,101,114,101]]
def resB(l:List UInt8):Bool:=resL.contains l
def isCap(c:UInt8):Bool:=65≤c && c≤90
def nameB(l:List UInt8):Bool := !l.isEmpty && decide (l.length≤32) && !headIs l isDig && !resB l && l.all fun c=>isWch c && !isCap c
open Go.RowKit
theorem ret_bool{a b:Bool}(h:a=b):Ending.returned (.bool a) = .returned (.bool b):=by rw[h]
theorem size_list(s:ByteArray):s.data.toList.length=s.size:=by simp
theorem bool_iff{a b:Bool}(h:a=true↔b=true):a=b:=by cases a <;> cases b <;> simp_all
theorem bthen{w w1 w2:World}(h:Below w.heap.size w w1)(h':Below w1.heap.size w1 w2):Below w.heap.size w w2:=h.trans (h'.mono h.size)
def str(l:List UInt8):ByteArray:=⟨l.toArray⟩
theorem str_list(l:List UInt8):(str l).data.toList=l:=by simp[str]
theorem list_str(s:ByteArray):str s.data.toList=s:=by simp[str]
theorem str_size(l:List UInt8):(str l).size=l.length:=by rw[←size_list,str_list]
theorem u8_lt(c:UInt8):(c.toNat:Int) < 256:=by have:=c.toNat_lt;omega
theorem isLet_eq(c:UInt8):isLet c=decide ((97≤c.toNat∧c.toNat≤122)∨(65≤c.toNat∧c.toNat≤90)∨c.toNat=95):=by
 apply bool_iff
 simp only[isLet,Bool.or_eq_true,Bool.and_eq_true,decide_eq_true_iff,UInt8.le_iff_toNat_le,beq_iff_eq,←UInt8.toNat_inj]
 change ((97≤c.toNat∧c.toNat≤122)∨(65≤c.toNat∧c.toNat≤90))∨c.toNat=95↔_
 omega
theorem isDig_eq(c:UInt8):isDig c=decide (48≤c.toNat∧c.toNat≤57):=bool_iff (by rw[isDig_iff,decide_eq_true_iff])
theorem isCap_eq(c:UInt8):isCap c=decide (65≤c.toNat∧c.toNat≤90):=by
 apply bool_iff
 simp only[isCap,Bool.and_eq_true,decide_eq_true_iff,UInt8.le_iff_toNat_le];exact Iff.rfl
theorem digit_any(c:UInt8)(w:World):Calls Tryz.prog 167 #[.int .u8 c.toNat] w fun e w'=>e = .returned (.bool (isDig c))∧w'=w:=by
 rw[isDig_eq];have h:=u8_lt c;generalize c.toNat=n at *;have hn:(n:Int) < 48∨((48:Int)≤n∧(n:Int)≤57)∨((48:Int)≤n∧(57:Int) < n):=by omega
 rcases hn with h1 | ⟨h0,h1⟩ | ⟨h0,h1⟩
 all_goals
  go_enter Tryz.func167,Tryz.ntmps167;go_wp2_with fail
  go_ret
  refine⟨ret_bool ?_,rfl⟩
  first | (exact(decide_eq_true (by omega)).symm) | (exact(decide_eq_false (by omega)).symm) | (refine bool_iff ?_;simp;omega)
theorem letter_any(c:UInt8)(w:World):Calls Tryz.prog 169 #[.int .u8 c.toNat] w fun e w'=>e = .returned (.bool (isLet c))∧w'=w:=by
 rw[isLet_eq];have h:=u8_lt c;generalize c.toNat=n at *;have hn:(n:Int) < 65∨((65:Int)≤n∧(n:Int)≤90)∨((90:Int) < n∧(n:Int) < 97∧(n:Int)≠95)∨(n:Int)=95∨((97:Int)≤n∧(n:Int)≤122)∨((122:Int) < n):=by omega
 rcases hn with h1 | ⟨h0,h1⟩ | ⟨h0,h1,h2⟩ | h1 | ⟨h0,h1⟩ | h1
 all_goals
  go_enter Tryz.func169,Tryz.ntmps169;go_wp2_with fail
  go_ret
  refine⟨ret_bool ?_,rfl⟩
  first | (exact(decide_eq_true (by omega)).symm) | (exact(decide_eq_false (by omega)).symm) | (refine bool_iff ?_;simp;omega)
theorem list_get{s:ByteArray}{k:Nat}(hk:k < s.size):s.data.toList[k]'(by rw[size_list];exact hk)=s[k]:=by simp;rfl
theorem name_iff(l:List UInt8):nameB l=true↔l≠[]∧l.length≤32∧headIs l isDig=false∧resB l=false∧∀ c∈l,isWch c=true∧isCap c=false:=by
 unfold nameB;simp only[Bool.and_eq_true,Bool.not_eq_true',decide_eq_true_iff,List.all_eq_true,List.isEmpty_eq_false_iff]
 constructor
 ·rintro⟨⟨⟨⟨h1,h2⟩,h3⟩,h4⟩,h5⟩
  exact⟨h1,h2,h3,h4,h5⟩
 ·rintro⟨h1,h2,h3,h4,h5⟩
  exact⟨⟨⟨⟨h1,h2⟩,h3⟩,h4⟩,h5⟩
theorem name_nil:nameB []=false:=rfl
end Go.Proofs.YtcicpjgnpcnnmaaGreatDoor
