import Derived.Test.YtcicpjgnpcnnmaaGreatDoorQ10
import Derived.Test.YtcicpjgnpcnnmaaGreatDoorQ13
import Derived.Test.YtcicpjgnpcnnmaaGreatDoorQ15
import Derived.Test.YtcicpjgnpcnnmaaGreatDoorQ17
set_option maxRecDepth 100000
set_option linter.unusedSimpArgs false
set_option linter.unusedVariables false
namespace Go.Proofs.YtcicpjgnpcnnmaaGreatDoor
open Go.RowKit
def wAt:List UInt8:=[97,116]
def zW:BV.V:=⟨0,0,⟨#[]⟩⟩
theorem emp_nil:BV.emp ⟨#[]⟩=true:=by rw[BV.emp,Lib.toList_data];rfl
def toV(v:Vl):BV.V:=⟨v.k,v.i,str v.s⟩
def ofV(v:BV.V):Vl:=⟨v.k,v.i,v.s.data.toList⟩
theorem toV_ofV(v:BV.V):toV (ofV v)=v:=by cases v;simp[toV,ofV,str]
theorem ofV_toV(v:Vl):ofV (toV v)=v:=by cases v;simp[toV,ofV,str]
abbrev Ans:=Int×BV.V
abbrev Deeds:=List UInt8→List UInt8→List BV.V→Ans
def atP(r:List BV.V)(i:Int):Ans:=if 0≤i∧i < r.length then (0,r.getD i.toNat zW)else (1,zW)
def opP(d:Deeds)(o n:List UInt8)(v:Vl)(r:List BV.V)(vs:List BV.V):Ans:=if o=wLit then (0,toV v)else if o=wAt then atP r v.i else d o n vs
mutual
def E.ev(d:Deeds)(r:List BV.V):E→Ans
 | .mk o v _ n l=>if(E.evL d r l).1=0 then opP d o n v r (E.evL d r l).2 else ((E.evL d r l).1,zW)
def E.evL(d:Deeds)(r:List BV.V):List E→Int×List BV.V
 | []=>(0,[])
 | x::l=>if(x.ev d r).1=0 then ((E.evL d r l).1,(x.ev d r).2::(E.evL d r l).2)else ((x.ev d r).1,[])
end
theorem evL_ok{d:Deeds}{r:List BV.V}{l:List E}:(E.evL d r l).1=0↔∀ x∈l,(x.ev d r).1=0:=by
 induction l with
 | nil=>simp[E.evL]
 | cons a l ih =>
  simp only[E.evL]
  by_cases h:(a.ev d r).1=0
  ·simp[h,ih]
  ·simp[h]
theorem evL_vals{d:Deeds}{r:List BV.V}{l:List E}(h:(E.evL d r l).1=0):(E.evL d r l).2=l.map fun x=>(x.ev d r).2:=by
 induction l with
 | nil=>simp[E.evL]
 | cons a l ih =>
  have h1:=evL_ok.1 h;have ha:=h1 a (by simp)
  have hl:=evL_ok.2 (fun x (hx:x∈l)=>h1 x (by simp[hx]))
  simp[E.evL,ha,ih hl]
theorem evL_first{d:Deeds}{r:List BV.V}{l:List E}(k:Nat)(hk:k < l.length)(h0:∀ j (hj:j < l.length),j < k→(l[j].ev d r).1=0)(h:¬(l[k].ev d r).1=0):(E.evL d r l).1=(l[k].ev d r).1:=by
 induction l generalizing k with
 | nil=>simp at hk
 | cons a l ih =>
  cases k with
  | zero=>simp only[List.getElem_cons_zero]at h ⊢;simp[E.evL,h]
  | succ k =>
   have ha:(a.ev d r).1=0:=h0 0 (by simp) (by omega)
   simp only[List.getElem_cons_succ]at h ⊢;rw[←ih k (by simpa using hk) (fun j hj hlt=>h0 (j+1) (by simpa using hj) (by omega)) h]
   simp[E.evL,ha]
def wSum:List UInt8:=[115,117,109]
def wMin:List UInt8:=[109,105,110]
def wMax:List UInt8:=[109,97,120]
def aggB(n:List UInt8):Bool:=n == wCount || n == wSum || n == wMin || n == wMax
def placeB(W:Int)(v:Vl)(t n:List UInt8)(l:List E):Bool:=(v.k == 2 && v.s == [] && decide (0≤v.i) && decide (v.i < W)) && (t == [] && n == [] && l.isEmpty)
mutual
def E.good(W:Int):E→Bool
 | .mk o v t n l=>if o=wAt then placeB W v t n l
  else if o=wLit then (t == [] && (n == []) && l.isEmpty) && v.may
  else if o=wCol then false
  else if o=wCall then (v == v0 && (t == [])) && nameB n && !aggB n && E.goodL W l
  else (v == v0 && (t == []) && (n == [])) && decide (least o≤l.length) && decide (l.length≤most o) && E.goodL W l
def E.goodL(W:Int):List E→Bool
 | []=>true
 | a::l=>a.good W && E.goodL W l
end
theorem goodL_iff{W:Int}{l:List E}:E.goodL W l=true↔∀ x∈l,x.good W=true:=by
 induction l with
 | nil=>simp[E.goodL]
 | cons a l ih=>simp[E.goodL,ih]
theorem good_parts{W:Int}{o:List UInt8}{v:Vl}{t n:List UInt8}{l:List E}(h:(E.mk o v t n l).good W=true):∀ x∈l,x.good W=true:=by
 simp only[E.good]at h
 split at h
 ·simp only[placeB,Bool.and_eq_true,List.isEmpty_iff]at h
  rw[h.2.2];simp
 ·split at h
  ·simp only[Bool.and_eq_true,List.isEmpty_iff]at h
   rw[h.1.2];simp
  ·split at h
   ·simp at h
   ·split at h
    ·simp only[Bool.and_eq_true]at h
     exact goodL_iff.1 h.2
    ·simp only[Bool.and_eq_true]at h
     exact goodL_iff.1 h.2
theorem good_at{W:Int}{v:Vl}{t n:List UInt8}{l:List E}(h:(E.mk wAt v t n l).good W=true):v.k=2∧v.s = []∧0≤v.i∧v.i < W∧t = []∧n = []∧l = []:=by
 simp only[E.good,if_true,placeB,Bool.and_eq_true,List.isEmpty_iff,beq_iff_eq,decide_eq_true_eq]at h;exact⟨h.1.1.1.1,h.1.1.1.2,h.1.1.2,h.1.2,h.2.1.1,h.2.1.2,h.2.2⟩
def chkW(W:Int)(e:E):Int:=if e.good W then (if 40 < e.deep then 3 else 0)else 1
theorem chkW_ok{W:Int}{e:E}:chkW W e=0↔e.good W=true∧e.deep≤40:=by
 unfold chkW;cases e.good W
 ·simp
 ·by_cases h:40 < e.deep
  ·simp[h]
  ·simp[h];omega
mutual
def E.us:E→List Int
 | .mk o v _ _ l=>(if o=wAt then [v.i]else [])++E.usL l
def E.usL:List E→List Int
 | []=>[]
 | a::l=>a.us++E.usL l
end
def Fit8(v:BV.V):Prop:=(-9223372036854775808≤v.i∧v.i≤9223372036854775807)∧v.s.size≤100000000
mutual
def E.fit(d:Deeds)(r:List BV.V):E→Prop
 | .mk _ v _ _ l=>l.length≤2000∧(-9223372036854775808≤v.i∧v.i≤9223372036854775807)∧E.fitL d r l
def E.fitL(d:Deeds)(r:List BV.V):List E→Prop
 | []=>True
 | a::l=>(a.fit d r∧Fit8 (a.ev d r).2)∧E.fitL d r l
end
theorem fitL_iff{d:Deeds}{r:List BV.V}{l:List E}:E.fitL d r l↔∀ x∈l,x.fit d r∧Fit8 (x.ev d r).2:=by
 induction l with
 | nil=>simp[E.fitL]
 | cons a l ih=>simp[E.fitL,ih]
def sumS(vs:List BV.V):Nat:=(vs.map fun v=>v.s.size).sum
def Small(d:Deeds):Prop:=∀ o n vs,(∀ v∈vs,-9223372036854775808≤v.i∧v.i≤9223372036854775807)→sumS vs≤100000000→(-9223372036854775808≤(d o n vs).2.i∧(d o n vs).2.i≤9223372036854775807)∧(d o n vs).2.s.size≤max 100000 (sumS vs)
mutual
def E.lt:E→Bool
 | .mk _ v _ _ l=>decide (v.s.length≤100) && E.ltL l
def E.ltL:List E→Bool
 | []=>true
 | a::l=>a.lt && E.ltL l
end
theorem ltL_iff{l:List E}:E.ltL l=true↔∀ x∈l,x.lt=true:=by
 induction l with
 | nil=>simp[E.ltL]
 | cons a l ih=>simp[E.ltL,ih]
theorem size_mem{l:List E}{x:E}(hx:x∈l):x.size≤E.sizeL l:=by
 induction l with
 | nil=>simp at hx
 | cons a l ih =>
  simp only[E.sizeL];rcases List.mem_cons.1 hx with rfl | h
  ·omega
  ·have:=ih h;omega
theorem sumS_le{d:Deeds}{r:List BV.V}{l:List E}(h:∀ x∈l,(x.ev d r).2.s.size≤100000*x.size):sumS (l.map fun x=>(x.ev d r).2)≤100000*E.sizeL l:=by
 induction l with
 | nil=>simp[sumS]
 | cons a l ih =>
  have h1:=h a (by simp)
  have h2:=ih fun x hx=>h x (by simp[hx])
  simp only[sumS,List.map_cons,List.sum_cons,E.sizeL,Nat.mul_add]at h2 ⊢
  omega
theorem len_size(l:List E):l.length≤E.sizeL l:=by
 induction l with
 | nil=>simp
 | cons a l ih =>
  have:1≤a.size:=by cases a;simp[E.size]
  simp only[List.length_cons,E.sizeL]
  omega
theorem ev_fit{d:Deeds}(hd:Small d){r:List BV.V}(hr:∀ v∈r,(-9223372036854775808≤v.i∧v.i≤9223372036854775807)∧v.s.size≤100000)(e:E):e.size≤1000→e.ints=true→e.lt=true →
  e.fit d r∧(-9223372036854775808≤(e.ev d r).2.i∧(e.ev d r).2.i≤9223372036854775807)∧(e.ev d r).2.s.size≤100000*e.size:=by
 induction e using E.ind with
 | h o v t n l ih =>
  intro hs hi ht;simp only[E.size]at hs ⊢;simp only[E.ints,E.lt,Bool.and_eq_true,decide_eq_true_eq]at hi ht
  have hx:∀ x∈l,x.fit d r∧(-9223372036854775808≤(x.ev d r).2.i∧(x.ev d r).2.i≤9223372036854775807)∧(x.ev d r).2.s.size≤100000*x.size:=fun x hx =>
   ih x hx (by have:=size_mem hx;omega) (intsL_iff.1 hi.2 x hx) (ltL_iff.1 ht.2 x hx)
  have hsum:=sumS_le (d:=d) (r:=r) (l:=l) fun x h=>(hx x h).2.2
  refine⟨⟨by have:=len_size l;omega,hi.1,fitL_iff.2 fun x h=>⟨(hx x h).1,(hx x h).2.1,?_⟩⟩,?_⟩
  ·have h1:=(hx x h).2.2
   have h2:=size_mem h
   omega
  ·simp only[E.ev]
   by_cases h0:(E.evL d r l).1=0
   ·rw[if_pos h0,evL_vals h0]
    simp only[opP]
    split
    ·exact⟨hi.1,by show(str v.s).size≤_;rw[str_size];omega⟩
    ·split
     ·simp only[atP]
      split
      ·rename_i h3
       rw[List.getD_eq_getElem?_getD,List.getElem?_eq_getElem (show v.i.toNat < r.length by omega)]
       have:=hr _ (List.getElem_mem (show v.i.toNat < r.length by omega))
       exact⟨this.1,by have:=this.2;simp only[Option.getD_some];omega⟩
      ·exact⟨by decide,Nat.zero_le _⟩
     ·have:=hd o n (l.map fun x=>(x.ev d r).2) (fun u hu=>by obtain⟨x,h,rfl⟩:=List.mem_map.1 hu;exact(hx x h).2.1) (by omega)
      exact⟨this.1,by have:=this.2;omega⟩
   ·rw[if_neg h0]
    exact⟨by show(-9223372036854775808:Int)≤0∧(0:Int)≤_;omega,Nat.zero_le _⟩
theorem agg_count{n:List UInt8}(h:aggB n=false):(n == wCount)=false:=by
 unfold aggB at h;simp only[Bool.or_eq_false_iff]at h;exact h.1.1.1
theorem no_word{o:List UInt8}(h:o∉allOps){m:Nat}:(decide (least o≤m) && decide (m≤most o))=false:=by
 rw[(many_none h).1,(many_none h).2];cases m <;> simp
mutual
def E.nok(W:Int):E→Bool
 | .mk o v t n l=>if o=wCol∨o=wStar∨o=wCall∧aggB n=true then false else if o=wAt then placeB W v t n l else E.nokL W l
def E.nokL(W:Int):List E→Bool
 | []=>true
 | a::l=>a.nok W && E.nokL W l
end
theorem nokL_iff{W:Int}{l:List E}:E.nokL W l=true↔∀ x∈l,x.nok W=true:=by
 induction l with
 | nil=>simp[E.nokL]
 | cons a l ih=>simp[E.nokL,ih]
def colA:E:=col [] [97]
mutual
def E.nmd:E→E
 | .mk o v t n l=>if o=wAt then colA else .mk o v t n (E.nmdL l)
def E.nmdL:List E→List E
 | []=>[]
 | a::l=>a.nmd::E.nmdL l
end
theorem nmdL_map(l:List E):E.nmdL l=l.map E.nmd:=by
 induction l with
 | nil=>rfl
 | cons a l ih=>simp[E.nmdL,ih]
theorem nmd_may(W:Int)(e:E):(e.nok W && e.nmd.may)=e.good W:=by
 induction e using E.ind with
 | h o v t n l ih =>
  have hl:(E.nokL W l && E.mayL (E.nmdL l))=E.goodL W l:=by
   clear o v t n
   induction l with
   | nil=>rfl
   | cons a l ihl =>
    have h1:=ih a (by simp)
    have h2:=ihl fun x hx=>ih x (by simp[hx])
    simp only[E.nokL,E.nmdL,E.mayL,E.goodL,←h1,←h2];cases a.nok W <;> cases a.nmd.may <;> cases E.nokL W l <;> cases E.mayL (E.nmdL l) <;> rfl
  have hlen:(E.nmdL l).length=l.length:=by rw[nmdL_map,List.length_map]
  have hem:(E.nmdL l).isEmpty=l.isEmpty:=by cases l <;> rfl
  have hnil:l.isEmpty=true→E.nokL W l=true:=by cases l <;> simp[E.nokL]
  by_cases ho:o=wAt
  ·subst ho
   rw[E.nok,if_neg (by rintro(h | h | ⟨h,-⟩) <;> exact absurd h (by decide)),if_pos rfl,E.nmd,if_pos rfl,E.good,if_pos rfl,show colA.may=true by decide,Bool.and_true]
  ·rw[E.nmd,if_neg ho,E.good,if_neg ho]
   by_cases h1:o=wLit
   ·subst h1
    rw[if_pos rfl,E.nok,if_neg (by rintro(h | h | ⟨h,-⟩) <;> exact absurd h (by decide)),if_neg (by decide),E.may,if_pos rfl,hem]
    cases hx:l.isEmpty
    ·simp
    ·rw[hnil hx];simp
   ·rw[if_neg h1]
    by_cases h2:o=wCol
    ·rw[if_pos h2,E.nok,if_pos (Or.inl h2)];rfl
    ·rw[if_neg h2]
     by_cases h3:o=wCall
     ·subst h3
      rw[if_pos rfl,E.nok];cases ha:aggB n
      ·rw[if_neg (by rintro(h | h | ⟨-,h⟩) <;> exact absurd h (by decide)),if_neg (by decide),E.may,if_neg (by decide),if_neg (by decide),if_pos rfl,←hl]
       unfold countsL;rw[agg_count ha];cases E.nokL W l <;> simp
      ·rw[if_pos (Or.inr (Or.inr ⟨rfl,rfl⟩))]
       simp
     ·rw[if_neg h3,E.nok]
      by_cases h4:o=wStar
      ·rw[if_pos (Or.inr (Or.inl h4))]
       subst h4;have hw:=no_word (o:=wStar) (by decide) (m:=l.length)
       rw[Bool.false_and]
       revert hw
       cases decide (least wStar≤l.length) <;> cases decide (l.length≤most wStar) <;> simp
      ·rw[if_neg (by simp[h2,h3,h4]),if_neg ho,E.may,if_neg h1,if_neg h2,if_neg h3,hlen,←hl]
       cases E.nokL W l <;> simp
theorem nmd_deep(W:Int)(e:E):e.good W=true→e.nmd.deep=e.deep:=by
 induction e using E.ind with
 | h o v t n l ih =>
  intro h;have hp:=good_parts h
  by_cases ho:o=wAt
  ·subst ho
   obtain⟨-,-,-,-,-,-,rfl⟩:=good_at h;rw[E.nmd,if_pos rfl]
   rfl
  ·rw[E.nmd,if_neg ho,E.deep,E.deep]
   congr 1
   clear h ho
   induction l with
   | nil=>rfl
   | cons a l ihl =>
    simp only[E.nmdL,E.deepL,ih a (by simp) (hp a (by simp)),ihl (fun x hx=>ih x (by simp[hx])) fun x hx=>hp x (by simp[hx])]
theorem replaceK_len(old new:List UInt8)(h0:old≠[]):∀ (k:Nat)(s:List UInt8),k≤Lib.count s old→(Lib.replaceK old new k s).length+k*old.length=s.length+k*new.length:=by
 intro k
 induction k with
 | zero=>intro s _;simp[Lib.replaceK]
 | succ k ih =>
  intro s hk;obtain⟨i,hi⟩:=Lib.index_of_count (s:=s) (old:=old) (by omega)
  rw[Lib.replaceK_hit old new k s i hi];have h1:=Lib.count_hit h0 hi;have h2:=ih (s.drop (i+old.length)) (by omega)
  have h3:i+old.length≤s.length:=by have:=Lib.index_room s old (by omega);rw[hi]at this;omega
  simp only[List.length_append,List.length_take,List.length_drop,Nat.succ_mul]at *
  omega
theorem replaceAll_len(s old new:List UInt8)(h0:old≠[]):(Lib.replaceAll s old new).length+Lib.count s old*old.length=s.length+Lib.count s old*new.length:=by
 unfold Lib.replaceAll Lib.replace
 split
 ·rename_i h
  rw[beq_iff_eq]at h;rw[h]
 ·have:Lib.replaceNum s old (-1)=Lib.count s old:=by unfold Lib.replaceNum;simp
  rw[this];exact replaceK_len old new h0 _ s (Nat.le_refl _)
theorem trimB_len(s:List UInt8)(c:UInt8):(Lib.trimB s c).length≤s.length:=by
 unfold Lib.trimB Lib.trimLeftB Lib.trimRightB;have h1:=(List.dropWhile_sublist (l:=(s.reverse.dropWhile (· == c)).reverse) (· == c)).length_le;have h2:=(List.dropWhile_sublist (l:=s.reverse) (· == c)).length_le;simp only[List.length_reverse]at *
 omega
theorem trimS_size(s:ByteArray):(SC.trimS s).size≤s.size:=by
 have:=trimB_len s.data.toList 32;unfold SC.trimS;simp only[ByteArray.size,List.size_toArray,Array.length_toList]at *
 omega
theorem push_size(l:List Int)(r:ByteArray):(l.foldl (fun r n=>r.push (UInt8.ofNat n.toNat)) r).size=r.size+l.length:=by
 induction l generalizing r with
 | nil=>simp
 | cons a l ih =>
  have h:(r.push (UInt8.ofNat a.toNat)).size=r.size+1:=by cases r;exact Array.size_push _
  rw[List.foldl_cons,ih,h,List.length_cons]
  omega
theorem turnedB_size(f:Nat)(s:ByteArray):(SC.turnedB f s).size=s.size:=by
 unfold SC.turnedB;rw[push_size,SC.turnedL,List.length_map,List.length_range];exact Nat.zero_add _
theorem pc_size(s:ByteArray)(m k:Int):(SC.pc s m k).size≤s.size:=by
 unfold SC.pc;simp only[ByteArray.size_extract]
 omega
def fCoalesce:List UInt8:=[99,111,97,108,101,115,99,101]
def fNullif:List UInt8:=[110,117,108,108,105,102]
def fAbs:List UInt8:=[97,98,115]
def fSign:List UInt8:=[115,105,103,110]
def fLength:List UInt8:=[108,101,110,103,116,104]
def fLower:List UInt8:=[108,111,119,101,114]
def fUpper:List UInt8:=[117,112,112,101,114]
def fTrim:List UInt8:=[116,114,105,109]
def fSubstr:List UInt8:=[115,117,98,115,116,114]
def fInstr:List UInt8:=[105,110,115,116,114]
def fReplace:List UInt8:=[114,101,112,108,97,99,101]
def at0(l:List BV.V):BV.V:=l.getD 0 zW
def at1(l:List BV.V):BV.V:=l.getD 1 zW
def at2(l:List BV.V):BV.V:=l.getD 2 zW
def nuV(n:Int):BV.V:=⟨2,n,⟨#[]⟩⟩
def txtV(s:ByteArray):BV.V:=⟨3,0,s⟩
def tru(b:Bool):BV.V:=⟨1,if b then 1 else 0,⟨#[]⟩⟩
def dNeg(a:BV.V):Ans:=(SC.arE ⟨#[45]⟩ (SC.nV 0) a,SC.arV ⟨#[45]⟩ (SC.nV 0) a)
def dNullif(a b:BV.V):Ans:=(0,if BV.sameB a.k a.i a.s b.k b.i b.s=true then zW else a)
def dAbs(a:BV.V):Ans:=if a.i < 0 then dNeg a else (0,a)
def dSign(a:BV.V):Ans:=(0,nuV (BV.cmpI a.i 0))
def dSubstr(a b c:BV.V):Ans:=if c.i < 0 then (1,zW)else (0,⟨a.k,0,SC.pc a.s b.i c.i⟩)
def dInstr(a b:BV.V):Ans:=(0,nuV (Lib.index a.s.data.toList b.s.data.toList+1))
def replN(a b c:BV.V):Int:=a.s.size+(Lib.count a.s.data.toList b.s.data.toList:Int)*((c.s.size:Int) - b.s.size)
def dReplace(a b c:BV.V):Ans:=if b.s=⟨#[]⟩then (0,a)else if 100000 < replN a b c then (30,zW)else (0,txtV ⟨(Lib.replaceAll a.s.data.toList b.s.data.toList c.s.data.toList).toArray⟩)
def firstV:List BV.V→BV.V
 | []=>zW
 | v::l=>if v.k=0 then firstV l else v
def doP(n:List UInt8)(l:List BV.V):Ans :=
 if n=fCoalesce then (0,firstV l)else if n=fNullif then dNullif (at0 l) (at1 l)else if n=fAbs then dAbs (at0 l)else if n=fSign then dSign (at0 l)
 else if n=fLength then (0,nuV (at0 l).s.size)else if n=fLower then (0,txtV (SC.turnedB 65 (at0 l).s))else if n=fUpper then (0,txtV (SC.turnedB 97 (at0 l).s))
 else if n=fTrim then (0,txtV (SC.trimS (at0 l).s))else if n=fSubstr then dSubstr (at0 l) (at1 l) (at2 l)else if n=fInstr then dInstr (at0 l) (at1 l)
 else if n=fReplace then dReplace (at0 l) (at1 l) (at2 l)else (1,zW)
def callX(n:List UInt8)(x:SC.Fn)(l:List BV.V):Ans :=
 if SC.takesB x.lo x.hi l.length=false∨BV.allOk l=false then (1,zW)
 else if x.k0=0 then doP n l
 else if SC.okK [x.k0,x.k1,x.k2] l=false then (20,zW)else if SC.nulB l=true then (0,zW)else doP n l
def callP(n:List UInt8)(l:List BV.V):Ans:=match SC.look (str n)with
 | none=>(1,zW)
 | some x=>callX n x l
def dLike(a b:BV.V):Ans:=if a.k=0∨b.k=0 then (0,zW)else if a.k≠3∨b.k≠3 then (20,zW)else match LK.rd b.s.data.toList with
 | none=>(40,zW)
 | some us=>(0,tru (LK.M us a.s.data.toList))
def bGe:ByteArray:=⟨#[62,61]⟩
def bLe:ByteArray:=⟨#[60,61]⟩
def dBetween(a b c:BV.V):Ans:=if LG.relE bGe a b≠0 then (LG.relE bGe a b,zW)else if LG.relE bLe a c≠0 then (LG.relE bLe a c,zW)else (LG.ctL [LG.relR bGe a b,LG.relR bLe a c],LG.decV false [LG.relR bGe a b,LG.relR bLe a c])
def one1(f:BV.V→Ans):List BV.V→Ans
 | [a]=>f a
 | _=>(1,zW)
def two2(f:BV.V→BV.V→Ans):List BV.V→Ans
 | [a,b]=>f a b
 | _=>(1,zW)
def three3(f:BV.V→BV.V→BV.V→Ans):List BV.V→Ans
 | [a,b,c]=>f a b c
 | _=>(1,zW)
def dIn:List BV.V→Ans
 | []=>(1,zW)
 | a::l=>(LG.inE a l,LG.inR a l)
def arOps:List (List UInt8):=[[43],[45],[42],[47],[37]]
def relOps:List (List UInt8):=[[61],[60,62],[60],[60,61],[62],[62,61]]
def wJoin:List UInt8:=[124,124]
def deedP:Deeds:=fun o n vs =>
 if o=wNeg then one1 dNeg vs
 else if o∈arOps then two2 (fun a b=>(SC.arE (str o) a b,SC.arV (str o) a b)) vs
 else if o=wJoin then two2 (fun a b=>(SC.joE a b,SC.joV a b)) vs
 else if o=wCall then callP n vs
 else if o=wNot then one1 (fun a=>(LG.ctL [a],LG.notV a)) vs
 else if o=wAnd then (LG.ctL vs,LG.decV false vs)
 else if o=wOr then (LG.ctL vs,LG.decV true vs)
 else if o∈relOps then two2 (fun a b=>(LG.relE (str o) a b,LG.relR (str o) a b)) vs
 else if o=wIsnull then one1 (fun a=>(0,tru (a.k == 0))) vs
 else if o=wNotnull then one1 (fun a=>(0,tru (a.k != 0))) vs
 else if o=wIn then dIn vs
 else if o=wLike then two2 dLike vs
 else if o=wBetween then three3 dBetween vs
 else (1,zW)
def I64(v:BV.V):Prop := -9223372036854775808≤v.i∧v.i≤9223372036854775807
theorem chk_iff(v:BV.V):v.chk=0↔BV.mayB v.k v.i v.s=true:=by
 unfold BV.V.chk BV.chkI;cases BV.mayB v.k v.i v.s <;> simp
theorem chk_num(n:Int):(nuV n).chk=0:=by rw[chk_iff];simp[nuV,BV.mayB,emp_nil]
theorem look_name{nm:ByteArray}{x:SC.Fn}(h:SC.look nm=some x):x∈SC.fns∧x.nm=nm:=by
 unfold SC.look at h;refine⟨List.mem_of_find?_eq_some h,?_⟩;have:=List.find?_some h;rw[beq_iff_eq,Lib.toList_data,Lib.toList_data]at this;exact ByteArray.ext (Array.ext' this)
theorem deed_cases{P:Ans→Prop}{o n:List UInt8}{vs:List BV.V}(hNeg:o=wNeg→P (one1 dNeg vs))(hAr:o∈arOps→P (two2 (fun a b=>(SC.arE (str o) a b,SC.arV (str o) a b)) vs))(hJo:o=wJoin→P (two2 (fun a b=>(SC.joE a b,SC.joV a b)) vs))(hCall:o=wCall→P (callP n vs))(hNot:o=wNot→P (one1 (fun a=>(LG.ctL [a],LG.notV a)) vs))(hAnd:o=wAnd→P (LG.ctL vs,LG.decV false vs))(hOr:o=wOr→P (LG.ctL vs,LG.decV true vs))(hRel:o∈relOps→P (two2 (fun a b=>(LG.relE (str o) a b,LG.relR (str o) a b)) vs))(hIsn:o=wIsnull→P (one1 (fun a=>(0,tru (a.k == 0))) vs))(hNon:o=wNotnull→P (one1 (fun a=>(0,tru (a.k != 0))) vs))(hIn:o=wIn→P (dIn vs))(hLike:o=wLike→P (two2 dLike vs))(hBet:o=wBetween→P (three3 dBetween vs))(hNo:P (1,zW)):P (deedP o n vs):=by
 unfold deedP
 by_cases h:o=wNeg
 ·rw[if_pos h];exact hNeg h
 rw[if_neg h];clear h
 by_cases h:o∈arOps
 ·rw[if_pos h];exact hAr h
 rw[if_neg h];clear h
 by_cases h:o=wJoin
 ·rw[if_pos h];exact hJo h
 rw[if_neg h];clear h
 by_cases h:o=wCall
 ·rw[if_pos h];exact hCall h
 rw[if_neg h];clear h
 by_cases h:o=wNot
 ·rw[if_pos h];exact hNot h
 rw[if_neg h];clear h
 by_cases h:o=wAnd
 ·rw[if_pos h];exact hAnd h
 rw[if_neg h];clear h
 by_cases h:o=wOr
 ·rw[if_pos h];exact hOr h
 rw[if_neg h];clear h
 by_cases h:o∈relOps
 ·rw[if_pos h];exact hRel h
 rw[if_neg h];clear h
 by_cases h:o=wIsnull
 ·rw[if_pos h];exact hIsn h
 rw[if_neg h];clear h
 by_cases h:o=wNotnull
 ·rw[if_pos h];exact hNon h
 rw[if_neg h];clear h
 by_cases h:o=wIn
 ·rw[if_pos h];exact hIn h
 rw[if_neg h];clear h
 by_cases h:o=wLike
 ·rw[if_pos h];exact hLike h
 rw[if_neg h];clear h
 by_cases h:o=wBetween
 ·rw[if_pos h];exact hBet h
 rw[if_neg h];clear h;exact hNo
def Sm(B:Nat)(v:BV.V):Prop:=I64 v∧v.s.size≤B
theorem sm_zW(B:Nat):Sm B zW:=⟨by show(-9223372036854775808:Int)≤0∧(0:Int)≤9223372036854775807;omega,Nat.zero_le _⟩
theorem sm_tru(B:Nat)(b:Bool):Sm B (tru b):=⟨by unfold I64 tru;cases b <;> simp,Nat.zero_le _⟩
theorem sm_tV(B:Nat)(b:Bool):Sm B (LG.tV b):=⟨by unfold I64 LG.tV LG.bi;cases b <;> simp,Nat.zero_le _⟩
theorem sm_num(B:Nat){n:Int}(h : -9223372036854775808≤n∧n≤9223372036854775807):Sm B (nuV n):=⟨h,Nat.zero_le _⟩
theorem sm_dec(B:Nat)(b:Bool)(vs:List BV.V):Sm B (LG.decV b vs):=by
 unfold LG.decV
 repeat' split
 all_goals first | exact sm_tV _ _ | exact sm_zW _
theorem sm_rel(B:Nat)(o:ByteArray)(a b:BV.V):Sm B (LG.relR o a b):=by
 unfold LG.relR
 split
 ·exact sm_tV _ _
 ·exact sm_zW _
theorem sm_not(B:Nat)(a:BV.V):Sm B (LG.notV a):=by
 unfold LG.notV
 repeat' split
 all_goals first | exact sm_tV _ _ | exact sm_zW _
theorem sm_in(B:Nat)(a:BV.V)(l:List BV.V):Sm B (LG.inR a l):=by
 unfold LG.inR
 repeat' split
 all_goals first | exact sm_dec _ _ _ | exact sm_zW _
theorem numR_in(p:Nat)(a b:Int) : -9223372036854775808≤SC.numR p a b∧SC.numR p a b≤9223372036854775807:=by
 unfold SC.numR
 split
 ·rename_i h
  unfold SC.numE at h
  split at h
  ·omega
  ·split at h
   ·rename_i h2
    exact SC.okN_iff.1 h2
   ·omega
 ·omega
theorem sm_ar(B:Nat)(o:ByteArray)(a b:BV.V):Sm B (SC.arV o a b):=by
 unfold SC.arV
 split
 ·exact⟨numR_in _ _ _,Nat.zero_le _⟩
 ·exact sm_zW _
theorem sm_jo(a b:BV.V):Sm (a.s.size+b.s.size) (SC.joV a b):=by
 unfold SC.joV
 split
 ·exact⟨by show(-9223372036854775808:Int)≤0∧(0:Int)≤_;omega,by show(a.s++b.s).size≤_;simp⟩
 ·exact sm_zW _
theorem sumS_mem{v:BV.V}{l:List BV.V}(h:v∈l):v.s.size≤sumS l:=by
 induction l with
 | nil=>simp at h
 | cons a l ih =>
  simp only[sumS,List.map_cons,List.sum_cons]at ih ⊢;rcases List.mem_cons.1 h with rfl | h
  ·omega
  ·have:=ih h;omega
theorem sm_mem{v:BV.V}{l:List BV.V}(hi:∀ v∈l,I64 v)(h:v∈l):Sm (max 100000 (sumS l)) v:=⟨hi v h,by have:=sumS_mem h;omega⟩
theorem sm_at{l:List BV.V}(hi:∀ v∈l,I64 v)(k:Nat):Sm (max 100000 (sumS l)) (l.getD k zW):=by
 rw[List.getD_eq_getElem?_getD];cases hk:l[k]? with
 | none=>exact sm_zW _
 | some v=>exact sm_mem hi (List.mem_of_getElem? hk)
theorem sm_first{l:List BV.V}(hi:∀ v∈l,I64 v):Sm (max 100000 (sumS l)) (firstV l):=by
 have:firstV l=zW∨firstV l∈l:=by
  clear hi
  induction l with
  | nil=>exact .inl rfl
  | cons a l ih =>
   unfold firstV
   split
   ·rcases ih with h | h
    ·exact .inl h
    ·exact .inr (by simp[h])
   ·exact .inr (by simp)
 rcases this with h | h
 ·rw[h];exact sm_zW _
 ·exact sm_mem hi h
theorem repl_size{a b c:BV.V}(h0:¬b.s=⟨#[]⟩)(h:¬100000 < replN a b c):(Lib.replaceAll a.s.data.toList b.s.data.toList c.s.data.toList).length≤100000:=by
 have hb:b.s.data.toList≠[]:=fun hh=>h0 (ByteArray.ext (Array.ext' hh))
 have h1:=replaceAll_len a.s.data.toList b.s.data.toList c.s.data.toList hb;unfold replN at h;rw[size_list,size_list,size_list]at h1;generalize Lib.count a.s.data.toList b.s.data.toList=k at *;generalize (Lib.replaceAll a.s.data.toList b.s.data.toList c.s.data.toList).length=z at *;rw[Int.mul_sub]at h;have h2:(z:Int)+(k:Int)*b.s.size=a.s.size+(k:Int)*c.s.size:=by exact_mod_cast h1
 omega
theorem sm_do(n:List UInt8){l:List BV.V}(hi:∀ v∈l,I64 v)(hs:sumS l≤100000000):Sm (max 100000 (sumS l)) (doP n l).2:=by
 have h0:=sm_at hi 0;have hz:(at0 l).s.size≤100000000:=by have:=h0.2;unfold at0;omega
 unfold doP
 split
 ·exact sm_first hi
 split
 ·unfold dNullif;simp only;split
  ·exact sm_zW _
  ·exact h0
 split
 ·unfold dAbs;split
  ·exact sm_ar _ _ _ _
  ·exact h0
 split
 ·refine sm_num _ ?_
  unfold BV.cmpI
  split
  ·omega
  ·split <;> omega
 split
 ·exact sm_num _ (by omega)
 split
 ·exact⟨by show(-9223372036854775808:Int)≤0∧(0:Int)≤_;omega,by show(SC.turnedB _ _).size≤_;rw[turnedB_size];exact h0.2⟩
 split
 ·exact⟨by show(-9223372036854775808:Int)≤0∧(0:Int)≤_;omega,by show(SC.turnedB _ _).size≤_;rw[turnedB_size];exact h0.2⟩
 split
 ·exact⟨by show(-9223372036854775808:Int)≤0∧(0:Int)≤_;omega,Nat.le_trans (trimS_size _) h0.2⟩
 split
 ·unfold dSubstr;split
  ·exact sm_zW _
  ·exact⟨by show(-9223372036854775808:Int)≤0∧(0:Int)≤_;omega,Nat.le_trans (pc_size _ _ _) h0.2⟩
 split
 ·refine sm_num _ ?_
  have h1:=Lib.index_le (at0 l).s.data.toList (at1 l).s.data.toList;have h2:=Lib.index_ge (at0 l).s.data.toList (at1 l).s.data.toList;rw[size_list]at h1
  omega
 split
 ·unfold dReplace;split
  ·exact h0
  ·rename_i h1
   split
   ·exact sm_zW _
   ·rename_i h2
    refine⟨by show(-9223372036854775808:Int)≤0∧(0:Int)≤_;omega,?_⟩
    have:=repl_size h1 h2
    show(⟨_⟩:ByteArray).size≤_
    simp only[ByteArray.size,List.size_toArray]
    omega
 ·exact sm_zW _
theorem sm_call(n:List UInt8){l:List BV.V}(hi:∀ v∈l,I64 v)(hs:sumS l≤100000000):Sm (max 100000 (sumS l)) (callP n l).2:=by
 unfold callP
 split
 ·exact sm_zW _
 ·unfold callX
  repeat' split
  all_goals first | exact sm_zW _ | exact sm_do n hi hs
theorem deeds_small:Small deedP:=by
 intro o n vs hi hs
 show Sm (max 100000 (sumS vs)) _
 have one:∀ {f:BV.V→Ans} (_:∀ a,Sm (max 100000 (sumS vs)) (f a).2),Sm (max 100000 (sumS vs)) (one1 f vs).2:=by
  intro f hf;unfold one1
  split
  ·exact hf _
  ·exact sm_zW _
 have two:∀ {f:BV.V→BV.V→Ans} (_:∀ a b,Sm (a.s.size+b.s.size) (f a b).2),Sm (max 100000 (sumS vs)) (two2 f vs).2:=by
  intro f hf;unfold two2
  split
  ·rename_i a b
   have:=hf a b;exact⟨this.1,Nat.le_trans this.2 (by simp[sumS];omega)⟩
  ·exact sm_zW _
 refine deed_cases (P:=fun a=>Sm (max 100000 (sumS vs)) a.2) ?_ ?_ ?_ ?_ ?_ ?_ ?_ ?_ ?_ ?_ ?_ ?_ ?_ (sm_zW _) <;> intro _
 ·exact one fun a=>sm_ar _ _ _ _
 ·exact two fun a b=>sm_ar _ _ _ _
 ·exact two fun a b=>sm_jo _ _
 ·exact sm_call n hi hs
 ·exact one fun a=>sm_not _ _
 ·exact sm_dec _ _ _
 ·exact sm_dec _ _ _
 ·exact two fun a b=>sm_rel _ _ _ _
 ·exact one fun a=>sm_tru _ _
 ·exact one fun a=>sm_tru _ _
 ·unfold dIn;split
  ·exact sm_zW _
  ·exact sm_in _ _ _
 ·refine two fun a b => ?_
  unfold dLike
  repeat' split
  all_goals first | exact sm_zW _ | exact sm_tru _ _
 ·unfold three3;split
  ·unfold dBetween
   repeat' split
   all_goals first | exact sm_zW _ | exact sm_dec _ _ _
  ·exact sm_zW _
open SC (HV VBox zero_box)
def vA(a:Ans):Value:= .tuple #[.agg #[.int .i64 a.2.k,.int .i64 a.2.i,.string a.2.s],.int .i64 a.1]
def vV(v:BV.V):Value:= .agg #[.int .i64 v.k,.int .i64 v.i,.string v.s]
theorem refuse_any(x:Value)(w:World):Calls Tryz.prog 108 #[x] w fun e w'=>e = .returned (.tuple #[.agg #[.int .i64 0,.int .i64 0,.string ⟨#[]⟩],.int .i64 1])∧Below w.heap.size w w':=by
 have HZ:=Hi (zero_box w);obtain⟨g0,g1,g2⟩:=HZ.out.box.cells;obtain⟨f0,f1,f2⟩:=HZ.out.box.free;simp only[SC.zV]at g0 g1 g2;go_enter Tryz.func108,Tryz.ntmps108;go_wp2_with fail;exact bodyPost_ret (v:= .tuple #[.agg #[.int .i64 0,.int .i64 0,.string ⟨#[]⟩],.int .i64 1]) (by simp[results,Tryz.results108,go_sem,g0,g1,g2]) rfl ⟨rfl,(Below.refl w.heap.size w).alloc (Nat.le_refl _) _⟩
theorem truth_any(b:Bool)(w:World):Calls Tryz.prog 103 #[.bool b] w fun e w'=>e = .returned (.agg #[.int .i64 1,.int .i64 (if b then 1 else 0),.string ⟨#[]⟩])∧Below w.heap.size w w':=by
 have HZ:=Hi (zero_box w);obtain⟨g0,g1,g2⟩:=HZ.out.box.cells;obtain⟨f0,f1,f2⟩:=HZ.out.box.free;simp only[SC.zV]at g0 g1 g2;cases b
 ·go_enter Tryz.func103,Tryz.ntmps103
  go_wp2_with fail;exact bodyPost_ret (v:= .agg #[.int .i64 1,.int .i64 0,.string ⟨#[]⟩]) (by simp[results,Tryz.results103,go_sem,g0,g1,g2]) rfl ⟨rfl,(Below.refl w.heap.size w).alloc (Nat.le_refl _) _⟩
 ·go_enter Tryz.func103,Tryz.ntmps103
  go_wp2_with fail;exact bodyPost_ret (v:= .agg #[.int .i64 1,.int .i64 1,.string ⟨#[]⟩]) (by simp[results,Tryz.results103,go_sem,g0,g1,g2]) rfl ⟨rfl,(Below.refl w.heap.size w).alloc (Nat.le_refl _) _⟩
theorem valueAt_any(r:List BV.V)(A:Option Addr)(c:Nat)(i:Int)(w:World)(hr:BV.RowAt w w.heap.size A r)(hm:r.length≤9223372036854775807) :
  Calls Tryz.prog 86 #[.slice A r.length c,.int .i64 i] w fun e w'=>e = .returned (vA (atP r i))∧Below w.heap.size w w':=by
 have HZ:=Hi (zero_box w);obtain⟨g0,g1,g2⟩:=HZ.out.box.cells;obtain⟨f0,f1,f2⟩:=HZ.out.box.free;simp only[SC.zV]at g0 g1 g2;unfold vA atP
 by_cases h0:0≤i∧i < r.length
 ·rw[if_pos h0]
  obtain⟨n,rfl⟩:∃ n:Nat,i=n:=⟨i.toNat,by omega⟩
  have hn:n < r.length:=by omega
  have hn1:¬(n:Int) < 0:=by omega
  have hn2:¬(r.length:Int)≤(n:Int):=by omega
  obtain⟨b,off,rfl,hb,hc⟩:=hr (by omega)
  obtain⟨c0,c1,c2⟩:=hc n hn;have HB:=Hi HZ.out.below;have hb0:=HZ.out.below
  replace c0:=(hb0.cell (p:=⟨b,off+n*3,none⟩) hb).trans c0
  replace c1:=(hb0.cell (p:=⟨b,off+n*3+1,none⟩) hb).trans c1
  replace c2:=(hb0.cell (p:=⟨b,off+n*3+2,none⟩) hb).trans c2
  have e:r.getD (n:Int).toNat zW=r[n]:=by rw[List.getD_eq_getElem?_getD,Int.toNat_natCast,List.getElem?_eq_getElem hn];rfl
  simp only[e];generalize r[n]=u at *;obtain⟨uk,ui,us⟩:=u;simp only at c0 c1 c2 ⊢;clear hr hc hb0 h0 e;go_enter Tryz.func86,Tryz.ntmps86;go_wp2_with fail;exact bodyPost_ret (v:= .tuple #[.agg #[.int .i64 uk,.int .i64 ui,.string us],.int .i64 0]) (by simp[results,Tryz.results86,go_sem,g0,g1,g2]) rfl ⟨rfl,(Below.refl w.heap.size w).alloc (Nat.le_refl _) _⟩
 ·rw[if_neg h0]
  have h1:i < 0∨(¬i < 0∧(r.length:Int)≤i):=by omega
  have HB:=Hi HZ.out.below;clear h0 hr;rcases h1 with h1 | ⟨h1,h2⟩
  ·go_enter Tryz.func86,Tryz.ntmps86
   go_wp2_with fail;exact bodyPost_ret (v:= .tuple #[.agg #[.int .i64 0,.int .i64 0,.string ⟨#[]⟩],.int .i64 1]) (by simp[results,Tryz.results86,go_sem,g0,g1,g2]) rfl ⟨rfl,(Below.refl w.heap.size w).alloc (Nat.le_refl _) _⟩
  ·go_enter Tryz.func86,Tryz.ntmps86
   go_wp2_with fail;exact bodyPost_ret (v:= .tuple #[.agg #[.int .i64 0,.int .i64 0,.string ⟨#[]⟩],.int .i64 1]) (by simp[results,Tryz.results86,go_sem,g0,g1,g2]) rfl ⟨rfl,(Below.refl w.heap.size w).alloc (Nat.le_refl _) _⟩
end Go.Proofs.YtcicpjgnpcnnmaaGreatDoor
namespace Go.Proofs.YtcicpjgnpcnnmaaGreatDoor
open Go.RowKit
open SC (HV VBox zero_box Args)
def SBox(w:World)(g:Nat)(s:ByteArray):Prop:=w.heap[g]? = some (.cells #[.string s] 9 (0,0))
theorem SBox.later{w w':World}{g:Nat}{s:ByteArray}(h:SBox w g s)(hb:Below w.heap.size w w'):SBox w' g s:=(hb.block g (Array.getElem?_eq_some_iff.1 h).1).trans h
theorem SBox.cell{w:World}{g:Nat}{s:ByteArray}(h:SBox w g s):w.cell? ⟨g,0,none⟩=some (.string s):=by rw[Lib.cell_of_heap h];rfl
def RBox(w:World)(g:Nat)(A:Option Addr)(n c:Nat):Prop:=w.heap[g]? = some (.cells #[.slice A n c] 39 (0,0))
theorem RBox.later{w w':World}{g:Nat}{A:Option Addr}{n c:Nat}(h:RBox w g A n c)(hb:Below w.heap.size w w'):RBox w' g A n c:=(hb.block g (Array.getElem?_eq_some_iff.1 h).1).trans h
theorem RBox.cell{w:World}{g:Nat}{A:Option Addr}{n c:Nat}(h:RBox w g A n c):w.cell? ⟨g,0,none⟩=some (.slice A n c):=by rw[Lib.cell_of_heap h];rfl
theorem set3_new{w W:World}(h:Below w.heap.size w W)(x y z:Value):Below w.heap.size w (((W.setCell ⟨w.heap.size,0,none⟩ x).setCell ⟨w.heap.size,1,none⟩ y).setCell ⟨w.heap.size,2,none⟩ z):=SC.Below.set3 h (Nat.le_refl _) x y z
theorem one_box(w:World)(a:BV.V):HV w [(w.heap.size+1,SC.zV),(w.heap.size,a)] ((w.alloc (.cells #[.int .i64 a.k,.int .i64 a.i,.string a.s] 26)).alloc (.cells #[.int .i64 0,.int .i64 0,.string ⟨#[]⟩] 26)):=((HV.nil w).push a).pushAt (by simp) SC.zV
theorem dvLit(x:Value)(g:Nat)(v:BV.V)(w:World)(h:VBox w g v):Calls Tryz.prog 84 #[x,.pointer (some ⟨g,0,none⟩)] w fun e w'=>e = .returned (vA (0,v))∧Below w.heap.size w w':=by
 have HZ:=Hi (zero_box w);obtain⟨c0,c1,c2⟩:=(h.later HZ.out.below).cells;obtain⟨vk,vi,vs⟩:=v;simp only at c0 c1 c2;unfold vA;clear h;go_enter Tryz.func84,Tryz.ntmps84;go_wp2_with fail;exact bodyPost_ret (v:= .tuple #[.agg #[.int .i64 vk,.int .i64 vi,.string vs],.int .i64 0]) (by simp[results,Tryz.results84,go_sem]) rfl ⟨rfl,(Below.refl w.heap.size w).alloc (Nat.le_refl _) _⟩
theorem dvAt(x:Value)(g h:Nat)(A:Option Addr)(c:Nat)(r:List BV.V)(v:BV.V)(w:World)(hg:RBox w g A r.length c)(hh:VBox w h v)(hr:BV.RowAt w w.heap.size A r)(hm:r.length≤9223372036854775807) :
  Calls Tryz.prog 85 #[x,.pointer (some ⟨g,0,none⟩),.pointer (some ⟨h,0,none⟩)] w fun e w'=>e = .returned (vA (atP r v.i))∧Below w.heap.size w w':=by
 have HZ:=Hi (zero_box w);have c0:=(hg.later HZ.out.below).cell;obtain⟨d0,d1,d2⟩:=(hh.later HZ.out.below).cells;have HA:=Hi (valueAt_any r A c v.i _ (hr.later HZ.out.below) hm);obtain⟨vk,vi,vs⟩:=v;simp only at d0 d1 d2 HA ⊢;unfold vA at *;generalize atP r vi=an at *;obtain⟨er,uk,ui,us⟩:=an;simp only at HA ⊢;generalize r.length=n at *;clear hg hh hr hm;go_enter Tryz.func85,Tryz.ntmps85;go_wp2_with fail;refine(HA.out).mono ?_;rintro e w2 ⟨rfl,b2⟩;have P2:=Hi (HZ.out.call b2);obtain⟨g0,g1,g2⟩:=P2.out.box.cells;obtain⟨f0,f1,f2⟩:=P2.out.box.free;simp only[SC.zV]at g0 g1 g2;clear b2 c0 d0 d1 d2;go_wp2_with fail;exact bodyPost_ret (v:= .tuple #[.agg #[.int .i64 uk,.int .i64 ui,.string us],.int .i64 er]) (by simp[results,Tryz.results85,go_sem,g0,g1,g2]) rfl ⟨rfl,set3_new P2.out.below _ _ _⟩
theorem set3_at{w W:World}{b:Nat}(h:Below w.heap.size w W)(hb:w.heap.size≤b)(x y z:Value):Below w.heap.size w (((W.setCell ⟨b,0,none⟩ x).setCell ⟨b,1,none⟩ y).setCell ⟨b,2,none⟩ z):=SC.Below.set3 h hb x y z
theorem dvArith(g:Nat)(op:ByteArray)(a b:BV.V)(w:World)(h:SBox w g op)(ha:I64 a)(hb:I64 b) :
  Calls Tryz.prog 90 #[vV a,vV b,.pointer (some ⟨g,0,none⟩)] w fun e w'=>e = .returned (vA (SC.arE op a b,SC.arV op a b))∧Below w.heap.size w w':=by
 have HZ:=Hi (SC.three_boxes w a b);have c0:=(h.later HZ.out.below).cell;obtain⟨a0,a1,a2⟩:=HZ.out.tail.tail.box.cells;obtain⟨b0,b1,b2⟩:=HZ.out.tail.box.cells;have HA:Hid (∀ W,Calls Tryz.prog 91 #[.string op,vV a,vV b] W fun e w'=>e = .returned (vA (SC.arE op a b,SC.arV op a b))∧Below W.heap.size W w'):=fun W=>SC.arith_any op a b W ha hb
 generalize ((SC.arE op a b,SC.arV op a b):Ans)=an at *;unfold vA vV at *;obtain⟨er,uk,ui,us⟩:=an;simp only at HA a0 a1 a2 b0 b1 b2 ⊢;clear h;go_enter Tryz.func90,Tryz.ntmps90;go_wp2_with fail;refine(HA.out _).mono ?_;rintro e w2 ⟨rfl,b2⟩;have P2:=Hi (HZ.out.call b2);obtain⟨g0,g1,g2⟩:=P2.out.box.cells;obtain⟨f0,f1,f2⟩:=P2.out.box.free;simp only[SC.zV]at g0 g1 g2;clear b2 c0 a0 a1 a2 b0 b1;go_wp2_with fail;exact bodyPost_ret (v:= .tuple #[.agg #[.int .i64 uk,.int .i64 ui,.string us],.int .i64 er]) (by simp[results,Tryz.results90,go_sem,g0,g1,g2]) rfl ⟨rfl,set3_at P2.out.below (by omega) _ _ _⟩
theorem dvRel(g:Nat)(op:ByteArray)(a b:BV.V)(w:World)(h:SBox w g op) :
  Calls Tryz.prog 100 #[vV a,vV b,.pointer (some ⟨g,0,none⟩)] w fun e w'=>e = .returned (vA (LG.relE op a b,LG.relR op a b))∧Below w.heap.size w w':=by
 have HZ:=Hi (SC.three_boxes w a b);have c0:=(h.later HZ.out.below).cell;obtain⟨a0,a1,a2⟩:=HZ.out.tail.tail.box.cells;obtain⟨b0,b1,b2⟩:=HZ.out.tail.box.cells;have HA:Hid (∀ W,Calls Tryz.prog 101 #[.string op,vV a,vV b] W fun e w'=>e = .returned (vA (LG.relE op a b,LG.relR op a b))∧Below W.heap.size W w'):=fun W=>LG.rel_any op a b W
 generalize ((LG.relE op a b,LG.relR op a b):Ans)=an at *;unfold vA vV at *;obtain⟨er,uk,ui,us⟩:=an;simp only at HA a0 a1 a2 b0 b1 b2 ⊢;clear h;go_enter Tryz.func100,Tryz.ntmps100;go_wp2_with fail;refine(HA.out _).mono ?_;rintro e w2 ⟨rfl,b2⟩;have P2:=Hi (HZ.out.call b2);obtain⟨g0,g1,g2⟩:=P2.out.box.cells;obtain⟨f0,f1,f2⟩:=P2.out.box.free;simp only[SC.zV]at g0 g1 g2;clear b2 c0 a0 a1 a2 b0 b1;go_wp2_with fail;exact bodyPost_ret (v:= .tuple #[.agg #[.int .i64 uk,.int .i64 ui,.string us],.int .i64 er]) (by simp[results,Tryz.results100,go_sem,g0,g1,g2]) rfl ⟨rfl,set3_at P2.out.below (by omega) _ _ _⟩
theorem dvAnd(g:Nat)(vs:List BV.V)(w:World)(h:Args w g vs)(hm:vs.length≤2000) :
  Calls Tryz.prog 96 #[.slice (some ⟨g,0,none⟩) vs.length vs.length] w fun e w'=>e = .returned (vA (LG.ctL vs,LG.decV false vs))∧Below w.heap.size w w':=by
 have HZ:=Hi (zero_box w);have h1:=h.later HZ.out.below;have HA:Hid (Calls Tryz.prog 97 #[.slice (some ⟨g,0,none⟩) vs.length vs.length] (w.alloc (.cells #[.int .i64 0,.int .i64 0,.string ⟨#[]⟩] 26)) fun e w'=>e = .returned (vA (LG.ctL vs,LG.decV false vs))∧Below (w.alloc (.cells #[.int .i64 0,.int .i64 0,.string ⟨#[]⟩] 26)).heap.size (w.alloc (.cells #[.int .i64 0,.int .i64 0,.string ⟨#[]⟩] 26)) w'):=LG.and_any vs _ vs.length _ h1.row (by omega)
 generalize ((LG.ctL vs,LG.decV false vs):Ans)=an at *;unfold vA at *;obtain⟨er,uk,ui,us⟩:=an;simp only at HA ⊢;generalize vs.length=n at *;clear h h1 hm;go_enter Tryz.func96,Tryz.ntmps96;go_wp2_with fail;refine(HA.out).mono ?_;rintro e w2 ⟨rfl,b2⟩;have P2:=Hi (HZ.out.call b2);obtain⟨g0,g1,g2⟩:=P2.out.box.cells;obtain⟨f0,f1,f2⟩:=P2.out.box.free;simp only[SC.zV]at g0 g1 g2;clear b2;go_wp2_with fail;exact bodyPost_ret (v:= .tuple #[.agg #[.int .i64 uk,.int .i64 ui,.string us],.int .i64 er]) (by simp[results,Tryz.results96,go_sem,g0,g1,g2]) rfl ⟨rfl,set3_new P2.out.below _ _ _⟩
theorem dvOr(g:Nat)(vs:List BV.V)(w:World)(h:Args w g vs)(hm:vs.length≤2000) :
  Calls Tryz.prog 98 #[.slice (some ⟨g,0,none⟩) vs.length vs.length] w fun e w'=>e = .returned (vA (LG.ctL vs,LG.decV true vs))∧Below w.heap.size w w':=by
 have HZ:=Hi (zero_box w);have h1:=h.later HZ.out.below;have HA:Hid (Calls Tryz.prog 99 #[.slice (some ⟨g,0,none⟩) vs.length vs.length] (w.alloc (.cells #[.int .i64 0,.int .i64 0,.string ⟨#[]⟩] 26)) fun e w'=>e = .returned (vA (LG.ctL vs,LG.decV true vs))∧Below (w.alloc (.cells #[.int .i64 0,.int .i64 0,.string ⟨#[]⟩] 26)).heap.size (w.alloc (.cells #[.int .i64 0,.int .i64 0,.string ⟨#[]⟩] 26)) w'):=LG.or_any vs _ vs.length _ h1.row (by omega)
 generalize ((LG.ctL vs,LG.decV true vs):Ans)=an at *;unfold vA at *;obtain⟨er,uk,ui,us⟩:=an;simp only at HA ⊢;generalize vs.length=n at *;clear h h1 hm;go_enter Tryz.func98,Tryz.ntmps98;go_wp2_with fail;refine(HA.out).mono ?_;rintro e w2 ⟨rfl,b2⟩;have P2:=Hi (HZ.out.call b2);obtain⟨g0,g1,g2⟩:=P2.out.box.cells;obtain⟨f0,f1,f2⟩:=P2.out.box.free;simp only[SC.zV]at g0 g1 g2;clear b2;go_wp2_with fail;exact bodyPost_ret (v:= .tuple #[.agg #[.int .i64 uk,.int .i64 ui,.string us],.int .i64 er]) (by simp[results,Tryz.results98,go_sem,g0,g1,g2]) rfl ⟨rfl,set3_new P2.out.below _ _ _⟩
theorem dvIsnull(a:BV.V)(w:World):Calls Tryz.prog 102 #[vV a] w fun e w'=>e = .returned (vA (0,tru (a.k == 0)))∧Below w.heap.size w w':=by
 have HZ:=Hi (one_box w a);obtain⟨a0,a1,a2⟩:=HZ.out.tail.box.cells;have HT:=Hi (fun W=>truth_any (a.k == 0) W)
 unfold vA vV tru;generalize hq:(a.k == 0)=q at *;have hq':(a.k == 0)=q:=hq;simp only at *;simp only[SC.zV]at HZ;generalize a.k=ak at *;generalize a.i=ai at *;generalize a.s=as' at *;generalize (if q=true then (1:Int)else 0)=ti at *
 clear hq;go_enter Tryz.func102,Tryz.ntmps102;go_wp2_with fail;refine(HT.out _).mono ?_;rintro e w2 ⟨rfl,b2⟩;have P2:=Hi (HZ.out.call b2);obtain⟨g0,g1,g2⟩:=P2.out.box.cells;obtain⟨f0,f1,f2⟩:=P2.out.box.free;clear b2 a0 a1 a2 hq';go_wp2_with fail;exact bodyPost_ret (v:= .tuple #[.agg #[.int .i64 1,.int .i64 ti,.string ⟨#[]⟩],.int .i64 0]) (by simp[results,Tryz.results102,go_sem,g0,g1,g2]) rfl ⟨rfl,set3_at P2.out.below (by omega) _ _ _⟩
theorem dvNotnull(a:BV.V)(w:World):Calls Tryz.prog 104 #[vV a] w fun e w'=>e = .returned (vA (0,tru (a.k != 0)))∧Below w.heap.size w w':=by
 have HZ:=Hi (one_box w a);obtain⟨a0,a1,a2⟩:=HZ.out.tail.box.cells;have HT:=Hi (fun W=>truth_any (a.k != 0) W)
 unfold vA vV tru;generalize hq:(a.k != 0)=q at *;have hq':(a.k != 0)=q:=hq;simp only at *;simp only[SC.zV]at HZ;generalize a.k=ak at *;generalize a.i=ai at *;generalize a.s=as' at *;generalize (if q=true then (1:Int)else 0)=ti at *
 clear hq;go_enter Tryz.func104,Tryz.ntmps104;go_wp2_with fail;refine(HT.out _).mono ?_;rintro e w2 ⟨rfl,b2⟩;have P2:=Hi (HZ.out.call b2);obtain⟨g0,g1,g2⟩:=P2.out.box.cells;obtain⟨f0,f1,f2⟩:=P2.out.box.free;clear b2 a0 a1 a2 hq';go_wp2_with fail;exact bodyPost_ret (v:= .tuple #[.agg #[.int .i64 1,.int .i64 ti,.string ⟨#[]⟩],.int .i64 0]) (by simp[results,Tryz.results104,go_sem,g0,g1,g2]) rfl ⟨rfl,set3_at P2.out.below (by omega) _ _ _⟩
end Go.Proofs.YtcicpjgnpcnnmaaGreatDoor
