import Derived.Test.YtcicpjgnpcnnmaaGreatDoorQ04
import Derived.Laws.IdiomStrings
import Derived.Deep.RegionLaw
namespace Go.Proofs.YtcicpjgnpcnnmaaGreatDoor.BV
def dval(l:List UInt8):Nat:=l.foldl (fun a c=>10*a+(c.toNat - 48)) 0
theorem dval_snoc(l:List UInt8)(c:UInt8):dval (l ++ [c])=10*dval l+(c.toNat - 48):=by unfold dval;rw[List.foldl_append];rfl
theorem digit_val(u:Nat)(h:u < 10):(UInt8.ofNat (48+u)).toNat=48+u:=by
 have:(48+u) % 256=48+u:=by omega
 simp[this]
theorem dval_dec(u:Nat):dval (Lib.decDigits u)=u:=by
 induction u using Nat.strongRecOn with
 | _ u ih =>
  rw[Lib.decDigits]
  split
  ·rename_i h
   show 10*0+((UInt8.ofNat (48+u)).toNat - 48)=u
   rw[digit_val u h];omega
  ·rw[dval_snoc,ih (u / 10) (by omega),digit_val _ (by omega)]
   omega
theorem dec_inj{u v:Nat}(h:Lib.decDigits u=Lib.decDigits v):u=v:=by rw[←dval_dec u,←dval_dec v,h]
theorem dec_head(u:Nat):∃ c l,Lib.decDigits u=c::l∧48≤c.toNat∧c.toNat≤57:=by
 induction u using Nat.strongRecOn with
 | _ u ih =>
  rw[Lib.decDigits]
  split
  ·rename_i h
   exact⟨_,_,rfl,by rw[digit_val u h];omega,by rw[digit_val u h];omega⟩
  ·obtain⟨c,l,h1,h2,h3⟩:=ih (u / 10) (by omega)
   exact⟨c,_,by rw[h1];rfl,h2,h3⟩
theorem itoa_head(n:Int):∃ c l,Lib.itoa n=c::l∧(c=45∨48≤c.toNat∧c.toNat≤57):=by
 unfold Lib.itoa
 split
 ·exact⟨45,_,rfl,Or.inl rfl⟩
 ·obtain⟨c,l,h1,h2⟩:=dec_head n.toNat
  exact⟨c,l,h1,Or.inr h2⟩
theorem itoa_inj{n m:Int}(h:Lib.itoa n=Lib.itoa m):n=m:=by
 unfold Lib.itoa at h
 split at h <;> split at h
 ·have:=dec_inj (List.cons.inj h).2;omega
 ·obtain⟨c,l,h1,h2,h3⟩:=dec_head m.toNat
  rw[h1]at h;have:=(List.cons.inj h).1;subst this
  simp at h2
 ·obtain⟨c,l,h1,h2,h3⟩:=dec_head n.toNat
  rw[h1]at h;have:=(List.cons.inj h).1;subst this
  simp at h2
 ·have:=dec_inj h;omega
theorem dbl_inj:∀ {l m:List UInt8},dbl l=dbl m→l=m
 | [],[],_=>rfl
 | [],b::m,h=>by rw[dbl_cons]at h;split at h <;> simp[dbl]at h
 | a::l,[],h=>by rw[dbl_cons]at h;split at h <;> simp[dbl]at h
 | a::l,b::m,h=>by
  rw[dbl_cons,dbl_cons]at h
  by_cases ha:a=39
  ·by_cases hb:b=39
   ·rw[if_pos ha,if_pos hb]at h
    simp at h
    rw[ha,hb,dbl_inj h]
   ·rw[if_pos ha,if_neg hb]at h
    simp at h
    exact absurd h.1.symm hb
  ·by_cases hb:b=39
   ·rw[if_neg ha,if_pos hb]at h
    simp at h
    exact absurd h.1 ha
   ·rw[if_neg ha,if_neg hb]at h
    simp at h
    rw[h.1,dbl_inj h.2]
theorem hexd_inj:∀ a b:Fin 16,hexd a.1=hexd b.1→a=b:=by decide +kernel
theorem hex2_inj{a b:UInt8}(h:hex2 a=hex2 b):a=b:=by
 unfold hex2 at h;simp only[List.cons.injEq,and_true]at h;have ha:=a.toNat_lt;have hb:=b.toNat_lt;have h1:=hexd_inj ⟨a.toNat / 16,by omega⟩ ⟨b.toNat / 16,by omega⟩ h.1
 have h2:=hexd_inj ⟨a.toNat % 16,by omega⟩ ⟨b.toNat % 16,by omega⟩ h.2
 simp only[Fin.mk.injEq]at h1 h2;exact UInt8.toNat_inj.1 (by omega)
theorem hexs_inj:∀ {l m:List UInt8},hexs l=hexs m→l=m
 | [],[],_=>rfl
 | [],b::m,h=>by have h : []=hex2 b++hexs m:=h;simp[hex2]at h
 | a::l,[],h=>by have h:hex2 a++hexs l = []:=h;simp[hex2]at h
 | a::l,b::m,h=>by
  have h:hex2 a++hexs l=hex2 b++hexs m:=h;obtain⟨h1,h2⟩:=List.append_inj h (by simp[hex2])
  rw[hex2_inj h1,hexs_inj h2]
theorem bytes_ext{s t:ByteArray}(h:s.data.toList=t.data.toList):s=t:=by
 cases s;cases t;simp only[ByteArray.mk.injEq];exact Array.toList_inj.1 h
theorem may_cases{k i:Int}{s:ByteArray}(h:mayB k i s=true):(k=0∧i=0∧s.data.toList = [])∨(k=1∧(i=0∨i=1)∧s.data.toList = [])∨(k=2∧s.data.toList = [])∨(k=3∧i=0)∨(k=4∧i=0):=by
 unfold mayB emp at h;rw[Lib.toList_data]at h
 by_cases h0:k=0
 ·subst h0;simp at h;exact Or.inl ⟨rfl,h.1,by simpa using h.2⟩
 by_cases h1:k=1
 ·subst h1;simp at h;exact Or.inr (Or.inl ⟨rfl,h.1,by simpa using h.2⟩)
 by_cases h2:k=2
 ·subst h2;simp at h;exact Or.inr (Or.inr (Or.inl ⟨rfl,by simpa using h⟩))
 by_cases h3:k=3
 ·subst h3;simp at h;exact Or.inr (Or.inr (Or.inr (Or.inl ⟨rfl,h⟩)))
 by_cases h4:k=4
 ·subst h4;simp at h;exact Or.inr (Or.inr (Or.inr (Or.inr ⟨rfl,h⟩)))
 simp[h0,h1,h2,h3,h4]at h
def kindOf(l:List UInt8):Int :=
 match l with
 | []=>9
 | c::_=>if c=78 then 0 else if c=84 then 1 else if c=70 then 1 else if c=39 then 3 else if c=120 then 4 else 2
theorem kind_txt{k i:Int}{s:ByteArray}(h:mayB k i s=true):kindOf (txt k i s)=k:=by
 rcases may_cases h with ⟨rfl,rfl,hs⟩ | ⟨rfl,hi,hs⟩ | ⟨rfl,hs⟩ | ⟨rfl,rfl⟩ | ⟨rfl,rfl⟩
 ·rfl
 ·rcases hi with rfl | rfl <;> rfl
 ·obtain⟨c,l,h1,h2⟩:=itoa_head i
  unfold txt;rw[if_neg (by decide),if_neg (by decide),if_pos rfl,h1]
  unfold kindOf
  have hc:c≠78∧c≠84∧c≠70∧c≠39∧c≠120:=by
   rcases h2 with rfl | h2
   ·decide
   ·refine⟨?_,?_,?_,?_,?_⟩ <;> (rintro rfl;simp at h2)
  simp[hc]
 ·rfl
 ·rfl
theorem txt_inj{k i k' i':Int}{s s':ByteArray}(h:mayB k i s=true)(h':mayB k' i' s'=true)(he:txt k i s=txt k' i' s'):k=k'∧i=i'∧s=s':=by
 have hk:k=k':=by rw[←kind_txt h,←kind_txt h',he]
 subst hk;refine⟨rfl,?_⟩;rcases may_cases h with ⟨rfl,rfl,hs⟩ | ⟨rfl,hi,hs⟩ | ⟨rfl,hs⟩ | ⟨rfl,rfl⟩ | ⟨rfl,rfl⟩ <;> rcases may_cases h' with ⟨hk,hi',hs'⟩ | ⟨hk,hi',hs'⟩ | ⟨hk,hs'⟩ | ⟨hk,hi'⟩ | ⟨hk,hi'⟩ <;> first | (exfalso;omega) | skip
 ·exact⟨hi'.symm,bytes_ext (hs.trans hs'.symm)⟩
 ·refine⟨?_,bytes_ext (hs.trans hs'.symm)⟩
  rcases hi with rfl | rfl <;> rcases hi' with rfl | rfl <;> first | rfl | (unfold txt at he;simp at he)
 ·exact⟨itoa_inj he,bytes_ext (hs.trans hs'.symm)⟩
 ·refine⟨hi'.symm,bytes_ext (dbl_inj ?_)⟩
  unfold txt at he
  simpa using he
 ·refine⟨hi'.symm,bytes_ext (hexs_inj ?_)⟩
  unfold txt at he
  simpa using he
open Go.RowKit
end Go.Proofs.YtcicpjgnpcnnmaaGreatDoor.BV
