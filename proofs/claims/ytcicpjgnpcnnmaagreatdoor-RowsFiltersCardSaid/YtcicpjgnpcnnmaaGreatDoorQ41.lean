import Derived.Test.YtcicpjgnpcnnmaaGreatDoorQ38
set_option linter.unusedSimpArgs false
set_option linter.unusedVariables false
namespace Go.Proofs.YtcicpjgnpcnnmaaGreatDoor
open Go.RowKit
open Classical in
noncomputable def cnt (l:List BV.V) (y:BV.V):Nat:=(l.filter fun z=>decide (z=y)).length
end Go.Proofs.YtcicpjgnpcnnmaaGreatDoor
namespace Go.Proofs.YtcicpjgnpcnnmaaGreatDoor
open Go.RowKit Go.Maps Go.WideMaps
section
variable {w wr w' : World} {g : Nat} {o : Value} {l : List (List BV.V)} {ks : List (List UInt8)} {D : DataW Unit}
end
end Go.Proofs.YtcicpjgnpcnnmaaGreatDoor
namespace Go.Proofs.YtcicpjgnpcnnmaaGreatDoor
open Go.RowKit
def big4(vs:List BV.V):Nat:=max (25000*(vs.length+1)) (sumS vs)
theorem look_rep{n:List UInt8}{x:SC.Fn}(hx:x∈SC.fns)(hn:x.nm=str n)(h:n=fReplace):x.lo=3:=by
 subst h;simp only[SC.fns,List.mem_cons,List.not_mem_nil,or_false]at hx;rcases hx with rfl | rfl | rfl | rfl | rfl | rfl | rfl | rfl | rfl | rfl | rfl
 all_goals first | rfl | (exfalso;revert hn;decide)
theorem sb_mem{v:BV.V}{l:List BV.V}(hi:∀ v∈l,I64 v)(h:v∈l):Sm (big4 l) v:=⟨hi v h,by have:=sumS_mem h;unfold big4;omega⟩
theorem sb_at{l:List BV.V}(hi:∀ v∈l,I64 v)(k:Nat):Sm (big4 l) (l.getD k zW):=by
 rw[List.getD_eq_getElem?_getD];cases hk:l[k]? with
 | none=>exact sm_zW _
 | some v=>exact sb_mem hi (List.mem_of_getElem? hk)
theorem sb_first{l:List BV.V}(hi:∀ v∈l,I64 v):Sm (big4 l) (firstV l):=by
 have:firstV l=zW∨firstV l∈l:=by
  clear hi
  induction l with
  | nil=>exact .inl rfl
  | cons a l ih =>
   unfold firstV
   split
   ·rcases ih with h | h
    ·exact .inl h
    ·exact .inr (by simp[h])
   ·exact .inr (by simp)
 rcases this with h | h
 ·rw[h];exact sm_zW _
 ·exact sb_mem hi h
theorem sb_do(n:List UInt8){l:List BV.V}(hi:∀ v∈l,I64 v)(hs:sumS l≤100000000)(h3:n=fReplace→3≤l.length):Sm (big4 l) (doP n l).2:=by
 have h0:=sb_at hi 0
 have hz:(at0 l).s.size≤100000000:=by
  unfold at0;rw[List.getD_eq_getElem?_getD];cases hk:l[0]? with
  | none=>exact Nat.zero_le _
  | some v=>have:=sumS_mem (List.mem_of_getElem? hk);show v.s.size≤_;omega
 unfold doP
 split
 ·exact sb_first hi
 split
 ·unfold dNullif;simp only;split
  ·exact sm_zW _
  ·exact h0
 split
 ·unfold dAbs;split
  ·exact sm_ar _ _ _ _
  ·exact h0
 split
 ·refine sm_num _ ?_
  unfold BV.cmpI
  split
  ·omega
  ·split <;> omega
 split
 ·exact sm_num _ (by omega)
 split
 ·exact⟨by show(-9223372036854775808:Int)≤0∧(0:Int)≤_;omega,by show(SC.turnedB _ _).size≤_;rw[turnedB_size];exact h0.2⟩
 split
 ·exact⟨by show(-9223372036854775808:Int)≤0∧(0:Int)≤_;omega,by show(SC.turnedB _ _).size≤_;rw[turnedB_size];exact h0.2⟩
 split
 ·exact⟨by show(-9223372036854775808:Int)≤0∧(0:Int)≤_;omega,Nat.le_trans (trimS_size _) h0.2⟩
 split
 ·unfold dSubstr;split
  ·exact sm_zW _
  ·exact⟨by show(-9223372036854775808:Int)≤0∧(0:Int)≤_;omega,Nat.le_trans (pc_size _ _ _) h0.2⟩
 split
 ·refine sm_num _ ?_
  have h1:=Lib.index_le (at0 l).s.data.toList (at1 l).s.data.toList;have h2:=Lib.index_ge (at0 l).s.data.toList (at1 l).s.data.toList;rw[size_list]at h1
  omega
 split
 ·rename_i hr
  have hl:=h3 hr;unfold dReplace;split
  ·exact h0
  ·rename_i h1
   split
   ·exact sm_zW _
   ·rename_i h2
    refine⟨by show(-9223372036854775808:Int)≤0∧(0:Int)≤_;omega,?_⟩
    have:=repl_size h1 h2
    show(⟨_⟩:ByteArray).size≤_
    simp only[ByteArray.size,List.size_toArray];unfold big4
    omega
 ·exact sm_zW _
theorem sb_call(n:List UInt8){l:List BV.V}(hi:∀ v∈l,I64 v)(hs:sumS l≤100000000):Sm (big4 l) (callP n l).2:=by
 unfold callP
 split
 ·exact sm_zW _
 ·rename_i x hx
  obtain⟨hm,hn⟩:=look_name hx;unfold callX
  split
  ·exact sm_zW _
  ·rename_i h1
   have h3:n=fReplace→3≤l.length:=fun hr=>by
    have hlen:=takes_len (fun h=>h1 (Or.inl h))
    rw[look_rep hm hn hr]at hlen
    omega
   repeat' split
   all_goals first | exact sm_zW _ | exact sb_do n hi hs h3
theorem deeds_flat(o n:List UInt8)(vs:List BV.V)(hi:∀ v∈vs,I64 v)(hs:sumS vs≤100000000):Sm (big4 vs) (deedP o n vs).2:=by
 have one:∀ {f:BV.V→Ans} (_:∀ a,Sm (big4 vs) (f a).2),Sm (big4 vs) (one1 f vs).2:=by
  intro f hf;unfold one1
  split
  ·exact hf _
  ·exact sm_zW _
 have two:∀ {f:BV.V→BV.V→Ans} (_:∀ a b,Sm (a.s.size+b.s.size) (f a b).2),Sm (big4 vs) (two2 f vs).2:=by
  intro f hf;unfold two2
  split
  ·rename_i a b
   have:=hf a b;exact⟨this.1,Nat.le_trans this.2 (by simp[big4,sumS];omega)⟩
  ·exact sm_zW _
 refine deed_cases (P:=fun a=>Sm (big4 vs) a.2) ?_ ?_ ?_ ?_ ?_ ?_ ?_ ?_ ?_ ?_ ?_ ?_ ?_ (sm_zW _) <;> intro _
 ·exact one fun a=>sm_ar _ _ _ _
 ·exact two fun a b=>sm_ar _ _ _ _
 ·exact two fun a b=>sm_jo _ _
 ·exact sb_call n hi hs
 ·exact one fun a=>sm_not _ _
 ·exact sm_dec _ _ _
 ·exact sm_dec _ _ _
 ·exact two fun a b=>sm_rel _ _ _ _
 ·exact one fun a=>sm_tru _ _
 ·exact one fun a=>sm_tru _ _
 ·unfold dIn;split
  ·exact sm_zW _
  ·exact sm_in _ _ _
 ·refine two fun a b => ?_
  unfold dLike
  repeat' split
  all_goals first | exact sm_zW _ | exact sm_tru _ _
 ·unfold three3;split
  ·unfold dBetween
   repeat' split
   all_goals first | exact sm_zW _ | exact sm_dec _ _ _
  ·exact sm_zW _
theorem sumS_flat{r:List BV.V}{l:List E}(h:∀ x∈l,(x.ev deedP r).2.s.size≤25000*x.size):sumS (l.map fun x=>(x.ev deedP r).2)≤25000*E.sizeL l:=by
 induction l with
 | nil=>simp[sumS]
 | cons a l ih =>
  have h1:=h a (by simp)
  have h2:=ih fun x hx=>h x (by simp[hx])
  simp only[sumS,List.map_cons,List.sum_cons,E.sizeL,Nat.mul_add]at h2 ⊢
  omega
theorem ev_flat{r:List BV.V}(hr:∀ v∈r,I64 v∧v.s.size≤25000)(e:E):e.size≤1000→e.ints=true→e.lt=true→I64 (e.ev deedP r).2∧(e.ev deedP r).2.s.size≤25000*e.size:=by
 induction e using E.ind with
 | h o v t n l ih =>
  intro hs hi ht;simp only[E.size]at hs ⊢;simp only[E.ints,E.lt,Bool.and_eq_true,decide_eq_true_eq]at hi ht
  have hx:∀ x∈l,I64 (x.ev deedP r).2∧(x.ev deedP r).2.s.size≤25000*x.size:=fun x hx =>
   ih x hx (by have:=size_mem hx;omega) (intsL_iff.1 hi.2 x hx) (ltL_iff.1 ht.2 x hx)
  have hsum:=sumS_flat (r:=r) (l:=l) fun x h=>(hx x h).2
  have hll:=len_size l;simp only[E.ev]
  by_cases h0:(E.evL deedP r l).1=0
  ·rw[if_pos h0,evL_vals h0]
   simp only[opP]
   split
   ·exact⟨hi.1,by show(str v.s).size≤_;rw[str_size];omega⟩
   ·split
    ·simp only[atP]
     split
     ·rename_i h3
      rw[List.getD_eq_getElem?_getD,List.getElem?_eq_getElem (show v.i.toNat < r.length by omega)]
      have:=hr _ (List.getElem_mem (show v.i.toNat < r.length by omega))
      exact⟨this.1,by have:=this.2;simp only[Option.getD_some];omega⟩
     ·exact⟨by show(-9223372036854775808:Int)≤0∧(0:Int)≤_;omega,Nat.zero_le _⟩
    ·have:=deeds_flat o n (l.map fun x=>(x.ev deedP r).2) (fun u hu=>by obtain⟨x,h,rfl⟩:=List.mem_map.1 hu;exact(hx x h).1) (by omega)
     refine⟨this.1,?_⟩;have h2:=this.2;unfold big4 at h2;rw[List.length_map]at h2
     omega
  ·rw[if_neg h0]
   exact⟨by show(-9223372036854775808:Int)≤0∧(0:Int)≤_;omega,Nat.zero_le _⟩
theorem ev_ok{W:Int}{e:E}(h:okB W e=true)(hin:e.ints=true){r:List BV.V}(hr:∀ v∈r,I64 v∧v.s.size≤25000)(hc:∀ v∈r,v.chk=0):(e.ev deedP r).2.ok∧(e.ev deedP r).2.chk=0:=by
 obtain⟨h1,h2,h3,-⟩:=okB_facts h;have h4:=ev_flat hr e (by omega) hin (light_lt e h2)
 exact⟨⟨h4.1.1,h4.1.2,by omega⟩,ev_chk deeds_keep hc W e h3⟩
structure Bg(e:E)(l:List (List BV.V)):Prop where
 many:l.length≤30
 wide:∀ r∈l,r.length≤60
 fit:∀ r∈l,e.fit deedP r
 val:∀ r∈l,(e.ev deedP r).2.ok∧(e.ev deedP r).2.chk=0
theorem bg_of{rs:List BV.R}(h:evOk rs=true)(hi:∀ r∈rs,∀ v∈r.xs,-9223372036854775808≤v.i∧v.i≤9223372036854775807)(w:Nat)(hw:w≤5){e:E}(ho:okB (w:Int) e=true)(hin:e.ints=true):Bg e ((rs.map BV.R.xs).map (evR w)):=by
 have h0:=ev_of h hi w;unfold evOk at h;simp only[Bool.and_eq_true,decide_eq_true_eq]at h;obtain⟨⟨-,h2⟩,h3⟩:=h;unfold BV.few at h2;simp only[decide_eq_true_eq]at h2
 have hv:∀ r∈(rs.map BV.R.xs).map (evR w),∀ v∈r,(I64 v∧v.s.size≤25000)∧v.chk=0:=fun r hr v hv=>by
  obtain⟨x,hx,rfl⟩:=List.mem_map.1 hr;obtain⟨q,hq,rfl⟩:=List.mem_map.1 hx;unfold evR at hv;rcases List.mem_append.1 hv with hv | hv
  ·have hv:=List.mem_of_mem_take hv
   have a:=rowsN_mem hq;have b:=rowN_mem hv;have c:=List.all_eq_true.1 h3 q hq;rw[beq_iff_eq]at c;unfold BV.chkR at c
   split at c
   ·rename_i hall
    exact⟨⟨hi q hq v hv,by omega⟩,by
     have:=List.all_eq_true.1 hall v hv;exact beq_iff_eq.1 this⟩
   ·omega
  ·rw[List.eq_of_mem_replicate hv];exact⟨⟨(sm_zW 0).1,Nat.zero_le _⟩,chk_zW⟩
 exact⟨h0.many,fun r hr=>by rw[h0.wide r hr];omega,fun r hr=>bound_fit ho hin r (h0.ok r hr),fun r hr=>ev_ok ho hin (fun v h=>(hv r hr v h).1) (fun v h=>(hv r hr v h).2)⟩
def eT(e:E)(l:List (List BV.V)):Int:=firstE (l.map (projE [e]))
def pT(e:E)(l:List (List BV.V)):List (List BV.V):=if eT e l=0 then l.map (projV [e])else []
theorem told_E{w:World}{er:Int}{l:List (List BV.V)}{q:Ending}{w':World}(h:RowsE w er l q w'):ToldR w er (if er=0 then l else []) q w':=by
 obtain⟨v,rfl,ho,hb⟩:=h;obtain⟨A,c,rfl,hl⟩:=la_own ho.out;exact⟨A,c,rfl,Hi hl,hb⟩
end Go.Proofs.YtcicpjgnpcnnmaaGreatDoor
