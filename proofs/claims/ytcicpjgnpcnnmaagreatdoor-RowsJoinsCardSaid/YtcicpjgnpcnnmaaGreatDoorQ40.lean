import Derived.Test.YtcicpjgnpcnnmaaGreatDoorQ38
set_option maxRecDepth 100000
set_option linter.unusedSimpArgs false
set_option linter.unusedVariables false
namespace Go.Proofs.YtcicpjgnpcnnmaaGreatDoor
open Go.RowKit
def litT:E:=lit ⟨1,1,[]⟩
theorem tru_lit(r:List BV.V):truP litT r=(0,true):=by
 unfold truP litT;have h:(lit ⟨1,1,[]⟩).ev deedP r=(0,toV ⟨1,1,[]⟩):=by simp[lit,E.ev,E.evL,opP]
 rw[h]
 simp[toV,LG.isV,BV.sameB,LG.bi,str]
theorem cross_la{a b:List (List BV.V)}{A B:Option Addr}{n ca m cb wa wb:Nat}{S:Nat→Prop}{e:E}{x:Value}{w:World}(ha:LA w A n ca a)(hb:LA w B m cb b)(hx:EAt S w e x)(hE:SC.Env w)(hla:n≤500)(hlb:m≤500)(hwa:∀ r∈a,r.length≤60)(hwb:∀ r∈b,r.length≤60)(hna:wa≤60)(hnb:wb≤60) :
  Calls Tryz.prog 17 #[.string ⟨#[99,114,111,115,115]⟩,.slice A n ca,.slice B m cb,.int .i64 wa,.int .i64 wb,x] w (ToldR w 0 (pairsP a b)):=by
 have hk:Asks w (.agg #[.string ⟨#[108,105,116]⟩,.int .i64 1,.int .i64 1,.string ⟨#[]⟩,.string ⟨#[]⟩,.string ⟨#[]⟩,.slice none 0 0]) (fun _=>(0,true)) a b:=by
  have h:=asks_of (S:=fun _=>True) (e:=litT) (xv:= .agg #[.string ⟨#[108,105,116]⟩,.int .i64 1,.int .i64 1,.string ⟨#[]⟩,.string ⟨#[]⟩,.string ⟨#[]⟩,.slice none 0 0]) (w:=w) ⟨none,0,rfl,sub_none (fun _=>True) _ _ _ _ _⟩ hE (a:=a) (b:=b) (fun x h1 y h2=>by have:=hwa x h1;have:=hwb y h2;rw[List.length_append];omega) (fun x h1 y h2=>⟨by simp,by decide,trivial⟩)
  rw[show truP litT=fun _=>(0,true) from funext tru_lit]at h
  exact h
 obtain⟨A1,c1,rfl,hs⟩:=hx;obtain⟨ra,rfl,rfl,-,h1,-⟩:=ha;obtain⟨rb,rfl,rfl,-,h2,-⟩:=hb;unfold eVal;have h:=join_cross ra rb A B ca cb wa wb (str e.op) e.v.k e.v.i (str e.v.s) (str e.tb) (str e.nm) (.slice A1 e.l.length c1) (fun _=>(0,true)) w h1 h2 hla hlb (mem_xs rfl hwa) (mem_xs rfl hwb) hna hnb hk
 rw[cross_none,cross_res]at h;exact h.mono fun _ _ h=>told_of h
def EvenT(w:World)(W:Int)(rs:List BV.R)(q:Ending)(w':World):Prop:=∃ v,q = .returned (.tuple #[v,.int .i64 (evW W),.bool (evOk rs)])∧Hid (evOk rs=true→∃ A c,v = .slice A ((rs.map BV.R.xs).map (evR (evW W))).length c∧LA w' A ((rs.map BV.R.xs).map (evR (evW W))).length c ((rs.map BV.R.xs).map (evR (evW W))))∧Hid (Below w.heap.size w w')
theorem even_la(W:Int)(rs:List BV.R)(A:Option Addr)(ca:Nat)(w:World)(ha:BV.RowsAt w w.heap.size A rs)(hl:rs.length≤140737488355328)(hs:BV.Small rs)(hcap:∀ r∈rs,r.xs.length≤r.c) :
  Calls Tryz.prog 8 #[.agg #[.int .i64 W,.slice A rs.length ca]] w (EvenT w W rs):=by
 refine(even_any W rs A ca w ha hl hs hcap).mono ?_;rintro q w' ⟨v,rfl,ho,hb⟩;exact⟨v,rfl,Hi fun h=>la_own (ho.out h),hb⟩
end Go.Proofs.YtcicpjgnpcnnmaaGreatDoor
namespace Go.Proofs.YtcicpjgnpcnnmaaGreatDoor
open Go.RowKit Go.ChangeShapes Go.WideShapes Go.Deep
section
variable {H : Type} {enc : TypeId × Value → H} {W : World}
theorem open_rowsT{ts:TypeId}(hts:Tryz.prog.underlying ts=some (.slice 39)){fuel:Nat}{a0:Option Addr}{len cap:Nat}{x:DataW H×List MemPlace}(hf:DataW.trod enc Tryz.prog W 0 (fun _=>true) true fuel ts [.slice a0 len cap]=some x)(hsz:∀ n∈x.1.weights Tryz.prog ts,n≤reachBytes) :
  ∃ rs:List BV.R,rs.length=len∧BV.RowsAt W W.heap.size a0 rs∧rs.length≤140737488355328∧(∀ r∈rs,BV.RowSmall r.xs∧r.xs.length≤r.c∧∀ v∈r.xs,v.fits):=by
 rcases open_slice hts hf with ⟨hcs,hx⟩ | ⟨a,len',cap',m,n,D,Pl,hcs,hb,hl,hm,hmm,hx,hi⟩
 ·simp at hcs
  obtain⟨rfl,rfl,rfl⟩:=hcs;exact⟨[],rfl,⟨fun h=>absurd h (by simp),fun r hr=>by simp at hr⟩,by simp,by simp⟩
 ·simp at hcs
  obtain⟨rfl,rfl,rfl⟩:=hcs;subst hx;simp only[if_true]at hmm;subst hmm;have c28:Tryz.prog.cellsOf 39=1:=by kernel_rfl
  have b28:Tryz.prog.bytesOf 39=24:=by kernel_rfl
  have hcap:m≤140737488355328:=by
   have:=hsz ((((List.range len).map D).length+((List.range (m - len)).map fun j=>D (len+j)).length)*Tryz.prog.bytesOf 39) (by simp only[DataW.weights,hts,List.mem_cons];exact Or.inl trivial)
   rw[b28]at this
   simp at this
   have:=reachBytes_lt
   omega
  obtain⟨b,o,spot⟩:=a
  have one:∀ {l:List Value},l.length=1→∃ v,l = [v]:=fun {l} h=>by
   match l,h with
   | [v],_=>exact⟨v,rfl⟩
  have hspot:0 < len→spot=none:=by
   intro h0;obtain⟨cs',hc,_⟩:=hi 0 (by omega)
   rw[c28]at hc;obtain⟨_,hcl,hat⟩:=World.cells?_some hc;obtain⟨v0,rfl⟩:=one hcl;have q0:=hat 0 (by omega)
   have:=World.cell?_spot (show W.cell? _=some _ from q0)
   simpa [Addr.add]using this
  have key:∀ i,i < len→∃ r:BV.R,W.cell? ⟨b,o+i,none⟩=some r.val∧BV.RowAt W W.heap.size r.A r.xs∧BV.RowSmall r.xs∧r.xs.length≤r.c∧∀ v∈r.xs,v.fits:=by
   intro i hil;obtain⟨cs',hc,ht⟩:=hi i (by omega)
   rw[c28]at hc;obtain⟨_,hcl,hat⟩:=World.cells?_some hc;obtain⟨v0,rfl⟩:=one hcl;have hw:∀ n∈(D i).weights Tryz.prog 39,n≤reachBytes:=fun n hn=>hsz n (BV.weights_elem hts (d:=D i) (List.mem_map.2 ⟨i,List.mem_range.2 hil,rfl⟩) n hn)
   have hv:∃ a1 l1 k1,v0 = .slice a1 l1 k1:=by
    rcases open_slice Tryz.underlying39 ht with ⟨h,_⟩ | ⟨a1,l1,k1,_,_,_,_,h,_⟩
    ·simp at h
     exact⟨_,_,_,h⟩
    ·simp at h
     exact⟨_,_,_,h⟩
   obtain⟨a1,l1,k1,rfl⟩:=hv;obtain⟨xs,e,h1,h2,h3,h4,h5,-⟩:=BV.open_vals Tryz.underlying39 ht hw;subst e;have q0:=hat 0 (by omega)
   obtain rfl:=hspot (by omega)
   rw[add_plain,add_plain]at q0;exact⟨⟨a1,k1,xs⟩,by simpa [BV.R.val]using q0,h1,⟨h2,h3⟩,h5,h4⟩
  have:Inhabited BV.R:=⟨⟨none,0,[]⟩⟩;obtain⟨F,hF⟩:=choose_lt key
  have hmem:∀ r∈(List.range len).map F,∃ i,i < len∧F i=r:=fun r hr=>by
   obtain⟨i,hi',rfl⟩:=List.mem_map.1 hr;exact⟨i,List.mem_range.1 hi',rfl⟩
  refine⟨(List.range len).map F,by simp,⟨fun hl0 => ?_,fun r hr => ?_⟩,by simp;omega,fun r hr => ?_⟩
  ·have hl0':0 < len:=by simpa using hl0
   obtain rfl:=hspot hl0';refine⟨b,o,rfl,BV.cell_in (hF 0 hl0').1,fun j hj => ?_⟩
   have hj':j < len:=by simpa using hj
   have:=(hF j hj').1
   simpa using this
  ·obtain⟨i,hi',rfl⟩:=hmem r hr
   exact(hF i hi').2.1
  ·obtain⟨i,hi',rfl⟩:=hmem r hr
   exact(hF i hi').2.2
theorem open_table{r:Reach}{b0:Nat}{v:Value}{d:DataW H}{p:List MemPlace}(hv:Value.okWide Tryz.prog W r b0 24 v)(h:DataW.Trod enc Tryz.prog W 0 (fun _=>true) true 24 v d p)(hsz:∀ n∈d.weights Tryz.prog 24,n≤reachBytes) :
  ∃ (k:Int) (A:Option Addr) (c:Nat) (rs:List BV.R),v = .agg #[.int .i64 k,.slice A rs.length c]∧BV.RowsAt W W.heap.size A rs∧rs.length≤140737488355328∧∀ r∈rs,BV.RowSmall r.xs∧r.xs.length≤r.c∧∀ v∈r.xs,v.fits:=by
 obtain⟨v0,v1,y0,y1,n,rfl,rfl,rfl,g0,g1⟩:=Go.Joins.open_agg2 Tryz.underlying24 (by kernel_rfl) (by kernel_rfl) hv h
 obtain⟨k,e0,e0',wk⟩:=DataW.trod_int Tryz.underlying3 (show DataW.trod enc Tryz.prog W 0 (fun _=>true) true n 3 [v0]=some y0 from g0)
 simp at e0
 subst e0;have g1':DataW.trod enc Tryz.prog W 0 (fun _=>true) true n 22 [v1]=some y1:=g1
 have hs:∃ a1 l1 k1,v1 = .slice a1 l1 k1:=by
  rcases open_slice Tryz.underlying22 g1' with ⟨h,_⟩ | ⟨a1,l1,k1,_,_,_,_,h,_⟩
  ·simp at h
   exact⟨_,_,_,h⟩
  ·simp at h
   exact⟨_,_,_,h⟩
 obtain⟨A,l,c,rfl⟩:=hs
 obtain⟨rs,h1,h2,h3,h4⟩:=open_rowsT Tryz.underlying22 g1' (fun n hn=>hsz n (by
  simp[DataW.weights,Tryz.underlying24,DataW.weightsEach,hn]))
 subst h1;exact⟨k,A,c,rs,rfl,h2,h3,h4⟩
end
end Go.Proofs.YtcicpjgnpcnnmaaGreatDoor
