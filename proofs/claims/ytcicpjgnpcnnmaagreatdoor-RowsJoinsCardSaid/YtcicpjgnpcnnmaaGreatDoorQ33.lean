import Derived.Test.YtcicpjgnpcnnmaaGreatDoorQ29
import Derived.Maps.OwnSet
import Derived.Maps.Ext
import Derived.StringKeys
set_option maxRecDepth 100000
set_option maxHeartbeats 4000000
set_option linter.unusedSimpArgs false
set_option linter.unusedVariables false
namespace Go.Proofs.YtcicpjgnpcnnmaaGreatDoor
open Go.RowKit Go.Maps
structure Gx where
 ks:List BV.V
 A:Option Addr
 c:Nat
 vb:Nat
 vs:List (Value×List BV.V)
structure Gp where
 ks:List BV.V
 vs:List (List BV.V)
def Gx.plain(g:Gx):Gp:=⟨g.ks,g.vs.map (·.2)⟩
def Gx.cells(g:Gx):List Value:=[.slice g.A g.ks.length g.c,.slice (some ⟨g.vb,0,none⟩) g.vs.length g.vs.length]
theorem ownV_same{w w':World}{B:Nat}{v:Value}{xs:List BV.V}(h:OwnV w B v xs)(hb:∀ k,v.ownBlock=some k→w'.heap[k]? = w.heap[k]?):OwnV w' B v xs:=by
 refine⟨h.1,?_⟩;rcases h.2 with hn | ⟨g,cap,cur,hv,hB,hg,rest⟩
 ·exact .inl hn
 ·exact .inr ⟨g,cap,cur,hv,hB,(hb g (by rw[hv];rfl)).trans hg,rest⟩
abbrev Tags:=Nat→Nat×Nat
structure GpAt(w:World)(B:Nat)(T:Tags)(j:Nat)(g:Gx):Prop where
 keys:0 < g.ks.length→∃ b off,g.A=some ⟨b,off,none⟩∧B≤b∧T b=(j+1,0)∧b < w.heap.size∧∀ i (h:i < g.ks.length),BV.CellsAt w b (off+i*3) g.ks[i]
 room:g.ks.length≤g.c
 vb:B≤g.vb∧T g.vb=(j+1,1)
 row:w.heap[g.vb]? = some (.cells (g.vs.map (·.1)).toArray 38 (0,0))
 own:∀ i (h:i < g.vs.length),OwnV w B g.vs[i].1 g.vs[i].2∧∀ k,g.vs[i].1.ownBlock=some k→T k=(j+1,i+2)
theorem GpAt.lt{w:World}{B:Nat}{T:Tags}{j:Nat}{g:Gx}(h:GpAt w B T j g):g.vb < w.heap.size:=(Array.getElem?_eq_some_iff.1 h.row).1
theorem GpAt.same{w w':World}{B:Nat}{T:Tags}{j:Nat}{g:Gx}(h:GpAt w B T j g)(hs:w.heap.size≤w'.heap.size)(hb:∀ k,B≤k→k < w.heap.size→(T k).1=j+1→w'.heap[k]? = w.heap[k]?):GpAt w' B T j g where
 keys h0:=by
  obtain⟨b,off,h1,h2,h3,h4,h5⟩:=h.keys h0;exact⟨b,off,h1,h2,h3,by omega,fun i hi=>cells_block (h5 i hi) (hb b h2 h4 (by rw[h3]))⟩
 room:=h.room
 vb:=h.vb
 row:=(hb _ h.vb.1 h.lt (by rw[h.vb.2])).trans h.row
 own i hi:=⟨ownV_same (h.own i hi).1 fun k hk=>hb k ((h.own i hi).1.lt k hk).1 ((h.own i hi).1.lt k hk).2 (by rw[(h.own i hi).2 k hk]),(h.own i hi).2⟩
theorem GpAt.retag{w:World}{B:Nat}{T T':Tags}{j:Nat}{g:Gx}(h:GpAt w B T j g)(hT:∀ k,k < w.heap.size→(T k).1=j+1→T' k=T k):GpAt w B T' j g where
 keys h0:=by
  obtain⟨b,off,h1,h2,h3,h4,h5⟩:=h.keys h0;exact⟨b,off,h1,h2,by rw[hT b h4 (by rw[h3]),h3],h4,h5⟩
 room:=h.room
 vb:=⟨h.vb.1,by rw[hT _ h.lt (by rw[h.vb.2]),h.vb.2]⟩
 row:=h.row
 own i hi:=⟨(h.own i hi).1,fun k hk=>by rw[hT k ((h.own i hi).1.lt k hk).2 (by rw[(h.own i hi).2 k hk]),(h.own i hi).2 k hk]⟩
structure GsAt(w:World)(B:Nat)(T:Tags)(lv:Value)(gs:List Gx):Prop where
 own:w.ownsRow B 90 2 lv gs.length (gs.flatMap Gx.cells)
 each:∀ j (h:j < gs.length),GpAt w B T j gs[j]
 tag:∀ k,lv.ownBlock=some k→T k=(0,0)
theorem ownG_same{w w':World}{B:Nat}{v:Value}{n:Nat}{xs:List Value}(h:w.ownsRow B 90 2 v n xs)(hb:∀ k,v.ownBlock=some k→w'.heap[k]? = w.heap[k]?):w'.ownsRow B 90 2 v n xs:=by
 refine⟨h.1,?_⟩;rcases h.2 with hn | ⟨g,cap,cur,hv,hB,hg,rest⟩
 ·exact .inl hn
 ·exact .inr ⟨g,cap,cur,hv,hB,(hb g (by rw[hv];rfl)).trans hg,rest⟩
theorem GsAt.same{w w':World}{B:Nat}{T:Tags}{lv:Value}{gs:List Gx}(h:GsAt w B T lv gs)(hs:w.heap.size≤w'.heap.size)(hb:∀ k,B≤k→k < w.heap.size→(T k).1≤gs.length→((T k).1=0→(T k).2=0)→w'.heap[k]? = w.heap[k]?):GsAt w' B T lv gs where
 own:=ownG_same h.own fun k hk=>hb k (h.own.lt k hk).1 (h.own.lt k hk).2 (by rw[h.tag k hk];exact Nat.zero_le _) (by rw[h.tag k hk];simp)
 each j hj:=(h.each j hj).same hs fun k h1 h2 h3=>hb k h1 h2 (by omega) (by omega)
 tag:=h.tag
theorem GsAt.later{w w':World}{B:Nat}{T:Tags}{lv:Value}{gs:List Gx}(h:GsAt w B T lv gs)(hb:Below w.heap.size w w'):GsAt w' B T lv gs:=h.same hb.size fun k _ hk _ _=>hb.block k hk
theorem GsAt.retag{w:World}{B:Nat}{T T':Tags}{lv:Value}{gs:List Gx}(h:GsAt w B T lv gs)(hT:∀ k,k < w.heap.size→(T k).1≤gs.length→T' k=T k):GsAt w B T' lv gs where
 own:=h.own
 each j hj:=(h.each j hj).retag fun k h1 h2=>hT k h1 (by omega)
 tag k hk:=by rw[hT k (h.own.lt k hk).2 (by rw[h.tag k hk];exact Nat.zero_le _),h.tag k hk]
theorem heap_set_other(w:World)(p:Addr)(v:Value){k:Nat}(h:k≠p.block):(w.setCell p v).heap[k]? = w.heap[k]? := Below.heap_setCell w p v k h
def Tags.put(T:Tags)(n:Nat)(x:Nat×Nat):Tags:=fun k=>if k=n then x else T k
theorem Tags.put_lt{T:Tags}{n k:Nat}{x:Nat×Nat}(h:k < n):T.put n x k=T k:=by unfold Tags.put;rw[if_neg (by omega)]
theorem Tags.put_at{T:Tags}{n:Nat}{x:Nat×Nat}:T.put n x n=x:=by unfold Tags.put;rw[if_pos rfl]
theorem flat_set_same{gs:List Gx}{j:Nat}{g:Gx}(hj:j < gs.length)(h:g.cells=gs[j].cells):(gs.set j g).flatMap Gx.cells=gs.flatMap Gx.cells:=by
 induction gs generalizing j with
 | nil=>rfl
 | cons a l ih =>
  cases j with
  | zero=>simp only[List.set_cons_zero,List.flatMap_cons];rw[h];rfl
  | succ j=>simp only[List.set_cons_succ,List.flatMap_cons];rw[ih (by simpa using hj) h]
theorem GsAt.grow{w w':World}{B:Nat}{T:Tags}{lv:Value}{gs:List Gx}(h:GsAt w B T lv gs){j i:Nat}(hj:j < gs.length)(hi:i < gs[j].vs.length){v':Value}{xs':List BV.V}(ho:OwnV w' B v' xs')(hg:w.grownBy w' gs[j].vs[i].1.ownBlock)(hv:v'.ownBlock=gs[j].vs[i].1.ownBlock∨v'.ownBlock=some w.heap.size) :
  GsAt (w'.setCell ⟨gs[j].vb,i,none⟩ v') B (T.put w.heap.size (j+1,i+2)) lv (gs.set j { gs[j]with vs:=gs[j].vs.set i (v',xs') }):=by
 have hvt:=(h.each j hj).vb.2;have hvl:=(h.each j hj).lt;have htag:∀ k,gs[j].vs[i].1.ownBlock=some k→T k=(j+1,i+2):=((h.each j hj).own i hi).2
 have hkeep:∀ k,k < w.heap.size→T k≠(j+1,i+2)→T k≠(j+1,1)→(w'.setCell ⟨gs[j].vb,i,none⟩ v').heap[k]? = w.heap[k]? := fun k hk h1 h2=>by
  rw[heap_set_other _ _ _ (by show k≠gs[j].vb;intro e;rw[e]at h2;exact h2 hvt)]
  exact hg.block k hk (fun e=>h1 (htag k e.symm))
 have hsz:(w'.setCell ⟨gs[j].vb,i,none⟩ v').heap.size=w'.heap.size:=by simp
 have hrow':w'.heap[gs[j].vb]? = some (.cells (gs[j].vs.map (·.1)).toArray 38 (0,0)):=by
  rw[hg.block _ hvl (fun e=>by have:=htag _ e.symm;rw[hvt]at this;simp at this)]
  exact(h.each j hj).row
 refine⟨?_,?_,?_⟩
 ·rw[List.length_set,flat_set_same hj (by unfold Gx.cells;simp)]
  exact ownG_same h.own fun k hk=>hkeep k (h.own.lt k hk).2 (by rw[h.tag k hk];simp) (by rw[h.tag k hk];simp)
 ·intro m hm
  rw[List.length_set]at hm
  by_cases hmj:m=j
  ·subst hmj
   rw[List.getElem_set_self];have hq:=h.each m hj;refine⟨fun h0 => ?_,hq.room,⟨hq.vb.1,?_⟩,?_,?_⟩
   ·obtain⟨b,off,h1,h2,h3,h4,h5⟩:=hq.keys h0
    exact⟨b,off,h1,h2,by rw[Tags.put_lt h4,h3],by rw[hsz];have:=hg.size;omega,fun i hi=>cells_block (h5 i hi) (hkeep b h4 (by rw[h3];simp) (by rw[h3];simp))⟩
   ·rw[Tags.put_lt hq.lt];exact hq.vb.2
   ·show(w'.setCell ⟨gs[m].vb,i,none⟩ v').heap[gs[m].vb]? = _
    rw[Lib.heap_setCell_same hrow']
    simp[List.map_set]
   ·intro k hk
    have hk':k < gs[m].vs.length:=by simpa using hk
    by_cases hki:k=i
    ·subst hki
     simp only[List.getElem_set_self];refine⟨ownV_same ho fun b hb => ?_,fun b hb => ?_⟩
     ·refine heap_set_other _ _ _ (show b≠gs[m].vb from fun e => ?_)
      rcases hv with e2 | e2
      ·rw[e2]at hb
       have:=htag b hb;rw[e,hvt]at this
       simp at this
      ·rw[e2]at hb
       injection hb with hb
       omega
     ·rcases hv with e2 | e2
      ·rw[e2]at hb
       have:=htag b hb;have hlt:=(hq.own k hi).1.lt b hb;rw[Tags.put_lt hlt.2];exact this
      ·rw[e2]at hb
       injection hb with hb
       subst hb;exact Tags.put_at
    ·have hne:(gs[m].vs.set i (v',xs'))[k]'hk=gs[m].vs[k]:=List.getElem_set_ne (fun e=>hki e.symm) _
     show OwnV _ B ((gs[m].vs.set i (v',xs'))[k]'hk).1 ((gs[m].vs.set i (v',xs'))[k]'hk).2∧∀ b,((gs[m].vs.set i (v',xs'))[k]'hk).1.ownBlock=some b→_
     rw[hne];obtain⟨a1,a2⟩:=hq.own k hk';refine⟨ownV_same a1 fun b hb=>hkeep b (a1.lt b hb).2 (by rw[a2 b hb];simp[hki]) (by rw[a2 b hb];simp),fun b hb => ?_⟩
     rw[Tags.put_lt (a1.lt b hb).2];exact a2 b hb
  ·rw[List.getElem_set_ne (fun e=>hmj e.symm)]
   have h1:GpAt w B (T.put w.heap.size (j+1,i+2)) m gs[m]:=(h.each m hm).retag fun k hk _=>Tags.put_lt hk
   exact h1.same (by rw[hsz];exact hg.size) fun k _ hk ht=>hkeep k hk (by rw[Tags.put_lt hk]at ht;intro e;rw[e]at ht;simp at ht;omega) (by rw[Tags.put_lt hk]at ht;intro e;rw[e]at ht;simp at ht;omega)
 ·intro k hk
  rw[Tags.put_lt (h.own.lt k hk).2];exact h.tag k hk
theorem infoG:(Tryz.prog.info? 90).map (fun i=>(i.zero,i.size,i.bytes))=some (some (.agg #[.slice none 0 0,.slice none 0 0]),2,48):=by kernel_rfl
theorem infoGp:∃ i,Tryz.prog.info? 90=some i∧i.zero=some (.agg #[.slice none 0 0,.slice none 0 0])∧i.size=2∧i.bytes=48:=by
 cases hq:Tryz.prog.info? 90 with
 | none=>have h:=infoG;rw[hq]at h;cases h
 | some i =>
  have h:=infoG;rw[hq]at h;simp only[Option.map_some,Option.some.injEq,Prod.mk.injEq]at h;exact⟨i,rfl,h.1,h.2.1,h.2.2⟩
theorem gcells_at(gs:List Gx)(j:Nat)(h:j < gs.length):(gs.flatMap Gx.cells)[j*2]? = some (.slice gs[j].A gs[j].ks.length gs[j].c)∧(gs.flatMap Gx.cells)[j*2+1]? = some (.slice (some ⟨gs[j].vb,0,none⟩) gs[j].vs.length gs[j].vs.length):=by
 induction gs generalizing j with
 | nil=>simp at h
 | cons a l ih =>
  cases j with
  | zero=>exact⟨rfl,rfl⟩
  | succ j =>
   have h2:j < l.length:=by simpa using h
   have:=ih j h2;have e:(a::l).flatMap Gx.cells=(.slice a.A a.ks.length a.c)::(.slice (some ⟨a.vb,0,none⟩) a.vs.length a.vs.length)::l.flatMap Gx.cells:=rfl;have e1:(j+1)*2=j*2+1+1:=by omega
   rw[e,e1];simp only[List.getElem?_cons_succ,List.getElem_cons_succ];exact this
theorem GsAt.shape{w:World}{B:Nat}{T:Tags}{lv:Value}{gs:List Gx}(h:GsAt w B T lv gs):∃ A c,lv = .slice A gs.length c∧gs.length≤c:=by
 rcases h.own.2 with ⟨hv,h0⟩ | ⟨g,cap,cur,hv,_,hg,hn,_⟩
 ·exact⟨none,0,by rw[hv,h0],by omega⟩
 ·exact⟨_,cap,hv,hn⟩
theorem GsAt.cells{w:World}{B:Nat}{T:Tags}{lv:Value}{gs:List Gx}(h:GsAt w B T lv gs)(j:Nat)(hj:j < gs.length):∃ g c,lv = .slice (some ⟨g,0,none⟩) gs.length c∧B≤g∧g < w.heap.size∧T g=(0,0)∧gs.length≤c∧w.cell? ⟨g,j*2,none⟩=some (.slice gs[j].A gs[j].ks.length gs[j].c)∧w.cell? ⟨g,j*2+1,none⟩=some (.slice (some ⟨gs[j].vb,0,none⟩) gs[j].vs.length gs[j].vs.length):=by
 rcases h.own.2 with ⟨hv,h0⟩ | ⟨g,cap,cur,hv,hB,hg,hn,_⟩
 ·omega
 ·have hgl:=(Array.getElem?_eq_some_iff.1 hg).1
  have ho:=h.own;rw[hv]at ho;obtain⟨c1,c2⟩:=gcells_at gs j hj;refine⟨g,cap,hv,hB,hgl,h.tag g (by rw[hv];rfl),hn,?_,?_⟩
  ·rw[ho.cellAt _ (by omega)];exact c1
  ·rw[ho.cellAt _ (by omega)];exact c2
theorem GsAt.more{w w':World}{B:Nat}{T:Tags}{lv v':Value}{gs:List Gx}{g:Gx}(h:GsAt w B T lv gs)(hx:GpAt w B T gs.length g)(ho:w'.ownsRow B 90 2 v' (gs.length+1) (gs.flatMap Gx.cells++g.cells))(hgr:w.grownBy w' lv.ownBlock)(hv:v'.ownBlock=lv.ownBlock∨v'.ownBlock=some w.heap.size) :
  GsAt w' B (T.put w.heap.size (0,0)) v' (gs ++ [g]):=by
 have hkeep:∀ k,k < w.heap.size→T k≠(0,0)→w'.heap[k]? = w.heap[k]? := fun k hk h1=>hgr.block k hk (fun e=>h1 (h.tag k e.symm))
 have hall:∀ {j:Nat} {x:Gx},GpAt w B T j x→GpAt w' B (T.put w.heap.size (0,0)) j x:=fun {j x} hq=>by
  have h1:GpAt w B (T.put w.heap.size (0,0)) j x:=hq.retag fun k hk _=>Tags.put_lt hk
  exact h1.same hgr.size fun k _ hk ht=>hkeep k hk (by rw[Tags.put_lt hk]at ht;intro e;rw[e]at ht;simp at ht)
 refine⟨?_,?_,?_⟩
 ·rw[List.length_append,List.flatMap_append,List.flatMap_cons,List.flatMap_nil,List.append_nil];exact ho
 ·intro j hj
  rw[List.length_append,List.length_cons,List.length_nil]at hj
  by_cases h1:j < gs.length
  ·rw[List.getElem_append_left h1];exact hall (h.each j h1)
  ·have:j=gs.length:=by omega
   subst this;rw[List.getElem_append_right (Nat.le_refl _)]
   simpa using hall hx
 ·intro k hk
  rcases hv with e | e
  ·rw[e]at hk
   rw[Tags.put_lt (h.own.lt k hk).2];exact h.tag k hk
  ·rw[e]at hk
   injection hk with hk
   subst hk;exact Tags.put_at
theorem ownG_app{w:World}{B:Nat}{lv:Value}{gs:List Gx}(t ty:TypeId)(ht:Tryz.prog.underlying t=some (.slice 90))(hown:w.ownsRow B 90 2 lv gs.length (gs.flatMap Gx.cells))(g:Gx)(lb:Nat)(c0:w.cell? ⟨lb,0,none⟩=some (.slice g.A g.ks.length g.c))(c1:w.cell? ⟨lb,1,none⟩=some (.slice (some ⟨g.vb,0,none⟩) g.vs.length g.vs.length))(hm:gs.length≤1000000)(hB:B≤w.heap.size) :
  ∃ v' w',(Builtin.append_ #[t,t] ty #[lv,.slice (some ⟨lb,0,none⟩) 1 1]).run Tryz.prog w = .ok v' w'∧w'.ownsRow B 90 2 v' (gs.length+1) (gs.flatMap Gx.cells++g.cells)∧w.grownBy w' lv.ownBlock∧(v'.ownBlock=lv.ownBlock∨v'.ownBlock=some w.heap.size):=by
 obtain⟨i0,hi,hz0,hz1,hz2⟩:=infoGp
 obtain⟨v',w',h1,h2,h3,-,h5⟩:=run_append_own_at (P:=Tryz.prog) w B t ty 90 i0 _ 2 48 ht hi hz0 hz1 hz2 rfl (by decide) lv gs.length (gs.flatMap Gx.cells) hown ⟨lb,0,none⟩ 1 1 g.cells rfl (by
  intro j u hj
  match j,hj with
  | 0,hj=>simp[Gx.cells]at hj;subst hj;exact c0
  | 1,hj=>simp[Gx.cells]at hj;subst hj;exact c1) (by intro u hu;simp[Gx.cells]at hu;rcases hu with rfl | rfl <;> rfl) (by unfold maxLen;omega) (by omega) hB
 exact⟨v',w',h1,h2,h3,h5⟩
theorem lawT:Keyed Tryz.prog 9:=string_keyed Tryz.underlying9
def placeD(n:Nat):DataW Unit:= .lit (.int .i64 (n:Int))
def Agr(D:DataW Unit)(l:List (List UInt8)):Prop:=(∀ s:List UInt8,has D (.string s)=decide (s∈l))∧∀ k (h:k < l.length) z,D.atKey (.string l[k]) z=placeD k
theorem Agr.nil:Agr (.map []) []:=⟨fun s=>by simp[has],fun k h=>by simp at h⟩
theorem keyLitT(s:List UInt8):WideAt.IsKeyLit (.string s):=by first | exact WideAt.IsKeyLit.string s | (unfold WideAt.IsKeyLit;simp) | trivial
theorem Agr.put{D:DataW Unit}{l:List (List UInt8)}(h:Agr D l)(hm:IsMap D)(s:List UInt8)(hs:s∉l):Agr (D.put (.string s) (placeD l.length)) (l ++ [s]):=by
 refine⟨fun t => ?_,fun k hk z => ?_⟩
 ·by_cases e:t=s
  ·subst e
   rw[has_put_same hm (keyLitT t)]
   simp
  ·rw[has_put_other (by intro h1;injection h1 with h1;exact e h1),h.1 t]
   simp[e]
 ·rw[List.length_append,List.length_cons,List.length_nil]at hk
  by_cases h1:k < l.length
  ·rw[List.getElem_append_left h1,atKey_put_other (by intro h2;injection h2 with h2;exact hs (h2 ▸ List.getElem_mem h1))]
   exact h.2 k h1 z
  ·have:k=l.length:=by omega
   subst this;rw[List.getElem_append_right (Nat.le_refl _)];simp only[Nat.sub_self,List.getElem_cons_zero];exact atKey_put_same hm (keyLitT s) _ z
structure St(w:World)(B:Nat)(T:Tags)(gb mb:Nat)(f:List BV.V→List UInt8)(gs:List Gx):Prop where
 box:∃ lv,w.heap[gb]? = some (.cells #[lv,.map (some mb)] 120 (0,0))∧GsAt w B T lv gs
 bB:B≤gb∧T gb=(0,2)
 mB:B≤mb∧T mb=(0,1)
 map:∃ D,w.ownsMap Tryz.prog 9 (plainElem Tryz.prog 3) mb gs.length D∧Agr D (gs.map fun g=>f g.ks)
theorem St.lt{w:World}{B:Nat}{T:Tags}{gb mb:Nat}{f:List BV.V→List UInt8}{gs:List Gx}(h:St w B T gb mb f gs):gb < w.heap.size∧mb < w.heap.size:=by
 obtain⟨lv,h1,-⟩:=h.box;obtain⟨D,h2,-⟩:=h.map;exact⟨(Array.getElem?_eq_some_iff.1 h1).1,World.ownsMap.lt h2⟩
def Used(n:Nat)(x:Nat×Nat):Prop:=x.1≤n∧(x.1=0→x.2≤2)
theorem ownM_same{w w':World}{mb n:Nat}{D:DataW Unit}(h:w.ownsMap Tryz.prog 9 (plainElem Tryz.prog 3) mb n D)(hb:w'.heap[mb]? = w.heap[mb]?):w'.ownsMap Tryz.prog 9 (plainElem Tryz.prog 3) mb n D:=by
 obtain⟨es,clock,h1,rest⟩:=h;exact⟨es,clock,hb.trans h1,rest⟩
theorem St.same{w w':World}{B:Nat}{T:Tags}{gb mb:Nat}{f:List BV.V→List UInt8}{gs:List Gx}(h:St w B T gb mb f gs)(hs:w.heap.size≤w'.heap.size)(hb:∀ k,B≤k→k < w.heap.size→Used gs.length (T k)→w'.heap[k]? = w.heap[k]?):St w' B T gb mb f gs:=by
 obtain⟨l1,l2⟩:=h.lt;refine⟨?_,h.bB,h.mB,?_⟩
 ·obtain⟨lv,h1,h2⟩:=h.box
  exact⟨lv,(hb gb h.bB.1 l1 (by rw[h.bB.2];exact⟨Nat.zero_le _,fun _=>Nat.le_refl _⟩)).trans h1,h2.same hs fun k a b c d=>hb k a b ⟨c,fun e=>by rw[d e];omega⟩⟩
 ·obtain⟨D,h1,h2⟩:=h.map
  exact⟨D,ownM_same h1 (hb mb h.mB.1 l2 (by rw[h.mB.2];exact⟨Nat.zero_le _,fun _=>by decide⟩)),h2⟩
theorem St.later{w w':World}{B:Nat}{T:Tags}{gb mb:Nat}{f:List BV.V→List UInt8}{gs:List Gx}(h:St w B T gb mb f gs)(hb:Below w.heap.size w w'):St w' B T gb mb f gs:=h.same hb.size fun k _ hk _=>hb.block k hk
theorem St.retag{w:World}{B:Nat}{T T':Tags}{gb mb:Nat}{f:List BV.V→List UInt8}{gs:List Gx}(h:St w B T gb mb f gs)(hT:∀ k,k < w.heap.size→T' k=T k):St w B T' gb mb f gs:=by
 obtain⟨l1,l2⟩:=h.lt;obtain⟨lv,h1,h2⟩:=h.box;exact⟨⟨lv,h1,h2.retag fun k hk _=>hT k hk⟩,⟨h.bB.1,by rw[hT gb l1,h.bB.2]⟩,⟨h.mB.1,by rw[hT mb l2,h.mB.2]⟩,h.map⟩
theorem St.grow{w w':World}{B:Nat}{T:Tags}{gb mb:Nat}{f:List BV.V→List UInt8}{gs:List Gx}(h:St w B T gb mb f gs){j i:Nat}(hj:j < gs.length)(hi:i < gs[j].vs.length){v':Value}{xs':List BV.V}(ho:OwnV w' B v' xs')(hg:w.grownBy w' gs[j].vs[i].1.ownBlock)(hv:v'.ownBlock=gs[j].vs[i].1.ownBlock∨v'.ownBlock=some w.heap.size) :
  St (w'.setCell ⟨gs[j].vb,i,none⟩ v') B (T.put w.heap.size (j+1,i+2)) gb mb f (gs.set j { gs[j]with vs:=gs[j].vs.set i (v',xs') })∧(∀ k,k < w.heap.size→(T k).1=0→(w'.setCell ⟨gs[j].vb,i,none⟩ v').heap[k]? = w.heap[k]?):=by
 obtain⟨l1,l2⟩:=h.lt;obtain⟨lv,h1,h2⟩:=h.box;obtain⟨D,h3,h4⟩:=h.map;have hvt:=(h2.each j hj).vb.2;have htag:∀ k,gs[j].vs[i].1.ownBlock=some k→T k=(j+1,i+2):=((h2.each j hj).own i hi).2
 have hkeep:∀ k,k < w.heap.size→(T k).1=0→(w'.setCell ⟨gs[j].vb,i,none⟩ v').heap[k]? = w.heap[k]? := fun k hk h0=>by
  rw[heap_set_other _ _ _ (by show k≠gs[j].vb;intro e;rw[e,hvt]at h0;simp at h0)]
  exact hg.block k hk (fun e=>by rw[htag k e.symm]at h0;simp at h0)
 have hsz:(w'.setCell ⟨gs[j].vb,i,none⟩ v').heap.size=w'.heap.size:=by simp
 have hmap:(gs.set j { gs[j]with vs:=gs[j].vs.set i (v',xs') }).map (fun g=>f g.ks)=gs.map fun g=>f g.ks:=by
  rw[List.map_set]
  apply List.ext_getElem (by simp)
  intro k h1 h2
  by_cases e:j=k
  ·subst e;simp
  ·rw[List.getElem_set_ne e]
 refine⟨⟨⟨lv,(hkeep gb l1 (by rw[h.bB.2])).trans h1,h2.grow hj hi ho hg hv⟩,⟨h.bB.1,by rw[Tags.put_lt l1,h.bB.2]⟩,⟨h.mB.1,by rw[Tags.put_lt l2,h.mB.2]⟩,⟨D,?_,?_⟩⟩,hkeep⟩
 ·rw[List.length_set]
  exact ownM_same h3 (hkeep mb l2 (by rw[h.mB.2]))
 ·rw[hmap];exact h4
end Go.Proofs.YtcicpjgnpcnnmaaGreatDoor
namespace Go.Proofs.YtcicpjgnpcnnmaaGreatDoor
open Go.RowKit
def vtx(v:BV.V):List UInt8:=if BV.mayB v.k v.i v.s then v.txt else []
def rtx(r:List BV.V):List UInt8:=r.flatMap fun v=>vtx v ++ [44]
theorem rtx_next{r:List BV.V}{k:Nat}(h:k < r.length):rtx (r.take (k+1))=(rtx (r.take k)++vtx r[k]) ++ [44]:=by
 unfold rtx;rw[List.take_succ_eq_append_getElem h,List.flatMap_append,List.append_assoc]
 simp
theorem vtx_len(v:BV.V)(h:v.ok):(vtx v).length≤2000021:=by
 unfold vtx
 split
 ·have h1:=BV.txt_len v.k v.i v.s h.1 h.2.1
  have h2:=h.2.2;have h3:v.txt=BV.txt v.k v.i v.s:=rfl;rw[h3];omega
 ·simp
theorem rtx_len:∀ (r:List BV.V),(∀ v∈r,v.ok)→(rtx r).length≤r.length*2000022
 | [],_=>by simp[rtx]
 | v::l,h=>by
  have h1:=vtx_len v (h v (by simp))
  have h2:=rtx_len l fun x hx=>h x (by simp[hx])
  have e:rtx (v::l)=(vtx v ++ [44])++rtx l:=rfl;rw[e];simp only[List.length_append,List.length_cons,List.length_nil]
  omega
theorem vtext_any(v:BV.V)(w:World)(hE:BV.Env w)(h:v.ok) :
  Calls Tryz.prog 162 #[.agg #[.int .i64 v.k,.int .i64 v.i,.string v.s]] w fun e w'=>(∃ er:Int,e = .returned (.tuple #[.string ⟨(vtx v).toArray⟩,.int .i64 er]))∧Below w.heap.size w w':=by
 cases hm:BV.mayB v.k v.i v.s
 ·have e:vtx v = []:=by unfold vtx;rw[hm];rfl
  rw[e];refine(BV.text_bad v.k v.i v.s w hm).mono ?_;rintro e w1 ⟨rfl,hb⟩;exact⟨⟨1,rfl⟩,hb⟩
 ·have e:vtx v=BV.txt v.k v.i v.s:=by unfold vtx;rw[hm];rfl
  rw[e];refine(BV.text_ok v.k v.i v.s w hm h.2.2 h.1 h.2.1 hE).mono ?_;rintro e w1 ⟨rfl,hb⟩;exact⟨⟨0,rfl⟩,hb⟩
abbrev IsB (b:Nat) (l:List UInt8) (w:World):Prop:=BT.W63 b b l w
theorem isB_later{b:Nat}{l:List UInt8}{w w':World}(h:IsB b l w)(hb:Below w.heap.size w w'):IsB b l w':=BT.W63.below h hb
theorem text_any(r:List BV.V)(A:Option Addr)(c:Nat)(w:World)(hr:BV.RowAt w w.heap.size A r)(hE:BV.Env w)(hl:r.length≤100000)(hok:∀ v∈r,v.ok) :
  Calls Tryz.prog 128 #[.slice A r.length c] w fun q w'=>q = .returned (.string ⟨(rtx r).toArray⟩)∧Below w.heap.size w w':=by
 have HR:=Hi hr;have HE:=Hi hE;have HOK:=Hi hok;have hsz:=hE.size;obtain⟨W1,hW1⟩:∃ W1:World,W1=w.alloc (.cells #[.pointer none,.slice none 0 0] 187):=⟨_,rfl⟩;have hb1:Below w.heap.size w W1:=by rw[hW1];exact(Below.refl _ _).alloc (Nat.le_refl _) _
 have HI1:Hid (IsB w.heap.size (rtx (r.take 0)) W1):=Hi (by rw[hW1];exact(show BT.W63 _ _ _ _ from Lib.fresh_isBuilder 187 5 w))
 have HZ1:Hid (w.heap.size < W1.heap.size):=Hi (by rw[hW1];simp)
 have HB1:=Hi hb1;have HW1:=Hi hW1;obtain⟨n,hn⟩:∃ n,n=r.length:=⟨_,rfl⟩;have HN:=Hi hn;rw[←hn]at hl ⊢;clear hr hE hok hW1 hb1 hn;go_enter Tryz.func128,Tryz.ntmps128
 go_wp2_with (rw[←HW1.out])
 go_loopw [10] (fun i wr=>∃ k:Nat,k≤n∧i = .int .i64 k∧Hid (IsB w.heap.size (rtx (r.take k)) wr)∧Hid (Below w.heap.size w wr)∧Hid (w.heap.size < wr.heap.size)) (fun i _=>n - (intOf i).toNat)
 case atStart=>exact⟨0,Nat.zero_le _,rfl,HI1,HB1,HZ1⟩
 case round =>
  obtain⟨k,hk,rfl,HI,HB,HZ⟩:=hrel
  by_cases hlt:k < n
  ·have hkr:k < r.length:=by rw[←HN.out];exact hlt
   obtain⟨g,off,rfl,hg,hc⟩:=HR.out (by omega)
   obtain⟨c0,c1,c2⟩:=hc k hkr;have i0:=(HB.out.cell (p:=⟨g,_,none⟩) hg).trans c0;have i1:=(HB.out.cell (p:=⟨g,_,none⟩) hg).trans c1;have i2:=(HB.out.cell (p:=⟨g,_,none⟩) hg).trans c2;have hv:=HOK.out r[k] (List.getElem_mem hkr);obtain⟨W2,hW2⟩:∃ W2:World,W2=wr.alloc (.cells #[.int .i64 r[k].k,.int .i64 r[k].i,.string r[k].s] 26):=⟨_,rfl⟩;have b2:Below wr.heap.size wr W2:=by rw[hW2];exact(Below.refl _ _).alloc (Nat.le_refl _) _
   have q2:SC.VBox W2 wr.heap.size ⟨r[k].k,r[k].i,r[k].s⟩:=by rw[hW2];exact SC.VBox.made wr ⟨r[k].k,r[k].i,r[k].s⟩
   obtain⟨y0,y1,y2⟩:=q2.cells;have HI2:=Hi (isB_later HI.out b2);have HB2:=Hi (bthen HB.out b2);have HT:=Hi (vtext_any r[k] W2 (HE.out.below (HB2.out) hsz) hv);have HNX:=Hi (rtx_next hkr)
   have HL1:Hid ((rtx (r.take k)).length≤200002200000):=Hi (by
    have:=rtx_len (r.take k) fun v hv=>HOK.out v (List.mem_of_mem_take hv)
    have h2:(r.take k).length≤100000:=by rw[List.length_take];omega
    have h3:(r.take k).length*2000022≤100000*2000022:=Nat.mul_le_mul_right _ h2
    omega)
   have HL2:=Hi (vtx_len r[k] hv);have HW2:=Hi hW2;have HZ2:Hid (w.heap.size≤W2.heap.size):=Hi (by have:=b2.size;have:=HZ.out;omega)
   dsimp only at y0 y1 y2;generalize rtx (r.take k)=lx at *;generalize vtx r[k]=vx at *;generalize r[k].k=vk at *;generalize r[k].i=vi at *;generalize r[k].s=vs at *;clear c0 c1 c2 hc hv hW2 b2 q2 HI HB HZ
   go_wp2_with (rw[←HW2.out])
   refine(HT.out).mono ?_;rintro q w3 ⟨⟨er,rfl⟩,b3⟩;have HI3:=Hi (isB_later HI2.out b3);have HB3:=Hi (bthen HB2.out b3);have HZ3:Hid (w.heap.size≤w3.heap.size):=Hi (by have:=b3.size;have:=HZ2.out;omega)
   have HWS:=Hi (BT.wString w.heap.size w.heap.size lx ⟨vx.toArray⟩ w3 HI3.out (by have:=HL1.out;have:=HL2.out;show lx.length+vx.toArray.size≤_;rw[List.size_toArray];omega) HZ3.out)
   clear b3 HI2 HB2 HZ2 HT y0 y1 y2 i0 i1 i2 HI3;go_wp2_with fail;refine(HWS.out).mono ?_;rintro q w4 ⟨rfl,h4,b4,-⟩;have HB4:=Hi (HB3.out.trans b4);have HZ4:Hid (w.heap.size≤w4.heap.size):=Hi HB4.out.size;have HWB:=Hi (BT.wByte w.heap.size w.heap.size (lx++vx) 44 44 w4 (by decide) h4 (by rw[List.length_append];have:=HL1.out;have:=HL2.out;omega) HZ4.out)
   clear b4 HWS HB3 HZ3 h4;go_wp2_with fail;refine(HWB.out).mono ?_;rintro q w5 ⟨rfl,h5,b5,-⟩;rw[←HNX.out]at h5;have HB5:=Hi (HB4.out.trans b5);have HI5:Hid (IsB w.heap.size (rtx (r.take (k+1))) w5):=Hi h5;have HZ5:Hid (w.heap.size < w5.heap.size):=Hi (BT.W63.lt h5).2;clear b5 HWB HB4 HZ4 h5;go_wp2_with fail
   go_roundw
   case rel=>exact⟨k+1,by omega,by go_num,HI5,HB5,HZ5⟩
   case measure=>simp[intOf];omega
  ·obtain rfl:k=n:=by omega
   rw[List.take_of_length_le (by rw[←HN.out];exact Nat.le_refl _)]at HI
   have HS:=Hi (Tryz.Builder_String_any w.heap.size w.heap.size (rtx r) wr HI.out (by have:=HZ.out;omega))
   have HBr:=HB;clear HI HB HZ;go_wp2_with fail;refine(HS.out).mono ?_;rintro q w3 ⟨rfl,b3⟩;have HB3:=Hi (HBr.out.trans b3);clear HS HBr b3;go_wp2_with fail
   go_ret
   exact⟨rfl,HB3.out⟩
end Go.Proofs.YtcicpjgnpcnnmaaGreatDoor
namespace Go.Proofs.YtcicpjgnpcnnmaaGreatDoor
open Go.RowKit Go.Maps
theorem infoL:(Tryz.prog.info? 38).map (fun i=>(i.zero,i.size,i.bytes))=some (some (.slice none 0 0),1,24):=by kernel_rfl
theorem infoLp:∃ i,Tryz.prog.info? 38=some i∧i.zero=some (.slice none 0 0)∧i.size=1∧i.bytes=24:=by
 cases hq:Tryz.prog.info? 38 with
 | none=>have h:=infoL;rw[hq]at h;cases h
 | some i =>
  have h:=infoL;rw[hq]at h;simp only[Option.map_some,Option.some.injEq,Prod.mk.injEq]at h;exact⟨i,rfl,h.1,h.2.1,h.2.2⟩
theorem made_lists(n:Nat)(h:n≤1000000)(w:World):(Instr.makeSlice 88 (.int .i64 (n:Int)) (.int .i64 (n:Int))).run Tryz.prog w = .ok (.slice (some ⟨w.heap.size,0,none⟩) n n) (w.alloc (.cells (List.replicate n (Value.slice none 0 0)).toArray 38)):=by
 obtain⟨i0,hi,hz0,hz1,hz2⟩:=infoLp;have:=run_make (P:=Tryz.prog) w 88 38 i0 _ Tryz.underlying88 hi hz0 .i64 .i64 n n (by omega) (by omega) (by rw[hz2];omega) (by omega)
 rw[this,Int.toNat_natCast,hz1]
 have e:madeCells (Value.slice none 0 0).cells (n*1)=(List.replicate n (Value.slice none 0 0)).toArray:=by
  apply Array.ext
  ·simp[madeCells]
  ·intro i h1 h2
   have hz:(Value.slice none 0 0).cells=#[Value.slice none 0 0]:=rfl
   simp[madeCells,hz,Nat.mod_one]
 rw[e]
structure KeyOff(w:World)(B:Nat)(T:Tags)(j:Nat)(A:Option Addr)(c:Nat)(ks:List BV.V):Prop where
 at_:0 < ks.length→∃ b off,A=some ⟨b,off,none⟩∧B≤b∧T b=(j+1,0)∧b < w.heap.size∧∀ i (h:i < ks.length),BV.CellsAt w b (off+i*3) ks[i]
 room:ks.length≤c
theorem KeyOff.row{w:World}{B:Nat}{T:Tags}{j:Nat}{A:Option Addr}{c:Nat}{ks:List BV.V}(h:KeyOff w B T j A c ks):BV.RowAt w w.heap.size A ks:=fun h0=>by
 obtain⟨b,off,hA,-,-,hlt,hc⟩:=h.at_ h0;exact⟨b,off,hA,hlt,hc⟩
theorem KeyOff.same{w w':World}{B:Nat}{T:Tags}{j:Nat}{A:Option Addr}{c:Nat}{ks:List BV.V}(h:KeyOff w B T j A c ks)(hs:w.heap.size≤w'.heap.size)(hb:∀ k,B≤k→k < w.heap.size→T k=(j+1,0)→w'.heap[k]? = w.heap[k]?):KeyOff w' B T j A c ks:=⟨fun h0=>by
 obtain⟨b,off,hA,h1,h2,h3,hc⟩:=h.at_ h0;exact⟨b,off,hA,h1,h2,by omega,fun i hi=>cells_block (hc i hi) (hb b h1 h3 h2)⟩,h.room⟩
def newG(ks:List BV.V)(A:Option Addr)(c vb na:Nat):Gx:=⟨ks,A,c,vb,List.replicate na (.slice none 0 0,[])⟩
def litW(w2:World)(ks:List BV.V)(A:Option Addr)(c na:Nat):World:=(w2.drew.alloc (.cells (List.replicate na (Value.slice none 0 0)).toArray 38)).alloc (.cells #[.slice A ks.length c,.slice (some ⟨w2.heap.size,0,none⟩) na na] 90)
theorem set_box{w:World}{gb:Nat}{a b v:Value}{t:TypeId}(h:w.heap[gb]? = some (.cells #[a,b] t (0,0))):(w.setCell ⟨gb,0,none⟩ v).heap[gb]? = some (.cells #[v,b] t (0,0)):=by
 rw[Lib.heap_setCell_same h]
 rfl
theorem St.adds{w1 w2:World}{B:Nat}{T:Tags}{gb mb:Nat}{f:List BV.V→List UInt8}{gs:List Gx}{lv:Value}(h:St w1 B T gb mb f gs)(hbox:w1.heap[gb]? = some (.cells #[lv,.map (some mb)] 120 (0,0)))(hgs:GsAt w1 B T lv gs){D:DataW Unit}(hD:Agr D (gs.map fun g=>f g.ks))(hDm:IsMap D)(ks:List BV.V)(A:Option Addr)(c na:Nat)(hk:KeyOff w1 B T gs.length A c ks)(hn:f ks∉gs.map fun g=>f g.ks)
  (hown2:w2.ownsMap Tryz.prog 9 (plainElem Tryz.prog 3) mb (gs.length+1) (D.put (.string (f ks)) (placeD gs.length)))(hg2:w1.grownBy w2 (some mb))(hm:gs.length≤1000000)(hB:B≤w1.heap.size) :
  w2.heap[gb]? = some (.cells #[lv,.map (some mb)] 120 (0,0))∧∃ v' w4,(Builtin.append_ #[85,85] 85 #[lv,.slice (some ⟨w2.heap.size+1,0,none⟩) 1 1]).run Tryz.prog (litW w2 ks A c na) = .ok v' w4∧w4.heap[gb]? = some (.cells #[lv,.map (some mb)] 120 (0,0))∧(∃ g cc,v' = .slice (some ⟨g,0,none⟩) (gs.length+1) cc) ∧
   (∃ T',St (w4.setCell ⟨gb,0,none⟩ v') B T' gb mb f (gs ++ [newG ks A c w2.heap.size na])∧∀ k,k < w1.heap.size→T' k=T k)∧(∀ k,B≤k→k < w1.heap.size→¬Used gs.length (T k)→(w4.setCell ⟨gb,0,none⟩ v').heap[k]? = w1.heap[k]?)∧Below B w1 (w4.setCell ⟨gb,0,none⟩ v')∧B≤gb∧w1.heap.size≤(w4.setCell ⟨gb,0,none⟩ v').heap.size:=by
 obtain⟨l1,l2⟩:=h.lt;have hz2:=hg2.size;have hgm:gb≠mb:=by intro e;have h1:=h.bB.2;rw[e,h.mB.2]at h1;simp at h1
 have e2:∀ k,k < w1.heap.size→k≠mb→w2.heap[k]? = w1.heap[k]? := fun k hk hne=>hg2.block k hk (by intro e;injection e with e;first | exact hne e | exact hne e.symm)
 have hbox2:=(e2 gb l1 hgm).trans hbox
 have hbW:Below w2.heap.size w2 (litW w2 ks A c na):=by
  unfold litW;exact(((Below.refl _ _).drew).alloc (by show w2.heap.size≤w2.drew.heap.size;exact Nat.le_refl _) _).alloc (by simp) _
 have hzW:(litW w2 ks A c na).heap.size=w2.heap.size+2:=by unfold litW;simp
 have hg2':GsAt w2 B T lv gs:=hgs.same hz2 fun k h1 h3 h4 h5=>e2 k h3 (by intro e;rw[e,h.mB.2]at h5;simp at h5)
 have hgW:GsAt (litW w2 ks A c na) B (T.put w2.heap.size (gs.length+1,1)) lv gs:=(hg2'.retag fun k hk _=>Tags.put_lt hk).later hbW
 have hrow:(litW w2 ks A c na).heap[w2.heap.size]? = some (.cells (List.replicate na (Value.slice none 0 0)).toArray 38 (0,0)):=by
  unfold litW;rw[heap_alloc_old _ _ (by simp)]
  exact heap_alloc_new w2.drew _
 have hlit:(litW w2 ks A c na).heap[w2.heap.size+1]? = some (.cells #[.slice A ks.length c,.slice (some ⟨w2.heap.size,0,none⟩) na na] 90 (0,0)):=by
  have:=heap_alloc_new (w2.drew.alloc (.cells (List.replicate na (Value.slice none 0 0)).toArray 38)) (.cells #[.slice A ks.length c,.slice (some ⟨w2.heap.size,0,none⟩) na na] 90);unfold litW
  simpa using this
 have hkW:KeyOff (litW w2 ks A c na) B (T.put w2.heap.size (gs.length+1,1)) gs.length A c ks:=by
  have h1:KeyOff w2 B T gs.length A c ks:=hk.same hz2 fun k _ h3 h4=>e2 k h3 (by intro e;rw[e,h.mB.2]at h4;simp at h4)
  refine⟨fun h0 => ?_,h1.room⟩
  obtain⟨b,off,hA,b1,b2,b3,b4⟩:=h1.at_ h0;exact⟨b,off,hA,b1,by rw[Tags.put_lt b3];exact b2,by omega,fun i hi=>cells_block (b4 i hi) (hbW.block b b3)⟩
 have hpW:GpAt (litW w2 ks A c na) B (T.put w2.heap.size (gs.length+1,1)) gs.length (newG ks A c w2.heap.size na):=by
  refine⟨hkW.at_,hkW.room,⟨by show B≤w2.heap.size;omega,Tags.put_at⟩,?_,fun i hi => ?_⟩
  ·show(litW w2 ks A c na).heap[w2.heap.size]? = _
   rw[hrow]
   simp[newG]
  ·have e:(newG ks A c w2.heap.size na).vs[i]=(.slice none 0 0,[]):=by simp[newG]
   rw[e];exact⟨OwnV.nil _ _,fun k hk=>by simp[Value.ownBlock]at hk⟩
 have hlen:(newG ks A c w2.heap.size na).vs.length=na:=by simp[newG]
 obtain⟨v',w4,r1,r2,r3,r4⟩:=ownG_app 85 85 Tryz.underlying85 hgW.own (newG ks A c w2.heap.size na) (w2.heap.size+1) (by rw[Lib.cell_of_heap hlit];rfl) (by rw[Lib.cell_of_heap hlit,hlen];rfl) hm (by omega)
 have hg4:=hgW.more hpW r2 r3 r4;have htag:=hgW.tag;have tgb:(T.put w2.heap.size (gs.length+1,1)) gb=(0,2):=by rw[Tags.put_lt (by omega)];exact h.bB.2
 have tmb:(T.put w2.heap.size (gs.length+1,1)) mb=(0,1):=by rw[Tags.put_lt (by omega)];exact h.mB.2
 have e4:∀ k,k < (litW w2 ks A c na).heap.size→(T.put w2.heap.size (gs.length+1,1)) k≠(0,0)→w4.heap[k]? = (litW w2 ks A c na).heap[k]? := fun k hk hne=>r3.block k hk (fun e=>hne (htag k e.symm))
 have hbox4:w4.heap[gb]? = some (.cells #[lv,.map (some mb)] 120 (0,0)):=by
  rw[e4 gb (by omega) (by rw[tgb];simp),hbW.block gb (by omega)];exact hbox2
 have hz4:=r3.size;have hzs:(w4.setCell ⟨gb,0,none⟩ v').heap.size=w4.heap.size:=by simp
 have hBl4:Below B w1 w4:=by
  have b1:Below B w1 w2:=(Below.refl B w1).grown hg2 hB (fun k hk=>by injection hk with hk;rw[←hk];exact h.mB.1)
  exact(b1.trans (hbW.mono (by omega))).grown r3 (by omega) (fun k hk=>(hgW.own.lt k hk).1)
 refine⟨hbox2,v',w4,r1,hbox4,?_,⟨(T.put w2.heap.size (gs.length+1,1)).put (litW w2 ks A c na).heap.size (0,0),⟨⟨v',set_box hbox4,?_⟩,⟨h.bB.1,?_⟩,⟨h.mB.1,?_⟩,⟨D.put (.string (f ks)) (placeD gs.length),?_,?_⟩⟩,fun k hk => ?_⟩,fun k h1 h3 h4 => ?_,hBl4.setCell (p:=⟨gb,0,none⟩) h.bB.1 _,h.bB.1,by rw[hzs];omega⟩
 ·obtain⟨A',c',e,-⟩:=hg4.shape
  rw[List.length_append,List.length_cons,List.length_nil]at e;rcases hg4.own.2 with ⟨hv,h0⟩ | ⟨g,cap,cur,hv,_⟩
  ·simp at h0
  ·rw[List.length_append,List.length_cons,List.length_nil]at hv
   exact⟨g,cap,hv⟩
 ·refine hg4.same (by rw[hzs];exact Nat.le_refl _) fun k _ h3 h4 h5=>heap_set_other _ _ _ (show k≠gb from fun e => ?_)
  subst e;have:((T.put w2.heap.size (gs.length+1,1)).put (litW w2 ks A c na).heap.size (0,0)) k=(0,2):=by rw[Tags.put_lt (by omega)];exact tgb
  rw[this]at h5
  simp at h5
 ·rw[Tags.put_lt (by omega)];exact tgb
 ·rw[Tags.put_lt (by omega)];exact tmb
 ·rw[List.length_append,List.length_cons,List.length_nil]
  refine ownM_same hown2 ?_;rw[heap_set_other _ _ _ (show mb≠gb from fun e=>hgm e.symm),e4 mb (by omega) (by rw[tmb];simp),hbW.block mb (by omega)]
 ·rw[List.map_append,List.map_cons,List.map_nil]
  have:=hD.put hDm (f ks) hn;rw[List.length_map]at this;exact this
 ·rw[Tags.put_lt (by omega),Tags.put_lt (by omega)]
 ·have hne1:k≠mb:=fun e=>h4 (by rw[e,h.mB.2];exact⟨Nat.zero_le _,fun _=>by decide⟩)
  have hne2:k≠gb:=fun e=>h4 (by rw[e,h.bB.2];exact⟨Nat.zero_le _,fun _=>by decide⟩)
  rw[heap_set_other _ _ _ hne2,e4 k (by omega) (by rw[Tags.put_lt (by omega)];intro e;exact h4 (by rw[e];exact⟨Nat.zero_le _,fun _=>by decide⟩)),hbW.block k (by omega),e2 k h3 hne1]
end Go.Proofs.YtcicpjgnpcnnmaaGreatDoor
namespace Go.Proofs.YtcicpjgnpcnnmaaGreatDoor
open Go.RowKit Go.Maps Go.WideMaps
theorem zero3T(w:World):(zeroValue 3).run Tryz.prog w = .ok (.int .i64 0) w:=by kernel_rfl
def txP(l:List Gp):List (List UInt8):=l.map fun g=>rtx g.ks
def grAt(l:List Gp)(ks:List BV.V)(na:Nat):List Gp:=if rtx ks∈txP l then l else l ++ [⟨ks,List.replicate na []⟩]
def grPl(l:List Gp)(ks:List BV.V):Nat:=(txP l).idxOf (rtx ks)
theorem txP_plain(gs:List Gx):txP (gs.map Gx.plain)=gs.map fun g=>rtx g.ks:=by
 unfold txP;rw[List.map_map]
 rfl
theorem newG_plain(ks:List BV.V)(A:Option Addr)(c vb na:Nat):(newG ks A c vb na).plain=⟨ks,List.replicate na []⟩:=by
 unfold newG Gx.plain;rw[List.map_replicate]
structure Kept(w w':World)(B:Nat)(T T':Tags)(n:Nat):Prop where
 tags:∀ k,k < w.heap.size→T' k=T k
 other:∀ k,B≤k→k < w.heap.size→¬Used n (T k)→w'.heap[k]? = w.heap[k]?
 below:Below B w w'
 size:w.heap.size≤w'.heap.size
def AtPost(w:World)(B:Nat)(T:Tags)(gb mb:Nat)(gs:List Gx)(ks:List BV.V)(na:Nat)(q:Ending)(w':World):Prop :=
 ∃ (T':Tags) (gs':List Gx) (g:Nat),q = .returned (.pointer (some ⟨g,grPl (gs.map Gx.plain) ks*2,none⟩))∧Hid (St w' B T' gb mb rtx gs')∧Hid (gs'.map Gx.plain=grAt (gs.map Gx.plain) ks na)∧Hid (∃ c,w'.heap[gb]? = some (.cells #[.slice (some ⟨g,0,none⟩) gs'.length c,.map (some mb)] 120 (0,0)))∧Hid (Kept w w' B T T' gs.length)
theorem at_any(w:World)(B:Nat)(T:Tags)(gb mb:Nat)(gs:List Gx)(hst:St w B T gb mb rtx gs)(ks:List BV.V)(A:Option Addr)(c na:Nat)(hk:KeyOff w B T gs.length A c ks)(hE:BV.Env w)(hl:ks.length≤100000)(hok:∀ v∈ks,v.ok)(hm:gs.length≤1000000)(hna:na≤2000)(hB:B≤w.heap.size) :
  Calls Tryz.prog 75 #[.pointer (some ⟨gb,0,none⟩),.slice A ks.length c,.int .i64 (na:Int)] w (AtPost w B T gb mb gs ks na):=by
 have HT:=Hi (text_any ks A c w hk.row hE hl hok);obtain⟨lv,hbox,hgs⟩:=hst.box;obtain⟨D,hD1,hD2⟩:=hst.map;obtain⟨A0,c0,rfl,hn0⟩:=hgs.shape
 have hlen:(rtx ks).length≤100000000000000:=by
  have h1:=rtx_len ks hok;have h2:ks.length*2000022≤100000*2000022:=Nat.mul_le_mul_right _ hl
  omega
 have HKEY:Hid (keyOf Tryz.prog 9 (.string ⟨(rtx ks).toArray⟩)=some (.string (rtx ks))):=Hi (by
  have:=keyOf_string_mk (s:=⟨(rtx ks).toArray⟩) Tryz.underlying9 (by unfold maxLen;simp[ByteArray.size];omega)
  simpa using this)
 obtain⟨n,hn⟩:∃ n,n=gs.length:=⟨_,rfl⟩;have HN:=Hi hn;have hnm:n < maxLen:=by unfold maxLen;omega
 by_cases hin:rtx ks∈gs.map fun g=>rtx g.ks
 ·obtain⟨p,hp⟩:∃ p,grPl (gs.map Gx.plain) ks=p:=⟨_,rfl⟩
  have hp1:(gs.map fun g=>rtx g.ks).idxOf (rtx ks)=p:=by rw[←hp];unfold grPl;rw[txP_plain]
  have hpl:p < (gs.map fun g=>rtx g.ks).length:=by rw[←hp1];exact List.idxOf_lt_length_iff.2 hin
  have hpg:p < n:=by rw[List.length_map]at hpl;omega
  have hpe:(gs.map fun g=>rtx g.ks)[p]=rtx ks:=by subst hp1;exact List.getElem_idxOf hpl
  have HC:Hid (∀ cc:Int,D.atKey (.string (rtx ks)) (.lit (.int .i64 0)) = .lit (.int .i64 cc)→cc=(p:Int)):=Hi fun cc h=>by
   have h2:=hD2.2 p hpl (.lit (.int .i64 0));rw[hpe]at h2;rw[h2]at h;unfold placeD at h
   injection h with h
   injection h with _ h
   exact h.symm
  have hhas:has D (.string (rtx ks))=true:=by rw[hD2.1];simpa using hin
  have HFIN:Hid (∀ w1 g0,A0=some ⟨g0,0,none⟩→Below w.heap.size w w1→AtPost w B T gb mb gs ks na (.returned (.pointer (some ⟨g0,p*2,none⟩))) w1):=Hi fun w1 g0 hA hb=>by
   refine⟨T,gs,g0,by rw[hp],Hi (hst.later hb),Hi ?_,Hi ⟨c0,?_⟩,Hi ⟨fun _ _=>rfl,fun k _ h2 _=>hb.block k h2,hb.mono hB,hb.size⟩⟩
   ·unfold grAt;rw[txP_plain,if_pos hin]
   ·rw[hb.block gb hst.lt.1,hbox,hA]
  have HDM:=Hi (fun w1 (hb:Below w.heap.size w w1)=>ownM_same hD1 (hb.block mb hst.lt.2))
  have hgl:=hst.lt.1;obtain⟨g0,cc0,hA0,-,-,-,-,-,-⟩:=hgs.cells p (by omega)
  injection hA0 with hA0 _ _
  subst hA0;have hcell0:w.cell? ⟨gb,0,none⟩=some (.slice (some ⟨g0,0,none⟩) n c0):=by rw[Lib.cell_of_heap hbox,hn];rfl
  have hcell1:w.cell? ⟨gb,1,none⟩=some (.map (some mb)):=by rw[Lib.cell_of_heap hbox];rfl
  rw[←hn]at HDM;generalize rtx ks=s at *;clear hst hbox hgs hD1 hD2 hk hE hok hin hp1 hpl hpe hp hlen hn0 hl HN;go_enter Tryz.func75,Tryz.ntmps75;go_wp2_with fail;refine(HT.out).mono ?_;rintro q w1 ⟨rfl,b1⟩;have c1:=(b1.cell (p:=⟨gb,0,none⟩) hgl).trans hcell0;have c2:=(b1.cell (p:=⟨gb,1,none⟩) hgl).trans hcell1;have HM:=Hi (HDM.out w1 b1);have HF:=Hi (HFIN.out w1 g0 rfl b1);have hpz:(p:Int) < (n:Int):=by omega
  clear hcell0 hcell1 b1 HDM HFIN HT
  go_wp2_with (at_lookup;refine wpList_lookup_own_ok_int _ rfl _ _ 118 rfl 9 3 .i64 lawT Tryz.underlying118 Tryz.underlying3 (zero3T _) mb n D rfl HM.out _ _ rfl HKEY.out ?_;intro cc hat hwc;obtain rfl:=HC.out cc hat;clear hat hwc)
  go_ret
  exact HF.out
 ·have hhas:has D (.string (rtx ks))=false:=by rw[hD2.1];simpa using hin
  have hp:grPl (gs.map Gx.plain) ks=n:=by
   unfold grPl;rw[txP_plain,List.idxOf_eq_length hin,List.length_map,hn]
  rw[show AtPost w B T gb mb gs ks na=AtPost w B T gb mb gs ks na from rfl]
  have HAD:=Hi (fun w1 w2 (hb:Below w.heap.size w w1) (h2:w2.ownsMap Tryz.prog 9 (plainElem Tryz.prog 3) mb (gs.length+1) (D.put (.string (rtx ks)) (placeD gs.length))) (h3:w1.grownBy w2 (some mb))=>St.adds (hst.later hb) ((hb.block gb hst.lt.1).trans hbox) (hgs.later hb) hD2 (World.ownsMap.isMap hD1) ks A c na (hk.same hb.size fun k _ h _=>hb.block k h) hin h2 h3 hm (Nat.le_trans hB hb.size))
  have HFIN:Hid (∀ w1 w2 w5 g cc T',Below w.heap.size w w1→St w5 B T' gb mb rtx (gs ++ [newG ks A c w2 na])→(∀ k,k < w1.heap.size→T' k=T k)→(∀ k,B≤k→k < w1.heap.size→¬Used n (T k)→w5.heap[k]? = w1.heap[k]?)→Below B w1 w5→w1.heap.size≤w5.heap.size→w5.heap[gb]? = some (.cells #[.slice (some ⟨g,0,none⟩) (n+1) cc,.map (some mb)] 120 (0,0))→AtPost w B T gb mb gs ks na (.returned (.pointer (some ⟨g,n*2,none⟩))) w5):=Hi fun w1 w2 w5 g cc T' hb h1 h2 h3 h4 h5 h6=>by
   refine⟨T',_,g,by rw[hp],Hi h1,Hi ?_,Hi ⟨cc,?_⟩,Hi ⟨fun k hk=>h2 k (by have:=hb.size;omega),fun k a1 a2 a3=>(h3 k a1 (by have:=hb.size;omega) (by rw[hn];exact a3)).trans (hb.block k a2),(hb.mono hB).trans h4,Nat.le_trans hb.size h5⟩⟩
   ·unfold grAt;rw[txP_plain,if_neg hin,List.map_append,List.map_cons,List.map_nil,newG_plain]
   ·rw[h6,List.length_append,List.length_cons,List.length_nil,hn]
  have HDM:=Hi (fun w1 (hb:Below w.heap.size w w1)=>ownM_same hD1 (hb.block mb hst.lt.2))
  have hgl:=hst.lt.1;have hgB:=hst.bB.1;have hcell0:w.cell? ⟨gb,0,none⟩=some (.slice A0 n c0):=by rw[Lib.cell_of_heap hbox,hn];rfl
  have hcell1:w.cell? ⟨gb,1,none⟩=some (.map (some mb)):=by rw[Lib.cell_of_heap hbox];rfl
  have HVAL:Hid (plainElem (H:=Unit) Tryz.prog 3 (.int .i64 (n:Int))=some (placeD n,[])):=Hi (plainElem_int Tryz.underlying3 (WalkArith.wf_i64 (by omega)))
  unfold litW at HAD;rw[←hn]at HDM HAD;obtain⟨s,hs⟩:∃ s,s=rtx ks:=⟨_,rfl⟩;obtain⟨kl,hkl⟩:∃ kl,kl=ks.length:=⟨_,rfl⟩;rw[←hs]at HT HKEY hhas HAD;rw[←hkl]at HT HAD ⊢;generalize hPO:AtPost w B T gb mb gs ks na=PO at *;clear hst hbox hgs hD1 hD2 hk hE hok hin hp hlen hn0 hl HN hPO hn hs hkl;go_enter Tryz.func75,Tryz.ntmps75;go_wp2_with fail;refine(HT.out).mono ?_;rintro q w1 ⟨rfl,b1⟩;have c1:=(b1.cell (p:=⟨gb,0,none⟩) hgl).trans hcell0;have c2:=(b1.cell (p:=⟨gb,1,none⟩) hgl).trans hcell1;have HM:=Hi (HDM.out w1 b1);have HB1:=Hi b1;clear hcell0 hcell1 b1 HDM HT
  go_wp2_with (first
   | (at_lookup;refine wpList_lookup_own_ok_int _ rfl _ _ 118 rfl 9 3 .i64 lawT Tryz.underlying118 Tryz.underlying3 (zero3T _) mb n D rfl HM.out _ _ rfl HKEY.out ?_;intro cc hat hwc;clear hat hwc)
   | (at_mapUpdate;refine wpList_mapUpdate_own _ rfl _ _ _ 118 rfl 9 3 lawT Tryz.underlying118 (plainElem Tryz.prog 3) mb n D rfl HM.out hnm _ _ _ rfl rfl HKEY.out (placeD n) [] HVAL.out ?_;intro w2 hown2 hgrow2;have AD:=Hi (HAD.out w1 w2 HB1.out hown2 hgrow2);clear hown2 hgrow2))
  obtain⟨hbox2,v',w4,hrun,hbox4,⟨g,cc',rfl⟩,⟨T',hst',hT'⟩,hoth,hbel,hBg,hsz⟩:=AD.out;have hgl2:gb < w2.heap.size:=(Array.getElem?_eq_some_iff.1 hbox2).1;have d0:w2.cell? ⟨gb,0,none⟩=some (.slice A0 n c0):=by rw[Lib.cell_of_heap hbox2];rfl
  have d4:w4.cell? ⟨gb,0,none⟩=some (.slice A0 n c0):=by rw[Lib.cell_of_heap hbox4];rfl
  have f4:w4.frozen? ⟨gb,0,none⟩=false:=Lib.frozen_of_heap hbox4 0;have hmk:=made_lists na (by omega) w2.drew
  simp only[World.size_drew]at hmk;have e5:(w4.setCell ⟨gb,0,none⟩ (.slice (some ⟨g,0,none⟩) (n+1) cc')).cell? ⟨gb,0,none⟩=some (.slice (some ⟨g,0,none⟩) (n+1) cc'):=by rw[Lib.cell_of_heap (set_box hbox4)];rfl
  have HF:=Hi (HFIN.out w1 w2.heap.size _ g cc' T' HB1.out hst' hT' hoth hbel hsz (set_box hbox4));clear hst' hT' hoth hbel hsz AD HFIN HAD c1 c2 HM HB1 HVAL HKEY hhas hbox2 hbox4
  go_region_law (first
   | (refine step_append_runV _ ?_ (.tmp 38) (.tmp 43) 85 85 ?_ _ _ ?_ ?_ hrun ?_;rfl;rfl;rfl;rfl))
  all_goals (clear hrun hmk d0 d4;go_wp2_with fail;exact HF.out)
end Go.Proofs.YtcicpjgnpcnnmaaGreatDoor
