import Derived.Test.YtcicpjgnpcnnmaaGreatDoorQ33
import Derived.Test.YtcicpjgnpcnnmaaGreatDoorQ31
set_option maxRecDepth 100000
set_option maxHeartbeats 4000000
set_option linter.unusedSimpArgs false
set_option linter.unusedVariables false
namespace Go.Proofs.YtcicpjgnpcnnmaaGreatDoor
open Go.RowKit Go.Maps
def putP(l:List Gp)(p i:Nat)(v:BV.V):List Gp:=if v.k=0 then l else match l[p]? with
 | none=>l
 | some g=>match g.vs[i]? with
  | none=>l
  | some xs=>l.set p ⟨g.ks,g.vs.set i (xs ++ [v])⟩
def putsP(p:Nat):List Gp→Nat→List BV.V→List Gp
 | l,_,[]=>l
 | l,i,v::ys=>putsP p (putP l p i v) (i+1) ys
def rowP(na:Nat)(l:List Gp)(x:List BV.V×List BV.V):List Gp:=putsP (grPl l x.1) (grAt l x.1 na) 0 x.2
def grpP(na:Nat)(l:List Gp)(ps:List (List BV.V×List BV.V)):List Gp:=ps.foldl (rowP na) l
theorem putsP_snoc(p:Nat)(l:List Gp)(ys:List BV.V)(v:BV.V)(i:Nat):putsP p l i (ys ++ [v])=putP (putsP p l i ys) p (i+ys.length) v:=by
 induction ys generalizing l i with
 | nil=>rfl
 | cons a ys ih =>
  simp only[List.cons_append,putsP,List.length_cons];rw[ih]
  congr 1
  omega
theorem putsP_next(p:Nat)(l:List Gp){ys:List BV.V}{k:Nat}(h:k < ys.length):putsP p l 0 (ys.take (k+1))=putP (putsP p l 0 (ys.take k)) p k ys[k]:=by
 rw[List.take_succ_eq_append_getElem h,putsP_snoc,List.length_take]
 congr 1
 omega
theorem grpP_next(na:Nat)(l:List Gp){ps:List (List BV.V×List BV.V)}{k:Nat}(h:k < ps.length):grpP na l (ps.take (k+1))=rowP na (grpP na l (ps.take k)) ps[k]:=by
 unfold grpP;rw[List.take_succ_eq_append_getElem h,List.foldl_append]
 rfl
def Wd(l:List Gp)(na m n:Nat):Prop:=l.length≤n∧∀ g∈l,g.vs.length=na∧∀ xs∈g.vs,xs.length≤m
theorem wd_at{l:List Gp}{na m n:Nat}(h:Wd l na m n)(ks:List BV.V):Wd (grAt l ks na) na m (n+1):=by
 unfold grAt
 split
 ·exact⟨Nat.le_succ_of_le h.1,h.2⟩
 ·refine⟨by rw[List.length_append];simp;exact h.1,fun g hg => ?_⟩
  rcases List.mem_append.1 hg with hg | hg
  ·exact h.2 g hg
  ·rw[List.mem_singleton]at hg
   subst hg;refine⟨by simp,fun xs hx => ?_⟩
   rw[List.eq_of_mem_replicate hx];exact Nat.zero_le _
theorem wd_put{l:List Gp}{na m n:Nat}(h:Wd l na m n)(p i:Nat)(v:BV.V):Wd (putP l p i v) na (m+1) n:=by
 have h':Wd l na (m+1) n:=⟨h.1,fun g hg=>⟨(h.2 g hg).1,fun xs hx=>Nat.le_succ_of_le ((h.2 g hg).2 xs hx)⟩⟩
 unfold putP
 split
 ·exact h'
 split
 ·exact h'
 rename_i g hg
 split
 ·exact h'
 rename_i xs hx
 refine⟨by rw[List.length_set];exact h.1,fun g2 hg2 => ?_⟩
 rcases List.mem_or_eq_of_mem_set hg2 with h2 | h2
 ·exact h'.2 g2 h2
 ·subst h2
  have hgm:=h.2 g (List.mem_of_getElem? hg);refine⟨by rw[List.length_set];exact hgm.1,fun zs hy => ?_⟩
  rcases List.mem_or_eq_of_mem_set hy with h3 | h3
  ·exact Nat.le_succ_of_le (hgm.2 zs h3)
  ·subst h3
   have:=hgm.2 xs (List.mem_of_getElem? hx);rw[List.length_append]
   simp
   exact this
theorem wd_puts(p:Nat)(na n:Nat):∀ (ys:List BV.V)(l:List Gp)(i m:Nat),Wd l na m n→Wd (putsP p l i ys) na (m+ys.length) n
 | [],l,i,m,h=>h
 | v::ys,l,i,m,h=>by
  have:=wd_puts p na n ys _ (i+1) (m+1) (wd_put h p i v);unfold putsP;rw[List.length_cons,show m+(ys.length+1)=m+1+ys.length by omega]
  exact this
theorem wd_row{l:List Gp}{na m n:Nat}(h:Wd l na m n)(x:List BV.V×List BV.V):Wd (rowP na l x) na (m+x.2.length) (n+1):=wd_puts _ _ _ _ _ _ _ (wd_at h _)
theorem wd_grp(na q:Nat):∀ (ps:List (List BV.V×List BV.V))(l:List Gp)(m n:Nat),(∀ x∈ps,x.2.length=q)→Wd l na m n→Wd (grpP na l ps) na (m+ps.length*q) (n+ps.length)
 | [],l,m,n,_,h=>by simpa [grpP]using h
 | x::ps,l,m,n,hq,h=>by
  have h1:=wd_row h x;rw[hq x (by simp)]at h1
  have h2:=wd_grp na q ps _ _ _ (fun y hy=>hq y (by simp[hy])) h1
  have e:grpP na l (x::ps)=grpP na (rowP na l x) ps:=rfl;rw[e,List.length_cons,show m+(ps.length+1)*q=m+q+ps.length*q by rw[Nat.add_mul];omega,show n+(ps.length+1)=n+1+ps.length by omega]
  exact h2
theorem grPl_lt(l:List Gp)(ks:List BV.V)(na:Nat):grPl l ks < (grAt l ks na).length:=by
 unfold grPl grAt
 split
 ·rename_i h
  have:=List.idxOf_lt_length_iff.2 h;unfold txP at this ⊢
  simpa using this
 ·rename_i h
  rw[List.idxOf_eq_length h];unfold txP
  simp
theorem puts_len(p:Nat):∀ (ys:List BV.V)(l:List Gp)(i:Nat),(putsP p l i ys).length=l.length
 | [],_,_=>rfl
 | v::ys,l,i=>by
  unfold putsP;rw[puts_len p ys];unfold putP
  split
  ·rfl
  split
  ·rfl
  split
  ·rfl
  ·rw[List.length_set]
theorem putP_none(l:List Gp)(p i:Nat)(v:BV.V)(h:v.k=0):putP l p i v=l:=by unfold putP;rw[if_pos h]
theorem plain_put{gs:List Gx}{p i:Nat}(hp:p < gs.length)(hi:i < gs[p].vs.length)(v:BV.V)(hv:v.k≠0)(v':Value):(gs.set p { gs[p]with vs:=gs[p].vs.set i (v',gs[p].vs[i].2 ++ [v]) }).map Gx.plain=putP (gs.map Gx.plain) p i v:=by
 unfold putP;rw[if_neg hv,List.getElem?_map,List.getElem?_eq_getElem hp];simp only[Option.map_some]
 have e:(gs[p].plain).vs[i]? = some gs[p].vs[i].2:=by
  unfold Gx.plain
  simp[List.getElem?_eq_getElem hi]
 rw[e];simp only[List.map_set]
 congr 1
 unfold Gx.plain
 simp[List.map_set]
theorem wd_gx{gs:List Gx}{na m n p:Nat}(h:Wd (gs.map Gx.plain) na m n)(hp:p < gs.length):gs[p].vs.length=na∧∀ i (hi:i < gs[p].vs.length),gs[p].vs[i].2.length≤m:=by
 obtain⟨h1,h2⟩:=h.2 gs[p].plain (List.mem_map.2 ⟨_,List.getElem_mem hp,rfl⟩);unfold Gx.plain at h1 h2;refine⟨by simpa using h1,fun i hi=>h2 _ (List.mem_map.2 ⟨_,List.getElem_mem hi,rfl⟩)⟩
theorem St.at_box{w:World}{B:Nat}{T:Tags}{gb mb:Nat}{f:List BV.V→List UInt8}{gs:List Gx}{lv:Value}(h:St w B T gb mb f gs)(hb:w.heap[gb]? = some (.cells #[lv,.map (some mb)] 120 (0,0))):GsAt w B T lv gs:=by
 obtain⟨lv',h1,h2⟩:=h.box;rw[h1]at hb;simp only[Option.some.injEq,Obj.cells.injEq,and_true]at hb
 have:lv'=lv:=by
  have:=congrArg (fun a:Array Value=>a[0]?) hb
  simpa using this
 rw[←this];exact h2
theorem ownV_form{w:World}{B:Nat}{v:Value}{xs:List BV.V}(h:OwnV w B v xs)(h0:0 < xs.length):∃ g c,v = .slice (some ⟨g,0,none⟩) xs.length c∧B≤g∧g < w.heap.size:=by
 rcases h.2 with ⟨hv,h1⟩ | ⟨g,cap,cur,hv,hB,hg,_⟩
 ·omega
 ·exact⟨g,cap,hv,hB,(Array.getElem?_eq_some_iff.1 hg).1⟩
theorem St.puts{W:World}{B:Nat}{T:Tags}{gb mb:Nat}{f:List BV.V→List UInt8}{gs:List Gx}{lv:Value}(h:St W B T gb mb f gs)(hbox:W.heap[gb]? = some (.cells #[lv,.map (some mb)] 120 (0,0))){p i:Nat}(hp:p < gs.length)(hi:i < gs[p].vs.length)(v:BV.V)(hm:gs[p].vs[i].2.length≤2000000)(hB:B≤W.heap.size) :
  ∃ v' w4,(Builtin.append_ #[38,38] 38 #[gs[p].vs[i].1,.slice (some ⟨W.heap.size,0,none⟩) 1 1]).run Tryz.prog (W.drew.alloc (.cells #[.int .i64 v.k,.int .i64 v.i,.string v.s] 26)) = .ok v' w4∧w4.heap[gs[p].vb]? = some (.cells (gs[p].vs.map (·.1)).toArray 38 (0,0))∧W.heap[gs[p].vb]? = some (.cells (gs[p].vs.map (·.1)).toArray 38 (0,0)) ∧
   (∃ T',St (w4.setCell ⟨gs[p].vb,i,none⟩ v') B T' gb mb f (gs.set p { gs[p]with vs:=gs[p].vs.set i (v',gs[p].vs[i].2 ++ [v]) })∧∀ k,k < W.heap.size→T' k=T k)∧(∀ k,k < W.heap.size→(T k).1=0→w4.heap[k]? = W.heap[k]?)∧(∀ k,k < W.heap.size→(T k).1=0→(w4.setCell ⟨gs[p].vb,i,none⟩ v').heap[k]? = W.heap[k]?)∧Below B W (w4.setCell ⟨gs[p].vb,i,none⟩ v')∧Below B W w4∧(∃ (A:Option Addr) (n c:Nat),v' = .slice A n c):=by
 obtain⟨WL,hWL⟩:∃ WL:World,WL=W.drew.alloc (.cells #[.int .i64 v.k,.int .i64 v.i,.string v.s] 26):=⟨_,rfl⟩;have hbL:Below W.heap.size W WL:=by rw[hWL];exact((Below.refl _ _).drew).alloc (by show W.heap.size≤W.drew.heap.size;exact Nat.le_refl _) _
 have hzL:WL.heap.size=W.heap.size+1:=by rw[hWL];simp
 have hL:=h.later hbL;have hboxL:=(hbL.block gb h.lt.1).trans hbox;have hgs:=h.at_box hbox;have hgL:=hL.at_box hboxL;obtain⟨ho,ht⟩:=(hgL.each p hp).own i hi;have hq:SC.VBox WL W.heap.size v:=by rw[hWL];exact SC.VBox.made W.drew v
 have hr:BV.RowAt WL WL.heap.size (some ⟨W.heap.size,0,none⟩) [v]:=fun _=>⟨W.heap.size,0,rfl,by omega,fun j hj=>by
  have:j=0:=by simpa using hj
  subst this;obtain⟨a,b,c⟩:=hq.cells;exact⟨by simpa using a,by simpa using b,by simpa using c⟩⟩
 obtain⟨v',w4,r1,r2,r3,r4⟩:=ownV_app 38 38 Tryz.underlying38 ho [v] (some ⟨W.heap.size,0,none⟩) 1 hr (by simp;omega) (by omega)
 obtain⟨hst,hkeep⟩:=hL.grow hp hi r2 r3 r4;have hvt:=(hgL.each p hp).vb.2;have hvl:gs[p].vb < WL.heap.size:=(hgL.each p hp).lt;have hvW:gs[p].vb < W.heap.size:=(hgs.each p hp).lt;have hne:some gs[p].vb≠gs[p].vs[i].1.ownBlock:=fun e=>by have:=ht _ e.symm;rw[hvt]at this;simp at this
 have hB4:Below B W w4:=((hbL.mono hB)).grown r3 (by omega) (fun k hk=>(ho.lt k hk).1)
 rw[←hWL];refine⟨v',w4,r1,(r3.block _ hvl (fun e=>hne e)).trans (hgL.each p hp).row,(hgs.each p hp).row,⟨_,hst,fun k hk=>Tags.put_lt (by omega)⟩,fun k hk h0 => ?_,fun k hk h0=>(hkeep k (by omega) h0).trans (hbL.block k hk),hB4.setCell (p:=⟨gs[p].vb,i,none⟩) (hgL.each p hp).vb.1 _,hB4,?_⟩
 ·exact(r3.block k (by omega) (fun e=>by have:=ht k e.symm;rw[this]at h0;simp at h0)).trans (hbL.block k hk)
 ·obtain⟨A,c,e,-⟩:=r2.shape
  exact⟨A,_,c,e⟩
theorem St.puts2{W:World}{B:Nat}{T:Tags}{gb mb:Nat}{f:List BV.V→List UInt8}{gs:List Gx}{lv:Value}(h:St W B T gb mb f gs)(hbox:W.heap[gb]? = some (.cells #[lv,.map (some mb)] 120 (0,0))){p i:Nat}(hp:p < gs.length)(hi:i < gs[p].vs.length)(v:BV.V)(hm:gs[p].vs[i].2.length≤2000000)(hB:B≤W.heap.size)(hv:v.k≠0) :
  ∃ (v':Value) (w4:World) (GS:List Gx) (T':Tags),(Builtin.append_ #[38,38] 38 #[gs[p].vs[i].1,.slice (some ⟨W.heap.size,0,none⟩) 1 1]).run Tryz.prog (W.drew.alloc (.cells #[.int .i64 v.k,.int .i64 v.i,.string v.s] 26)) = .ok v' w4∧w4.heap[gs[p].vb]? = some (.cells (gs[p].vs.map (·.1)).toArray 38 (0,0))∧W.heap[gs[p].vb]? = some (.cells (gs[p].vs.map (·.1)).toArray 38 (0,0)) ∧
   St (w4.setCell ⟨gs[p].vb,i,none⟩ v') B T' gb mb f GS∧(∀ k,k < W.heap.size→T' k=T k)∧(∀ k,k < W.heap.size→(T k).1=0→w4.heap[k]? = W.heap[k]?)∧(∀ k,k < W.heap.size→(T k).1=0→(w4.setCell ⟨gs[p].vb,i,none⟩ v').heap[k]? = W.heap[k]?)∧Below B W (w4.setCell ⟨gs[p].vb,i,none⟩ v')∧GS.map Gx.plain=putP (gs.map Gx.plain) p i v∧GS.length=gs.length∧(∃ (A:Option Addr) (n c:Nat),v' = .slice A n c):=by
 obtain⟨v',w4,r1,r2,r3,⟨T5,r4,r5⟩,r6,r7,r8,-,r9⟩:=h.puts hbox hp hi v hm hB;exact⟨v',w4,_,T5,r1,r2,r3,r4,r5,r6,r7,r8,plain_put hp hi v hv v',by rw[List.length_set],r9⟩
end Go.Proofs.YtcicpjgnpcnnmaaGreatDoor
namespace Go.Proofs.YtcicpjgnpcnnmaaGreatDoor
open Go.RowKit
open SC (VBox)
theorem ownV_n{w:World}{B g n c:Nat}{xs:List BV.V}(h:OwnV w B (.slice (some ⟨g,0,none⟩) n c) xs):n=xs.length:=by
 rcases h.2 with ⟨hv,-⟩ | ⟨_,_,_,hv,-⟩
 ·cases hv
 ·injection hv
theorem ownV_free{w:World}{B g n c:Nat}{xs:List BV.V}(h:OwnV w B (.slice (some ⟨g,0,none⟩) n c) xs)(o:Nat):w.frozen? ⟨g,o,none⟩=false:=by
 obtain rfl:=ownV_n h;exact World.ownsRow.frozenAt h o
theorem ownV_cells{w:World}{B g n c:Nat}{xs:List BV.V}(h:OwnV w B (.slice (some ⟨g,0,none⟩) n c) xs)(k:Nat)(hk:k < xs.length):w.cell? ⟨g,k*3,none⟩=some (.int .i64 xs[k].k)∧w.cell? ⟨g,k*3+1,none⟩=some (.int .i64 xs[k].i)∧w.cell? ⟨g,k*3+2,none⟩=some (.string xs[k].s):=by
 obtain rfl:=ownV_n h;have e:=BV.flat_get xs k;unfold OwnV at h;refine⟨?_,?_,?_⟩
 ·rw[h.cellAt _ (by omega)];exact e 0 hk (by omega)
 ·rw[h.cellAt _ (by omega)];exact e 1 hk (by omega)
 ·rw[h.cellAt _ (by omega)];exact e 2 hk (by omega)
theorem ownV_set{w:World}{B g n c:Nat}{xs:List BV.V}(h:OwnV w B (.slice (some ⟨g,0,none⟩) n c) xs)(k:Nat)(v:BV.V)(hk:k < xs.length):OwnV (((w.setCell ⟨g,k*3,none⟩ (.int .i64 v.k)).setCell ⟨g,k*3+1,none⟩ (.int .i64 v.i)).setCell ⟨g,k*3+2,none⟩ (.string v.s)) B (.slice (some ⟨g,0,none⟩) n c) (xs.set k v):=by
 obtain rfl:=ownV_n h;have h1:=(World.ownsRow.stored h (k*3) (.int .i64 v.k)).1;have h2:=(World.ownsRow.stored h1 (k*3+1) (.int .i64 v.i)).1;have h3:=(World.ownsRow.stored h2 (k*3+2) (.string v.s)).1;unfold OwnV;rw[List.length_set,LG.flat_set xs k v hk];exact h3
theorem ownV_made(w:World)(n:Nat)(hn:n≤2000):OwnV (w.alloc (.cells (BV.flat (List.replicate n zW)).toArray 26)) w.heap.size (.slice (some ⟨w.heap.size,0,none⟩) n n) (List.replicate n zW) :=
 ⟨by rw[BV.flat_len],.inr ⟨w.heap.size,n,_,by rw[List.length_replicate],Nat.le_refl _,heap_alloc_new w _,by rw[List.length_replicate];exact Nat.le_refl _,by unfold maxLen;omega,by rw[List.size_toArray,BV.flat_len,List.length_replicate],by rw[List.length_replicate];simp only[List.take_of_length_le (show(BV.flat (List.replicate n zW)).length≤n*3 by rw[BV.flat_len,List.length_replicate];exact Nat.le_refl _)]⟩⟩
theorem putV_next{l:List BV.V}{k n:Nat}(hk:k < l.length)(hn:n=l.length):(l.take k++List.replicate (n - k) zW).set k l[k]=l.take (k+1)++List.replicate (n - (k+1)) zW:=by
 have h1:(l.take k).length=k:=by rw[List.length_take];omega
 rw[List.set_append_right _ _ (by omega),h1,Nat.sub_self,take_next hk]
 have h2:n - k=(n - (k+1))+1:=by omega
 rw[h2,List.replicate_succ,List.set_cons_zero,List.append_assoc]
 rfl
theorem set3k{B:Nat}{w W:World}{g:Nat}(h:Below B w W)(hg:B≤g)(i j k:Nat)(x y z:Value):Below B w (((W.setCell ⟨g,i,none⟩ x).setCell ⟨g,j,none⟩ y).setCell ⟨g,k,none⟩ z) :=
 ((h.setCell (p:=⟨g,i,none⟩) hg x).setCell (p:=⟨g,j,none⟩) hg y).setCell (p:=⟨g,k,none⟩) hg z
def Vals(w:World)(l:List Ans)(q:Ending)(w':World):Prop:=∃ v,q = .returned (.tuple #[v,.int .i64 (firstE (l.map (·.1)))])∧Hid (firstE (l.map (·.1))=0→OwnV w' w.heap.size v (l.map (·.2)))∧Hid (Below w.heap.size w w')
theorem first_at{l:List Ans}{k:Nat}(hk:k < l.length)(h0:∀ a∈l.take k,a.1=0)(h:¬l[k].1=0):firstE (l.map (·.1))=l[k].1:=by
 have h1:l=l.take k++l[k]::l.drop (k+1):=by rw[←List.drop_eq_getElem_cons hk,List.take_append_drop]
 have h2:firstE ((l.take k).map (·.1))=0:=firstE_zero.2 fun a ha=>by
  obtain⟨x,hx,rfl⟩:=List.mem_map.1 ha;exact h0 x hx
 conv=>lhs;rw[h1]
 rw[List.map_append,firstE_app,if_pos h2,List.map_cons];simp only[firstE];rw[if_neg h]
theorem vals_no{w W:World}{l:List Ans}{k:Nat}(hk:k < l.length)(h0:∀ a∈l.take k,a.1=0)(h:¬l[k].1=0)(hb:Below w.heap.size w W):Vals w l (.returned (.tuple #[.slice none 0 0,.int .i64 l[k].1])) W :=
 ⟨_,by rw[first_at hk h0 h],Hi fun h1=>absurd ((first_at hk h0 h).symm.trans h1) h,Hi hb⟩
theorem vals_yes{w W:World}{l:List Ans}(h0:∀ a∈l,a.1=0){v:Value}(ho:OwnV W w.heap.size v (l.map (·.2)))(hb:Below w.heap.size w W):Vals w l (.returned (.tuple #[v,.int .i64 0])) W:=by
 have h:firstE (l.map (·.1))=0:=firstE_zero.2 fun a ha=>by
  obtain⟨x,hx,rfl⟩:=List.mem_map.1 ha;exact h0 x hx
 exact⟨v,by rw[h],Hi fun _=>ho,Hi hb⟩
theorem values_any(r:List BV.V)(hr5:r.length≤100000)(es:List E)(v:Vl)(S:Nat→Prop)(w:World)(A B:Option Addr)(c d:Nat)(hsub:Sub S w (.mk [] v [] [] es) B d)(hr:BV.RowAt w w.heap.size A r)(hE:SC.Env w)(hf:∀ e∈es,e.fit deedP r)(hl:es.length≤2000) :
  Calls Tryz.prog 34 #[.slice B es.length d,.slice A r.length c] w (Vals w (es.map fun e=>e.ev deedP r)):=by
 obtain⟨hlc,hcm,hmem⟩:=hsub;have HM:=Hi hmem;obtain⟨l,hll⟩:∃ l,es.map (fun e=>e.ev deedP r)=l:=⟨_,rfl⟩
 obtain⟨n,hn⟩:∃ n,n=es.length:=⟨_,rfl⟩;have hln:l.length=n:=by rw[←hll,List.length_map,hn]
 have HEV:=Hi (fun k (hk:k < es.length) (x:Value) (W:World) (hx:EAt S W es[k] x) (hb:Below w.heap.size w W)=>evalE_any r hr5 es[k] x S W A c hx (hr.later hb) (hE.later hb) (hf _ (List.getElem_mem hk)))
 have HG:Hid (∀ k (hk:k < n),∃ (h1:k < es.length) (h2:k < l.length),es[k].ev deedP r=l[k]):=Hi fun k hk=>⟨by omega,by omega,by subst hll;simp⟩
 have HLN:=Hi hln;have hml:(l.map (·.2)).length=n:=by rw[List.length_map,hln]
 have HML:=Hi hml;have hmk:=made_zV n (by omega) w
 obtain⟨W1,hW1⟩:∃ W1:World,W1=w.alloc (.cells (BV.flat (List.replicate n zW)).toArray 26):=⟨_,rfl⟩;have hb1:Below w.heap.size w W1:=by rw[hW1];exact(Below.refl _ _).alloc (Nat.le_refl _) _
 have HO1:Hid (OwnV W1 w.heap.size (.slice (some ⟨w.heap.size,0,none⟩) n n) ((l.map (·.2)).take 0++List.replicate (n - 0) zW)):=Hi (by rw[hW1];simpa using ownV_made w n (by omega))
 rw[←hW1]at hmk;have HB1:=Hi hb1;rw[hll];rw[←hn]at hl ⊢;generalize r.length=rl at *;clear hmem hlc hcm hr hE hf hll hn hln hml hW1 hb1;go_enter Tryz.func34,Tryz.ntmps34;go_wp2_with fail
 go_loopw [16] (fun i wr=>∃ k:Nat,k≤n∧i = .int .i64 k∧Hid (∀ a∈l.take k,a.1=0)∧Hid (OwnV wr w.heap.size (.slice (some ⟨w.heap.size,0,none⟩) n n) ((l.map (·.2)).take k++List.replicate (n - k) zW))∧Hid (Below w.heap.size w wr)) (fun i _=>n - (intOf i).toNat)
 case atStart=>exact⟨0,Nat.zero_le _,rfl,Hi (by simp),HO1,HB1⟩
 case round =>
  obtain⟨k,hk,rfl,HC,HO,HB⟩:=hrel
  by_cases hlt:k < n
  ·obtain⟨hke,hkl,hkk⟩:=HG.out k hlt
   obtain⟨g,off,rfl,hS,hg,hl7⟩:=HM.out (by omega)
   obtain⟨A',c'',⟨g0,g1,g2,g3,g4,g5,g6⟩,hs⟩:=hl7.get k hke;have hkz:(k:Int) < (n:Int):=by omega
   have i0:=(HB.out.cell (p:=⟨g,off+k*7,none⟩) hg).trans g0;have i1:=(HB.out.cell (p:=⟨g,off+k*7+1,none⟩) hg).trans g1;have i2:=(HB.out.cell (p:=⟨g,off+k*7+2,none⟩) hg).trans g2;have i3:=(HB.out.cell (p:=⟨g,off+k*7+3,none⟩) hg).trans g3;have i4:=(HB.out.cell (p:=⟨g,off+k*7+4,none⟩) hg).trans g4;have i5:=(HB.out.cell (p:=⟨g,off+k*7+5,none⟩) hg).trans g5;have i6:=(HB.out.cell (p:=⟨g,off+k*7+6,none⟩) hg).trans g6;obtain⟨Wa,Wb,hWa,hWb,b1,b2,hz,hb1,hb2⟩:=made7 wr (.string (str es[k].op)) (.int .i64 es[k].v.k) (.int .i64 es[k].v.i) (.string (str es[k].v.s)) (.string (str es[k].tb)) (.string (str es[k].nm)) (.slice A' es[k].l.length c'');obtain⟨f10,f11,f12,f13,f14,f15,f16⟩:=b1.free;obtain⟨y10,y11,y12,y13,y14,y15,y16⟩:=b2.cells;obtain⟨p10,p11,p12,p13,p14,p15,p16⟩:=b1.cells
   have hE:EAt S Wb es[k] (eVal es[k].op es[k].v es[k].tb es[k].nm (.slice A' es[k].l.length c'')):=by
    have h0:EAt S w es[k] (eVal es[k].op es[k].v es[k].tb es[k].nm (.slice A' es[k].l.length c'')):=⟨A',c'',rfl,hs⟩;exact(h0.later HB.out).later hb2
   have HCE:=Hi (HEV.out k hke _ Wb hE (bthen HB.out hb2));rw[hkk]at HCE;have HTN:Hid (l.take (k+1)=l.take k ++ [l[k]]):=Hi (take_next hkl);have hkm:k < (l.map (·.2)).length:=by rw[HML.out];exact hlt
   have HPN:=Hi (putV_next (n:=n) hkm HML.out.symm);rw[List.getElem_map]at HPN;have HNO:=Hi (fun W (h:¬l[k].1=0) (hb:Below w.heap.size w W)=>vals_no hkl HC.out h hb)
   have HBb:=Hi (bthen HB.out hb2);have HOb:=Hi (HO.out.later hb2);have HWa:=Hi hWa;have HWb:=Hi hWb;unfold eVal vA at HCE;generalize str es[k].op=bo' at *;generalize str es[k].tb=bt' at *;generalize str es[k].nm=bn' at *;generalize str es[k].v.s=bs' at *;generalize es[k].v.k=vk' at *;generalize es[k].v.i=vi' at *;generalize es[k].l.length=ln' at *;generalize l[k]=an at *;obtain⟨er,uk,ui,us⟩:=an;clear hkk hWa hWb hs hl7 hE g0 g1 g2 g3 g4 g5 g6 b1 b2 hb1 hb2 hz HB HO HEV HM HG hkl hkm;dsimp only at HCE HPN HNO
   go_wp2_with (first | (rw[←HWb.out]) | (rw[←HWa.out]))
   refine(HCE.out).mono ?_;rintro e w3 ⟨rfl,b3⟩;obtain⟨W4,hW4⟩:∃ W4:World,W4=w3.alloc (.cells #[.int .i64 uk,.int .i64 ui,.string us] 26):=⟨_,rfl⟩;have b4:Below w3.heap.size w3 W4:=by rw[hW4];exact(Below.refl _ _).alloc (Nat.le_refl _) _
   have v4:VBox W4 w3.heap.size ⟨uk,ui,us⟩:=by rw[hW4];exact VBox.made w3 ⟨uk,ui,us⟩
   obtain⟨m0,m1,m2⟩:=v4.cells;have HB4:=Hi (bthen HBb.out (bthen b3 b4));have HO4:=Hi (HOb.out.later (bthen b3 b4));have HW4:=Hi hW4;dsimp only at m0 m1 m2;clear b3 b4 v4 hW4 HCE HBb HOb y10 y11 y12 y13 y14 y15 y16 f10 f11 f12 f13 f14 f15 f16 p10 p11 p12 p13 p14 p15 p16 HWa HWb i0 i1 i2 i3 i4 i5 i6
   by_cases h0:er=0
   ·subst h0
    have hlen:k < ((l.map (·.2)).take k++List.replicate (n - k) zW).length:=by rw[List.length_append,List.length_take,List.length_replicate,HML.out];omega
    obtain⟨q0,q1,q2⟩:=ownV_cells HO4.out k hlen;have fr0:=ownV_free HO4.out (k*3);have fr1:=ownV_free HO4.out (k*3+1);have fr2:=ownV_free HO4.out (k*3+2);have h6:=ownV_set HO4.out k ⟨uk,ui,us⟩ hlen;rw[HPN.out]at h6;have HO6:=Hi h6;have HB6:=Hi (set3k HB4.out (Nat.le_refl w.heap.size) (k*3) (k*3+1) (k*3+2) (.int .i64 uk) (.int .i64 ui) (.string us))
    have HC':Hid (∀ a∈l.take (k+1),a.1=0):=by
     rw[HTN.out];refine Hi fun a h => ?_
     rcases List.mem_append.1 h with h | h
     ·exact HC.out a h
     ·rw[List.mem_singleton]at h
      rw[h]
    generalize ((l.map (·.2)).take k++List.replicate (n - k) zW)[k]=ov at *;clear h6 HC HTN HPN HNO hlen HO4 HB4
    go_wp2_with (rw[←HW4.out])
    go_roundw
    case rel=>exact⟨k+1,by omega,by go_num,HC',HO6,HB6⟩
    case measure=>simp[intOf];omega
   ·have e0:(er != 0)=true:=by simpa using h0
    have HFIN:=Hi (HNO.out W4 h0 HB4.out);clear HC HTN HPN HNO HO4 HB4
    go_wp2_with (rw[←HW4.out])
    go_ret2
    exact HFIN.out
  ·obtain rfl:k=n:=by omega
   have ho:=HO.out;rw[Nat.sub_self,List.replicate_zero,List.append_nil,List.take_of_length_le (by rw[HML.out];exact Nat.le_refl _)]at ho
   have hc:=HC.out;rw[List.take_of_length_le (by rw[HLN.out];exact Nat.le_refl _)]at hc
   have HFIN:=Hi (vals_yes hc ho HB.out);clear ho hc HO HC HEV HM HG;go_wp2_with fail
   go_ret2
   exact HFIN.out
end Go.Proofs.YtcicpjgnpcnnmaaGreatDoor
namespace Go.Proofs.YtcicpjgnpcnnmaaGreatDoor
open Go.RowKit
structure Ag where
 nm:ByteArray
 star:Bool
 e:E
def Ag.val(a:Ag)(x:Value):Value:= .agg #[.string a.nm,.bool a.star,.string (str a.e.op),.int .i64 a.e.v.k,.int .i64 a.e.v.i,.string (str a.e.v.s),.string (str a.e.tb),.string (str a.e.nm),x]
def AgCells(w:World)(b off:Nat)(a:Ag)(x:Value):Prop :=
 w.cell? ⟨b,off,none⟩=some (.string a.nm)∧w.cell? ⟨b,off+1,none⟩=some (.bool a.star)∧w.cell? ⟨b,off+2,none⟩=some (.string (str a.e.op))∧w.cell? ⟨b,off+3,none⟩=some (.int .i64 a.e.v.k)∧w.cell? ⟨b,off+4,none⟩=some (.int .i64 a.e.v.i)∧w.cell? ⟨b,off+5,none⟩=some (.string (str a.e.v.s))∧w.cell? ⟨b,off+6,none⟩=some (.string (str a.e.tb))∧w.cell? ⟨b,off+7,none⟩=some (.string (str a.e.nm))∧w.cell? ⟨b,off+8,none⟩=some x
def AgsAt(S:Nat→Prop)(w:World)(A:Option Addr)(l:List Ag):Prop:=0 < l.length→∃ b off,A=some ⟨b,off,none⟩∧b < w.heap.size∧∀ j (h:j < l.length),∃ A' c',AgCells w b (off+j*9) l[j] (.slice A' l[j].e.l.length c')∧Sub S w l[j].e A' c'
theorem AgCells.later{w w':World}{b off:Nat}{a:Ag}{x:Value}(h:AgCells w b off a x)(hb:Below w.heap.size w w')(hlt:b < w.heap.size):AgCells w' b off a x:=by
 have e:∀ k,w'.cell? ⟨b,k,none⟩=w.cell? ⟨b,k,none⟩:=fun k=>hb.cell (p:=⟨b,k,none⟩) hlt
 obtain⟨h0,h1,h2,h3,h4,h5,h6,h7,h8⟩:=h;exact⟨(e _).trans h0,(e _).trans h1,(e _).trans h2,(e _).trans h3,(e _).trans h4,(e _).trans h5,(e _).trans h6,(e _).trans h7,(e _).trans h8⟩
theorem number_any(n:Int)(w:World):Calls Tryz.prog 130 #[.int .i64 n] w fun e w'=>e = .returned (.agg #[.int .i64 2,.int .i64 n,.string ⟨#[]⟩])∧Below w.heap.size w w':=by
 obtain⟨W0,hW0⟩:∃ W0,W0=w.alloc (.cells #[.int .i64 0,.int .i64 0,.string ⟨#[]⟩] 26):=⟨_,rfl⟩;go_enter Tryz.func130,Tryz.ntmps130
 go_wp2
 exact bodyPost_ret (v:= .agg #[.int .i64 2,.int .i64 n,.string ⟨#[]⟩]) (by simp[results,Tryz.results130,go_sem]) rfl ⟨rfl,(((Below.refl _ w).alloc (Nat.le_refl _) _))⟩
def wrongB(b1 b2 b3 b4 st:Bool):Bool:=if b1 then false else if b2 || (b3 || b4)then st else true
def wrongS(s:ByteArray)(st:Bool):Bool:=wrongB (s.toList == [99,111,117,110,116]) (s.toList == [115,117,109]) (s.toList == [109,105,110]) (s.toList == [109,97,120]) st
theorem isWrong_any(s:ByteArray)(st:Bool)(d2 d3 d4 d5 d6 d7 d8:Value)(w:World):Calls Tryz.prog 50 #[.agg #[.string s,.bool st,d2,d3,d4,d5,d6,d7,d8]] w fun r w'=>r = .returned (.bool (wrongS s st))∧Below w.heap.size w w':=by
 obtain⟨W1,hW1⟩:∃ W1:World,W1=w.alloc (.cells #[.string s,.bool st,d2,d3,d4,d5,d6,d7,d8] 53):=⟨_,rfl⟩;have hh:W1.heap[w.heap.size]? = some (.cells #[.string s,.bool st,d2,d3,d4,d5,d6,d7,d8] 53 (0,0)):=by rw[hW1];exact heap_alloc_new w _
 have c0:W1.cell? ⟨w.heap.size,0,none⟩=some (.string s):=by rw[Lib.cell_of_heap hh];rfl
 have c1:W1.cell? ⟨w.heap.size,1,none⟩=some (.bool st):=by rw[Lib.cell_of_heap hh];rfl
 have HB:Hid (Below w.heap.size w W1):=by rw[hW1];exact Hi ((Below.refl _ _).alloc (Nat.le_refl _) _)
 have HW1:=Hi hW1;obtain⟨R,hR⟩:∃ R,wrongS s st=R:=⟨_,rfl⟩;rw[hR];unfold wrongS at hR;generalize h1:(s.toList == [99,111,117,110,116])=b1 at *;generalize h2:(s.toList == [115,117,109])=b2 at *;generalize h3:(s.toList == [109,105,110])=b3 at *;generalize h4:(s.toList == [109,97,120])=b4 at *;clear hW1 hh;cases b1 <;> cases b2 <;> cases b3 <;> cases b4 <;> (have HR:=Hi hR;clear hR;go_enter Tryz.func50,Tryz.ntmps50;go_wp2_with (rw[←HW1.out]);go_ret;exact⟨by rw[←HR.out];rfl,HB.out⟩)
def Ag.wrong(a:Ag):Bool:=wrongS a.nm a.star
def Idx(w:World)(l:List Ag)(e:Ending)(w':World):Prop:=∃ i:Int,e = .returned (.int .i64 i)∧Hid (decide (0≤i)=l.any Ag.wrong)∧Hid (Below w.heap.size w w')
theorem index_any(l:List Ag)(S:Nat→Prop)(A:Option Addr)(c:Nat)(w:World)(ha:AgsAt S w A l)(hl:l.length≤100000):Calls Tryz.prog 74 #[.slice A l.length c,.func (.func 50) #[] #[]] w (Idx w l):=by
 obtain⟨n,hn⟩:∃ n,n=l.length:=⟨_,rfl⟩;have HA:=Hi ha;have HN:=Hi hn
 have HYES:Hid (∀ k (h:k < l.length) W,l[k].wrong=true→Hid (Below w.heap.size w W)→Idx w l (.returned (.int .i64 (k:Int))) W):=Hi fun k h W hw hb=>⟨k,rfl,Hi (by
  rw[decide_eq_true (by omega)]
  exact(List.any_eq_true.2 ⟨l[k],List.getElem_mem h,hw⟩).symm),hb⟩
 have HNO:Hid (∀ W,(∀ a∈l,a.wrong=false)→Hid (Below w.heap.size w W)→Idx w l (.returned (.int .i64 (-1))) W):=Hi fun W hw hb=>⟨-1,rfl,Hi (by
  rw[decide_eq_false (by omega)]
  exact(List.any_eq_false.2 fun a h=>by rw[hw a h];simp).symm),hb⟩
 have HNX:Hid (∀ k (h:k < l.length),l.take (k+1)=l.take k ++ [l[k]]):=Hi fun k h=>take_next h
 have HALL:Hid (l.take n=l):=Hi (by rw[hn];exact List.take_length)
 rw[←hn];rw[←hn]at hl;clear ha hn;go_enter Tryz.func74,Tryz.ntmps74;go_wp2_with fail
 go_loopw [8] (fun iv wr=>∃ k:Nat,k≤n∧iv = .int .i64 k∧Hid (∀ a∈l.take k,a.wrong=false)∧Hid (Below w.heap.size w wr)) (fun iv _=>n - (intOf iv).toNat)
 case atStart=>exact⟨0,Nat.zero_le _,rfl,Hi (by simp),Hi (Below.refl _ _)⟩
 case round =>
  obtain⟨k,hk,rfl,HC,HB⟩:=hrel
  by_cases hlt:k < n
  ·have hkx:k < l.length:=by rw[←HN.out];exact hlt
   obtain⟨ba,offa,hAa,hbla,hca⟩:=HA.out (by omega)
   subst hAa;obtain⟨A',c',hcells,-⟩:=hca k hkx;obtain⟨e0,e1,e2,e3,e4,e5,e6,e7,e8⟩:=(hcells.later HB.out hbla:AgCells wr ba (offa+k*9) l[k] _);have hnx:=HNX.out k hkx;have hye:=HYES.out k hkx;have hw:l[k].wrong=wrongS l[k].nm l[k].star:=rfl;generalize l[k]=x at *;rw[hw]at hye;generalize hR:wrongS x.nm x.star=R at *;have HW:=Hi hw;have HNX1:=Hi hnx;have HYE:=Hi hye;have HI:=Hi (isWrong_any x.nm x.star (.string (str x.e.op)) (.int .i64 x.e.v.k) (.int .i64 x.e.v.i) (.string (str x.e.v.s)) (.string (str x.e.tb)) (.string (str x.e.nm)) (.slice A' x.e.l.length c') wr);rw[hR]at HI;generalize x.nm=z0 at *;generalize x.star=z1 at *;generalize str x.e.op=z2 at *;generalize x.e.v.k=z3 at *;generalize x.e.v.i=z4 at *;generalize str x.e.v.s=z5 at *;generalize str x.e.tb=z6 at *;generalize str x.e.nm=z7 at *;generalize x.e.l.length=z8 at *;clear hca hcells hw hR hnx hye HN HA HYES HNX;go_wp2_with fail;refine(HI.out).mono ?_;rintro q w3 ⟨rfl,b3⟩;have HB3:=Hi (bthen HB.out b3);clear b3 HI HB e0 e1 e2 e3 e4 e5 e6 e7 e8;cases R
   ·have HC':Hid (∀ a∈l.take (k+1),a.wrong=false):=by
     rw[HNX1.out];refine Hi fun a h => ?_
     rcases List.mem_append.1 h with h | h
     ·exact HC.out a h
     ·rw[List.mem_singleton]at h
      rw[h];exact HW.out
    clear HC HNX1 HW HYE;go_wp2_with fail
    go_roundw
    case rel=>exact⟨k+1,by omega,by go_num,HC',HB3⟩
    case measure=>simp[intOf];omega
   ·have HFIN:=Hi (HYE.out w3 rfl HB3)
    clear HC HNX1 HW HYE;go_wp2_with fail
    go_ret
    exact HFIN.out
  ·obtain rfl:k=n:=by omega
   rw[HALL.out]at HC;have HFIN:=Hi (HNO.out wr HC.out HB);clear HN HA HYES HNX HNO HC;go_wp2_with fail
   go_ret
   exact HFIN.out
theorem contains_any(l:List Ag)(S:Nat→Prop)(A:Option Addr)(c:Nat)(w:World)(ha:AgsAt S w A l)(hl:l.length≤100000):Calls Tryz.prog 49 #[.slice A l.length c,.func (.func 50) #[] #[]] w fun e w'=>e = .returned (.bool (l.any Ag.wrong))∧Below w.heap.size w w':=by
 have HC:=Hi (index_any l S A c w ha hl);unfold Idx at HC;generalize l.any Ag.wrong=R at *;generalize l.length=n at *;clear ha hl;go_enter Tryz.func49,Tryz.ntmps49;go_wp2_with fail;refine(HC.out).mono ?_;rintro e w3 ⟨i,rfl,hi,hb⟩;have HI:=Hi hi.out;clear HC hi
 by_cases h0:0≤i
 ·have HR:=HI.out
  rw[decide_eq_true h0]at HR;subst HR;clear HI;go_wp2_with fail
  go_ret
  exact⟨rfl,hb.out⟩
 ·have HR:=HI.out
  rw[decide_eq_false h0]at HR;subst HR;clear HI;go_wp2_with fail
  go_ret
  exact⟨by simp;omega,hb.out⟩
open SC (VBox)
def askP(a:Ag)(r:List BV.V):Ans:=if a.star then (0,⟨2,1,⟨#[]⟩⟩)else if(a.e.ev deedP r).1=0 then (if(a.nm.toList == [115,117,109]) && ((a.e.ev deedP r).2.k != 0 && (a.e.ev deedP r).2.k != 2)then (20,zW)else (0,(a.e.ev deedP r).2))else ((a.e.ev deedP r).1,zW)
theorem zero_at(w:World)(o:Obj):VBox ((w.alloc o).alloc (.cells #[.int .i64 0,.int .i64 0,.string ⟨#[]⟩] 26)) (w.heap.size+1) zW:=by
 have h:=VBox.made (w.alloc o) zW;have hz:(w.alloc o).heap.size=w.heap.size+1:=by simp
 rw[hz]at h;exact h
theorem asked_any(a:Ag)(r:List BV.V)(hr5:r.length≤100000)(S:Nat→Prop)(w:World)(A' A:Option Addr)(c' c:Nat)(hs:Sub S w a.e A' c')(hr:BV.RowAt w w.heap.size A r)(hE:SC.Env w)(hf:a.star=false→a.e.fit deedP r) :
  Calls Tryz.prog 129 #[a.val (.slice A' a.e.l.length c'),.slice A r.length c] w fun q w'=>q = .returned (vA (askP a r))∧Below w.heap.size w w':=by
 obtain⟨W1,hW1⟩:∃ W1:World,W1=(w.alloc (.cells #[.string a.nm,.bool a.star,.string (str a.e.op),.int .i64 a.e.v.k,.int .i64 a.e.v.i,.string (str a.e.v.s),.string (str a.e.tb),.string (str a.e.nm),.slice A' a.e.l.length c'] 53)).alloc (.cells #[.int .i64 0,.int .i64 0,.string ⟨#[]⟩] 26):=⟨_,rfl⟩;have hb1:Below w.heap.size w W1:=by rw[hW1];exact((Below.refl _ _).alloc (Nat.le_refl _) _).alloc (by simp) _
 have hv1:VBox W1 (w.heap.size+1) zW:=by rw[hW1];exact zero_at w _
 have hh:W1.heap[w.heap.size]? = some (.cells #[.string a.nm,.bool a.star,.string (str a.e.op),.int .i64 a.e.v.k,.int .i64 a.e.v.i,.string (str a.e.v.s),.string (str a.e.tb),.string (str a.e.nm),.slice A' a.e.l.length c'] 53 (0,0)):=by
  rw[hW1,Below.heap_alloc _ _ _ (by simp)]
  exact heap_alloc_new w _
 have hlt:w.heap.size < W1.heap.size:=(Array.getElem?_eq_some_iff.1 hh).1;have c0:W1.cell? ⟨w.heap.size,0,none⟩=some (.string a.nm):=by rw[Lib.cell_of_heap hh];rfl
 have c1:W1.cell? ⟨w.heap.size,1,none⟩=some (.bool a.star):=by rw[Lib.cell_of_heap hh];rfl
 have c2:W1.cell? ⟨w.heap.size,2,none⟩=some (.string (str a.e.op)):=by rw[Lib.cell_of_heap hh];rfl
 have c3:W1.cell? ⟨w.heap.size,3,none⟩=some (.int .i64 a.e.v.k):=by rw[Lib.cell_of_heap hh];rfl
 have c4:W1.cell? ⟨w.heap.size,4,none⟩=some (.int .i64 a.e.v.i):=by rw[Lib.cell_of_heap hh];rfl
 have c5:W1.cell? ⟨w.heap.size,5,none⟩=some (.string (str a.e.v.s)):=by rw[Lib.cell_of_heap hh];rfl
 have c6:W1.cell? ⟨w.heap.size,6,none⟩=some (.string (str a.e.tb)):=by rw[Lib.cell_of_heap hh];rfl
 have c7:W1.cell? ⟨w.heap.size,7,none⟩=some (.string (str a.e.nm)):=by rw[Lib.cell_of_heap hh];rfl
 have c8:W1.cell? ⟨w.heap.size,8,none⟩=some (.slice A' a.e.l.length c'):=by rw[Lib.cell_of_heap hh];rfl
 have HH:=Hi hh;have HLT:=Hi hlt;have HB1:=Hi hb1;have HV1:=Hi hv1;have HW1:=Hi hW1;have HEV:Hid (a.star=false→Calls Tryz.prog 36 #[eVal a.e.op a.e.v a.e.tb a.e.nm (.slice A' a.e.l.length c'),.slice A r.length c] W1 fun q w'=>q = .returned (vA (a.e.ev deedP r))∧Below W1.heap.size W1 w'):=Hi fun h=>evalE_any r hr5 a.e _ S W1 A c ⟨A',c',rfl,sub_later hs hb1⟩ (hr.later hb1) (hE.later hb1) (hf h)
 obtain⟨an,han⟩:∃ an,a.e.ev deedP r=an:=⟨_,rfl⟩;have ht:askP a r=if a.star then (0,⟨2,1,⟨#[]⟩⟩)else if an.1=0 then (if(a.nm.toList == [115,117,109]) && (an.2.k != 0 && an.2.k != 2)then (20,zW)else (0,an.2))else (an.1,zW):=by rw[←han];rfl
 rw[han]at HEV;rw[ht];clear ht han hs hr hE hf hW1 hb1 hv1 hh hlt;obtain⟨er,uk,ui,us⟩:=an;unfold vA eVal at HEV;unfold vA Ag.val;dsimp only at HEV ⊢;generalize a.nm=z0 at *;generalize a.star=st at *;generalize str a.e.op=z2 at *;generalize a.e.v.k=z3 at *;generalize a.e.v.i=z4 at *;generalize str a.e.v.s=z5 at *;generalize str a.e.tb=z6 at *;generalize str a.e.nm=z7 at *;generalize a.e.l.length=z8 at *;generalize r.length=z9 at *;cases st
 ·have HC:=Hi (HEV.out rfl)
  rw[if_neg (by decide)]
  clear HEV
  by_cases h0:er=0
  ·subst h0
   rw[if_pos rfl];generalize hsu:(z0.toList == [115,117,109])=bs at *
   by_cases hk0:uk=0
   ·subst hk0
    have hb:(bs && ((0:Int) != 0 && (0:Int) != 2))=false:=by cases bs <;> rfl
    rw[hb,if_neg (by decide)]
    clear hb;cases bs
    ·go_enter Tryz.func129,Tryz.ntmps129
     go_wp2_with (rw[←HW1.out])
     refine(HC.out).mono ?_;rintro q w2 ⟨rfl,b2⟩;obtain⟨W3,hW3⟩:∃ W3:World,W3=w2.alloc (.cells #[.int .i64 0,.int .i64 ui,.string us] 26):=⟨_,rfl⟩;have b3:Below w2.heap.size w2 W3:=by rw[hW3];exact(Below.refl _ _).alloc (Nat.le_refl _) _
     have v3:VBox W3 w2.heap.size ⟨0,ui,us⟩:=by rw[hW3];exact VBox.made w2 ⟨0,ui,us⟩
     have hh3:=((bthen b2 b3).block w.heap.size HLT.out).trans HH.out;have d0:W3.cell? ⟨w.heap.size,0,none⟩=some (.string z0):=by rw[Lib.cell_of_heap hh3];rfl
     obtain⟨y0,y1,y2⟩:=v3.cells;obtain⟨g0,g1,g2⟩:=(HV1.out.later (bthen b2 b3)).cells;obtain⟨f0,f1,f2⟩:=(HV1.out.later (bthen b2 b3)).free;have HB3:=Hi (bthen HB1.out (bthen b2 b3));have HW3:=Hi hW3;simp only[zW]at g0 g1 g2;dsimp only at y0 y1 y2;clear b2 b3 v3 hh3 hW3 HC c0 c1 c2 c3 c4 c5 c6 c7 c8
     go_wp2_with (rw[←HW3.out])
     exact bodyPost_ret (v:= .tuple #[.agg #[.int .i64 0,.int .i64 ui,.string us],.int .i64 0]) (by simp[results,Tryz.results129,go_sem,g0,g1,g2]) rfl ⟨rfl,set3_at HB3.out (by omega) _ _ _⟩
    ·go_enter Tryz.func129,Tryz.ntmps129
     go_wp2_with (rw[←HW1.out])
     refine(HC.out).mono ?_;rintro q w2 ⟨rfl,b2⟩;obtain⟨W3,hW3⟩:∃ W3:World,W3=w2.alloc (.cells #[.int .i64 0,.int .i64 ui,.string us] 26):=⟨_,rfl⟩;have b3:Below w2.heap.size w2 W3:=by rw[hW3];exact(Below.refl _ _).alloc (Nat.le_refl _) _
     have v3:VBox W3 w2.heap.size ⟨0,ui,us⟩:=by rw[hW3];exact VBox.made w2 ⟨0,ui,us⟩
     have hh3:=((bthen b2 b3).block w.heap.size HLT.out).trans HH.out;have d0:W3.cell? ⟨w.heap.size,0,none⟩=some (.string z0):=by rw[Lib.cell_of_heap hh3];rfl
     obtain⟨y0,y1,y2⟩:=v3.cells;obtain⟨g0,g1,g2⟩:=(HV1.out.later (bthen b2 b3)).cells;obtain⟨f0,f1,f2⟩:=(HV1.out.later (bthen b2 b3)).free;have HB3:=Hi (bthen HB1.out (bthen b2 b3));have HW3:=Hi hW3;simp only[zW]at g0 g1 g2;dsimp only at y0 y1 y2;clear b2 b3 v3 hh3 hW3 HC c0 c1 c2 c3 c4 c5 c6 c7 c8
     go_wp2_with (rw[←HW3.out])
     exact bodyPost_ret (v:= .tuple #[.agg #[.int .i64 0,.int .i64 ui,.string us],.int .i64 0]) (by simp[results,Tryz.results129,go_sem,g0,g1,g2]) rfl ⟨rfl,set3_at HB3.out (by omega) _ _ _⟩
   ·by_cases hk2:uk=2
    ·subst hk2
     have hb:(bs && ((2:Int) != 0 && (2:Int) != 2))=false:=by cases bs <;> rfl
     rw[hb,if_neg (by decide)]
     clear hb hk0;cases bs
     ·go_enter Tryz.func129,Tryz.ntmps129
      go_wp2_with (rw[←HW1.out])
      refine(HC.out).mono ?_;rintro q w2 ⟨rfl,b2⟩;obtain⟨W3,hW3⟩:∃ W3:World,W3=w2.alloc (.cells #[.int .i64 2,.int .i64 ui,.string us] 26):=⟨_,rfl⟩;have b3:Below w2.heap.size w2 W3:=by rw[hW3];exact(Below.refl _ _).alloc (Nat.le_refl _) _
      have v3:VBox W3 w2.heap.size ⟨2,ui,us⟩:=by rw[hW3];exact VBox.made w2 ⟨2,ui,us⟩
      have hh3:=((bthen b2 b3).block w.heap.size HLT.out).trans HH.out;have d0:W3.cell? ⟨w.heap.size,0,none⟩=some (.string z0):=by rw[Lib.cell_of_heap hh3];rfl
      obtain⟨y0,y1,y2⟩:=v3.cells;obtain⟨g0,g1,g2⟩:=(HV1.out.later (bthen b2 b3)).cells;obtain⟨f0,f1,f2⟩:=(HV1.out.later (bthen b2 b3)).free;have HB3:=Hi (bthen HB1.out (bthen b2 b3));have HW3:=Hi hW3;simp only[zW]at g0 g1 g2;dsimp only at y0 y1 y2;clear b2 b3 v3 hh3 hW3 HC c0 c1 c2 c3 c4 c5 c6 c7 c8
      go_wp2_with (rw[←HW3.out])
      exact bodyPost_ret (v:= .tuple #[.agg #[.int .i64 2,.int .i64 ui,.string us],.int .i64 0]) (by simp[results,Tryz.results129,go_sem,g0,g1,g2]) rfl ⟨rfl,set3_at HB3.out (by omega) _ _ _⟩
     ·go_enter Tryz.func129,Tryz.ntmps129
      go_wp2_with (rw[←HW1.out])
      refine(HC.out).mono ?_;rintro q w2 ⟨rfl,b2⟩;obtain⟨W3,hW3⟩:∃ W3:World,W3=w2.alloc (.cells #[.int .i64 2,.int .i64 ui,.string us] 26):=⟨_,rfl⟩;have b3:Below w2.heap.size w2 W3:=by rw[hW3];exact(Below.refl _ _).alloc (Nat.le_refl _) _
      have v3:VBox W3 w2.heap.size ⟨2,ui,us⟩:=by rw[hW3];exact VBox.made w2 ⟨2,ui,us⟩
      have hh3:=((bthen b2 b3).block w.heap.size HLT.out).trans HH.out;have d0:W3.cell? ⟨w.heap.size,0,none⟩=some (.string z0):=by rw[Lib.cell_of_heap hh3];rfl
      obtain⟨y0,y1,y2⟩:=v3.cells;obtain⟨g0,g1,g2⟩:=(HV1.out.later (bthen b2 b3)).cells;obtain⟨f0,f1,f2⟩:=(HV1.out.later (bthen b2 b3)).free;have HB3:=Hi (bthen HB1.out (bthen b2 b3));have HW3:=Hi hW3;simp only[zW]at g0 g1 g2;dsimp only at y0 y1 y2;clear b2 b3 v3 hh3 hW3 HC c0 c1 c2 c3 c4 c5 c6 c7 c8
      go_wp2_with (rw[←HW3.out])
      exact bodyPost_ret (v:= .tuple #[.agg #[.int .i64 2,.int .i64 ui,.string us],.int .i64 0]) (by simp[results,Tryz.results129,go_sem,g0,g1,g2]) rfl ⟨rfl,set3_at HB3.out (by omega) _ _ _⟩
    ·have e0:(uk != 0)=true:=by simpa using hk0
     have e2:(uk != 2)=true:=by simpa using hk2
     rw[e0,e2];cases bs
     ·rw[if_neg (by decide)]
      go_enter Tryz.func129,Tryz.ntmps129
      go_wp2_with (rw[←HW1.out])
      refine(HC.out).mono ?_;rintro q w2 ⟨rfl,b2⟩;obtain⟨W3,hW3⟩:∃ W3:World,W3=w2.alloc (.cells #[.int .i64 uk,.int .i64 ui,.string us] 26):=⟨_,rfl⟩;have b3:Below w2.heap.size w2 W3:=by rw[hW3];exact(Below.refl _ _).alloc (Nat.le_refl _) _
      have v3:VBox W3 w2.heap.size ⟨uk,ui,us⟩:=by rw[hW3];exact VBox.made w2 ⟨uk,ui,us⟩
      have hh3:=((bthen b2 b3).block w.heap.size HLT.out).trans HH.out;have d0:W3.cell? ⟨w.heap.size,0,none⟩=some (.string z0):=by rw[Lib.cell_of_heap hh3];rfl
      obtain⟨y0,y1,y2⟩:=v3.cells;obtain⟨g0,g1,g2⟩:=(HV1.out.later (bthen b2 b3)).cells;obtain⟨f0,f1,f2⟩:=(HV1.out.later (bthen b2 b3)).free;have HB3:=Hi (bthen HB1.out (bthen b2 b3));have HW3:=Hi hW3;simp only[zW]at g0 g1 g2;dsimp only at y0 y1 y2;clear b2 b3 v3 hh3 hW3 HC c0 c1 c2 c3 c4 c5 c6 c7 c8
      go_wp2_with (rw[←HW3.out])
      exact bodyPost_ret (v:= .tuple #[.agg #[.int .i64 uk,.int .i64 ui,.string us],.int .i64 0]) (by simp[results,Tryz.results129,go_sem,g0,g1,g2]) rfl ⟨rfl,set3_at HB3.out (by omega) _ _ _⟩
     ·rw[if_pos (by decide)]
      go_enter Tryz.func129,Tryz.ntmps129
      go_wp2_with (rw[←HW1.out])
      refine(HC.out).mono ?_;rintro q w2 ⟨rfl,b2⟩;obtain⟨W3,hW3⟩:∃ W3:World,W3=w2.alloc (.cells #[.int .i64 uk,.int .i64 ui,.string us] 26):=⟨_,rfl⟩;have b3:Below w2.heap.size w2 W3:=by rw[hW3];exact(Below.refl _ _).alloc (Nat.le_refl _) _
      have v3:VBox W3 w2.heap.size ⟨uk,ui,us⟩:=by rw[hW3];exact VBox.made w2 ⟨uk,ui,us⟩
      have hh3:=((bthen b2 b3).block w.heap.size HLT.out).trans HH.out;have d0:W3.cell? ⟨w.heap.size,0,none⟩=some (.string z0):=by rw[Lib.cell_of_heap hh3];rfl
      obtain⟨y0,y1,y2⟩:=v3.cells;obtain⟨g0,g1,g2⟩:=(HV1.out.later (bthen b2 b3)).cells;obtain⟨f0,f1,f2⟩:=(HV1.out.later (bthen b2 b3)).free;have HB3:=Hi (bthen HB1.out (bthen b2 b3));have HW3:=Hi hW3;simp only[zW]at g0 g1 g2;dsimp only at y0 y1 y2;clear b2 b3 v3 hh3 hW3 HC c0 c1 c2 c3 c4 c5 c6 c7 c8
      go_wp2_with (rw[←HW3.out])
      exact bodyPost_ret (v:= .tuple #[.agg #[.int .i64 0,.int .i64 0,.string ⟨#[]⟩],.int .i64 20]) (by simp[results,Tryz.results129,go_sem,g0,g1,g2]) rfl ⟨rfl,set3_at HB3.out (by omega) _ _ _⟩
  ·rw[if_neg h0]
   have e0:(er != 0)=true:=by simpa using h0
   go_enter Tryz.func129,Tryz.ntmps129
   go_wp2_with (rw[←HW1.out])
   refine(HC.out).mono ?_;rintro q w2 ⟨rfl,b2⟩;obtain⟨W3,hW3⟩:∃ W3:World,W3=w2.alloc (.cells #[.int .i64 uk,.int .i64 ui,.string us] 26):=⟨_,rfl⟩;have b3:Below w2.heap.size w2 W3:=by rw[hW3];exact(Below.refl _ _).alloc (Nat.le_refl _) _
   have v3:VBox W3 w2.heap.size ⟨uk,ui,us⟩:=by rw[hW3];exact VBox.made w2 ⟨uk,ui,us⟩
   have hh3:=((bthen b2 b3).block w.heap.size HLT.out).trans HH.out;have d0:W3.cell? ⟨w.heap.size,0,none⟩=some (.string z0):=by rw[Lib.cell_of_heap hh3];rfl
   obtain⟨y0,y1,y2⟩:=v3.cells;obtain⟨g0,g1,g2⟩:=(HV1.out.later (bthen b2 b3)).cells;obtain⟨f0,f1,f2⟩:=(HV1.out.later (bthen b2 b3)).free;have HB3:=Hi (bthen HB1.out (bthen b2 b3));have HW3:=Hi hW3;simp only[zW]at g0 g1 g2;dsimp only at y0 y1 y2;clear b2 b3 v3 hh3 hW3 HC c0 c1 c2 c3 c4 c5 c6 c7 c8
   go_wp2_with (rw[←HW3.out])
   exact bodyPost_ret (v:= .tuple #[.agg #[.int .i64 0,.int .i64 0,.string ⟨#[]⟩],.int .i64 er]) (by simp[results,Tryz.results129,go_sem,g0,g1,g2]) rfl ⟨rfl,set3_at HB3.out (by omega) _ _ _⟩
 ·have HN:=Hi (number_any 1 W1)
  rw[if_pos rfl];clear HEV c2 c3 c4 c5 c6 c7 c8;go_enter Tryz.func129,Tryz.ntmps129
  go_wp2_with (rw[←HW1.out])
  refine(HN.out).mono ?_;rintro q w2 ⟨rfl,b2⟩;obtain⟨g0,g1,g2⟩:=(HV1.out.later b2).cells;obtain⟨f0,f1,f2⟩:=(HV1.out.later b2).free;have HB2:=Hi (bthen HB1.out b2);simp only[zW]at g0 g1 g2;clear b2 HN c0 c1;go_wp2_with fail;exact bodyPost_ret (v:= .tuple #[.agg #[.int .i64 2,.int .i64 1,.string ⟨#[]⟩],.int .i64 0]) (by simp[results,Tryz.results129,go_sem,g0,g1,g2]) rfl ⟨rfl,set3_at HB2.out (by omega) _ _ _⟩
end Go.Proofs.YtcicpjgnpcnnmaaGreatDoor
namespace Go.Proofs.YtcicpjgnpcnnmaaGreatDoor
open Go.RowKit
def B9(w:World)(b:Nat)(c0 c1 c2 c3 c4 c5 c6 c7 c8:Value):Prop:=w.heap[b]? = some (.cells #[c0,c1,c2,c3,c4,c5,c6,c7,c8] 53 (0,0))
theorem B9.lt{w:World}{b:Nat}{c0 c1 c2 c3 c4 c5 c6 c7 c8:Value}(h:B9 w b c0 c1 c2 c3 c4 c5 c6 c7 c8):b < w.heap.size:=(Array.getElem?_eq_some_iff.1 h).1
theorem B9.cells{w:World}{b:Nat}{c0 c1 c2 c3 c4 c5 c6 c7 c8:Value}(h:B9 w b c0 c1 c2 c3 c4 c5 c6 c7 c8):w.cell? ⟨b,0,none⟩=some c0∧w.cell? ⟨b,1,none⟩=some c1∧w.cell? ⟨b,2,none⟩=some c2∧w.cell? ⟨b,3,none⟩=some c3∧w.cell? ⟨b,4,none⟩=some c4∧w.cell? ⟨b,5,none⟩=some c5∧w.cell? ⟨b,6,none⟩=some c6∧w.cell? ⟨b,7,none⟩=some c7∧w.cell? ⟨b,8,none⟩=some c8 :=
 ⟨by rw[Lib.cell_of_heap h];rfl,by rw[Lib.cell_of_heap h];rfl,by rw[Lib.cell_of_heap h];rfl,by rw[Lib.cell_of_heap h];rfl,by rw[Lib.cell_of_heap h];rfl,by rw[Lib.cell_of_heap h];rfl,by rw[Lib.cell_of_heap h];rfl,by rw[Lib.cell_of_heap h];rfl,by rw[Lib.cell_of_heap h];rfl⟩
theorem B9.free{w:World}{b:Nat}{c0 c1 c2 c3 c4 c5 c6 c7 c8:Value}(h:B9 w b c0 c1 c2 c3 c4 c5 c6 c7 c8):w.frozen? ⟨b,0,none⟩=false∧w.frozen? ⟨b,1,none⟩=false∧w.frozen? ⟨b,2,none⟩=false∧w.frozen? ⟨b,3,none⟩=false∧w.frozen? ⟨b,4,none⟩=false∧w.frozen? ⟨b,5,none⟩=false∧w.frozen? ⟨b,6,none⟩=false∧w.frozen? ⟨b,7,none⟩=false∧w.frozen? ⟨b,8,none⟩=false :=
 ⟨Lib.frozen_of_heap h 0,Lib.frozen_of_heap h 1,Lib.frozen_of_heap h 2,Lib.frozen_of_heap h 3,Lib.frozen_of_heap h 4,Lib.frozen_of_heap h 5,Lib.frozen_of_heap h 6,Lib.frozen_of_heap h 7,Lib.frozen_of_heap h 8⟩
theorem B9.made(w:World)(c0 c1 c2 c3 c4 c5 c6 c7 c8:Value):B9 (w.alloc (.cells #[c0,c1,c2,c3,c4,c5,c6,c7,c8] 53)) w.heap.size c0 c1 c2 c3 c4 c5 c6 c7 c8:=heap_alloc_new w _
theorem stored9{w:World}{b:Nat}{x0 x1 x2 x3 x4 x5 x6 x7 x8:Value}(h:B9 w b x0 x1 x2 x3 x4 x5 x6 x7 x8)(c0 c1 c2 c3 c4 c5 c6 c7 c8:Value) :
  ∃ W:World,W=(((((((((w.setCell ⟨b,0,none⟩ c0).setCell ⟨b,1,none⟩ c1).setCell ⟨b,2,none⟩ c2).setCell ⟨b,3,none⟩ c3).setCell ⟨b,4,none⟩ c4).setCell ⟨b,5,none⟩ c5).setCell ⟨b,6,none⟩ c6).setCell ⟨b,7,none⟩ c7).setCell ⟨b,8,none⟩ c8)∧B9 W b c0 c1 c2 c3 c4 c5 c6 c7 c8∧W.heap.size=w.heap.size∧(∀ k,k≠b→W.heap[k]? = w.heap[k]?)∧∀ B,B≤b→Below B w W:=by
 refine⟨_,rfl,?_,?_,fun k hk => ?_,fun B hB => ?_⟩
 ·unfold B9
  have h0:=heap_set_same c0 (o:=0) h;have h1:=heap_set_same c1 (o:=1) h0;have h2:=heap_set_same c2 (o:=2) h1;have h3:=heap_set_same c3 (o:=3) h2;have h4:=heap_set_same c4 (o:=4) h3;have h5:=heap_set_same c5 (o:=5) h4;have h6:=heap_set_same c6 (o:=6) h5;have h7:=heap_set_same c7 (o:=7) h6;have h8:=heap_set_same c8 (o:=8) h7
  simpa only[List.setIfInBounds_toArray,List.set_cons_zero,List.set_cons_succ]using h8
 ·simp only[size_setCell]
 ·rw[Below.heap_setCell _ _ _ _ hk,Below.heap_setCell _ _ _ _ hk,Below.heap_setCell _ _ _ _ hk,Below.heap_setCell _ _ _ _ hk,Below.heap_setCell _ _ _ _ hk,Below.heap_setCell _ _ _ _ hk,Below.heap_setCell _ _ _ _ hk,Below.heap_setCell _ _ _ _ hk,Below.heap_setCell _ _ _ _ hk]
 ·exact((((((((((Below.refl B w).setCell (p:=⟨b,0,none⟩) hB _).setCell (p:=⟨b,1,none⟩) hB _).setCell (p:=⟨b,2,none⟩) hB _).setCell (p:=⟨b,3,none⟩) hB _).setCell (p:=⟨b,4,none⟩) hB _).setCell (p:=⟨b,5,none⟩) hB _).setCell (p:=⟨b,6,none⟩) hB _).setCell (p:=⟨b,7,none⟩) hB _).setCell (p:=⟨b,8,none⟩) hB _)
theorem made9(w:World)(c0 c1 c2 c3 c4 c5 c6 c7 c8:Value) :
  ∃ W1 W:World,W1=w.alloc (.cells #[.string ⟨#[]⟩,.bool false,.string ⟨#[]⟩,.int .i64 0,.int .i64 0,.string ⟨#[]⟩,.string ⟨#[]⟩,.string ⟨#[]⟩,.slice none 0 0] 53) ∧
   W=(((((((((W1.setCell ⟨w.heap.size,0,none⟩ c0).setCell ⟨w.heap.size,1,none⟩ c1).setCell ⟨w.heap.size,2,none⟩ c2).setCell ⟨w.heap.size,3,none⟩ c3).setCell ⟨w.heap.size,4,none⟩ c4).setCell ⟨w.heap.size,5,none⟩ c5).setCell ⟨w.heap.size,6,none⟩ c6).setCell ⟨w.heap.size,7,none⟩ c7).setCell ⟨w.heap.size,8,none⟩ c8) ∧
   B9 W1 w.heap.size (.string ⟨#[]⟩) (.bool false) (.string ⟨#[]⟩) (.int .i64 0) (.int .i64 0) (.string ⟨#[]⟩) (.string ⟨#[]⟩) (.string ⟨#[]⟩) (.slice none 0 0)∧B9 W w.heap.size c0 c1 c2 c3 c4 c5 c6 c7 c8∧W.heap.size=w.heap.size+1∧Below w.heap.size w W1∧Below w.heap.size w W:=by
 have h1:=B9.made w (.string ⟨#[]⟩) (.bool false) (.string ⟨#[]⟩) (.int .i64 0) (.int .i64 0) (.string ⟨#[]⟩) (.string ⟨#[]⟩) (.string ⟨#[]⟩) (.slice none 0 0);have hb:=(Below.refl w.heap.size w).alloc (Nat.le_refl _) (.cells #[.string ⟨#[]⟩,.bool false,.string ⟨#[]⟩,.int .i64 0,.int .i64 0,.string ⟨#[]⟩,.string ⟨#[]⟩,.string ⟨#[]⟩,.slice none 0 0] 53);obtain⟨W,h2,h3,h4,h5,h6⟩:=stored9 h1 c0 c1 c2 c3 c4 c5 c6 c7 c8;exact⟨_,W,rfl,h2,h1,h3,by rw[h4];simp,hb,hb.trans (h6 _ (Nat.le_refl _))⟩
end Go.Proofs.YtcicpjgnpcnnmaaGreatDoor
