import Derived.Test.YtcicpjgnpcnnmaaGreatDoorQ36
import Derived.Test.YtcicpjgnpcnnmaaGreatDoorQ37
import Derived.Test.YtcicpjgnpcnnmaaGreatDoorQ39
import Derived.Test.YtcicpjgnpcnnmaaGreatDoorQ32
set_option maxRecDepth 100000
set_option maxHeartbeats 8000000
set_option linter.unusedSimpArgs false
set_option linter.unusedVariables false
namespace Go.Proofs.YtcicpjgnpcnnmaaGreatDoor
open Go.RowKit Go.Maps
def toldL(aggs:List Ag)(g:Gp):List Ans:=List.zipWith (fun(a:Ag)(xs:List BV.V)=>aggP a.nm xs) aggs g.vs
def toldE(aggs:List Ag)(g:Gp):Int:=firstE ((toldL aggs g).map (·.1))
def toldV(aggs:List Ag)(g:Gp):List BV.V:=(toldL aggs g).map (·.2)
def groupsP(keys:List E)(aggs:List Ag)(rows:List (List BV.V)):List Gp:=grpP aggs.length (startP keys aggs) (rows.map (pairG keys aggs))
def groupE(keys:List E)(aggs:List Ag)(rows:List (List BV.V)):Int:=if aggs.any Ag.wrong then 1 else if firstE (rows.map (rowE keys aggs))=0 then firstE ((groupsP keys aggs rows).map (toldE aggs))else firstE (rows.map (rowE keys aggs))
def groupL(keys:List E)(aggs:List Ag)(rows:List (List BV.V)):List (List BV.V):=(groupsP keys aggs rows).map fun g=>g.ks++toldV aggs g
def AllG(p:BV.V→Prop)(q:Nat)(l:List Gp):Prop:=∀ g∈l,g.ks.length≤q∧∀ xs∈g.vs,∀ v∈xs,p v
theorem allG_at{p:BV.V→Prop}{q:Nat}{l:List Gp}(h:AllG p q l){ks:List BV.V}(hk:ks.length≤q)(na:Nat):AllG p q (grAt l ks na):=by
 unfold grAt
 split
 ·exact h
 ·intro g hg
  rcases List.mem_append.1 hg with hg | hg
  ·exact h g hg
  ·rw[List.mem_singleton]at hg
   subst hg;refine⟨hk,fun xs hx v hv => ?_⟩
   rw[List.eq_of_mem_replicate hx]at hv
   simp at hv
theorem allG_put{p:BV.V→Prop}{q:Nat}{l:List Gp}(h:AllG p q l)(j i:Nat){v:BV.V}(hv:p v):AllG p q (putP l j i v):=by
 unfold putP
 split
 ·exact h
 split
 ·exact h
 rename_i g hg
 split
 ·exact h
 rename_i xs hx
 have hgm:=h g (List.mem_of_getElem? hg);intro g2 hg2;rcases List.mem_or_eq_of_mem_set hg2 with h2 | h2
 ·exact h g2 h2
 ·subst h2
  refine⟨hgm.1,fun zs hz u hu => ?_⟩
  rcases List.mem_or_eq_of_mem_set hz with h3 | h3
  ·exact hgm.2 zs h3 u hu
  ·subst h3
   rcases List.mem_append.1 hu with h4 | h4
   ·exact hgm.2 xs (List.mem_of_getElem? hx) u h4
   ·rw[List.mem_singleton]at h4
    rw[h4];exact hv
theorem allG_puts{p:BV.V→Prop}{q:Nat}(j:Nat):∀ (ys:List BV.V)(l:List Gp)(i:Nat),AllG p q l→(∀ v∈ys,p v)→AllG p q (putsP j l i ys)
 | [],_,_,h,_=>h
 | v::ys,l,i,h,hy=>allG_puts j ys _ _ (allG_put h j i (hy v (by simp))) fun u hu=>hy u (by simp[hu])
theorem allG_grp{p:BV.V→Prop}{q:Nat}(na:Nat):∀ (ps:List (List BV.V×List BV.V))(l:List Gp),AllG p q l→(∀ x∈ps,x.1.length≤q∧∀ v∈x.2,p v)→AllG p q (grpP na l ps)
 | [],l,h,_=>h
 | x::ps,l,h,hp=>by
  have h1:=hp x (by simp)
  have e:grpP na l (x::ps)=grpP na (rowP na l x) ps:=rfl;rw[e];exact allG_grp na ps _ (allG_puts _ _ _ _ (allG_at h h1.1 na) h1.2) fun y hy=>hp y (by simp[hy])
theorem GpAt.rows{w:World}{B:Nat}{T:Tags}{j:Nat}{g:Gx}(h:GpAt w B T j g):∃ rs:List BV.R,rs.map BV.R.xs=g.plain.vs∧rs.length=g.vs.length∧BV.RowsAt w w.heap.size (some ⟨g.vb,0,none⟩) rs:=by
 have hs:∀ i:Fin g.vs.length,∃ r:BV.R,r.val=g.vs[i].1∧r.xs=g.vs[i].2∧BV.RowAt w w.heap.size r.A r.xs:=fun i=>by
  obtain⟨A,c,e,-,-,h2⟩:=(h.own i.1 i.2).1.row;exact⟨⟨A,c,g.vs[i].2⟩,e.symm,rfl,h2⟩
 obtain⟨f,hf⟩:=Classical.axiomOfChoice hs;refine⟨List.ofFn f,?_,by simp,fun _=>⟨g.vb,0,rfl,h.lt,fun i hi => ?_⟩,fun r hr => ?_⟩
 ·unfold Gx.plain
  apply List.ext_getElem (by simp)
  intro i h1 h2;simp only[List.getElem_map,List.getElem_ofFn];exact(hf _).2.1
 ·have hi':i < g.vs.length:=by simpa using hi
  rw[Lib.cell_of_heap h.row];simp only[List.getElem_ofFn,Nat.zero_add];rw[(hf ⟨i,hi'⟩).1]
  simp[hi']
 ·obtain⟨i,rfl⟩:=List.mem_ofFn.1 hr
  exact(hf i).2.2
theorem rows_later{w w':World}{A:Option Addr}{rs:List BV.R}(h:BV.RowsAt w w.heap.size A rs)(hb:Below w.heap.size w w'):BV.RowsAt w' w'.heap.size A rs:=by
 have h1:=h.below hb
 exact⟨fun h0=>by
  obtain⟨b,off,a,c,d⟩:=h1.1 h0;exact⟨b,off,a,Nat.lt_of_lt_of_le c hb.size,d⟩,fun r hr=>(h1.2 r hr).mono hb.size⟩
theorem zip_rows{rs:List BV.R}{vs:List (List BV.V)}(h:rs.map BV.R.xs=vs)(aggs:List Ag):List.zipWith (fun(a:Ag)(r:BV.R)=>aggP a.nm r.xs) aggs rs=List.zipWith (fun(a:Ag)(xs:List BV.V)=>aggP a.nm xs) aggs vs:=by
 subst h;rw[List.zipWith_map_right]
theorem group_any(rows:List BV.R)(keys:List E)(aggs:List Ag)(v0:Vl)(S S':Nat→Prop)(w:World)(R K G:Option Addr)(rc kc gc:Nat)(hrows:BV.RowsAt w w.heap.size R rows)(hrl:rows.length≤1000)(hrw:∀ r∈rows,r.xs.length≤100000)(hkeys:Sub S w (.mk [] v0 [] [] keys) K kc)(hags:AgsAt S' w G aggs)(hE:SC.Env w)(hE':BV.Env w)
  (hkf:∀ r∈rows,∀ e∈keys,e.fit deedP r.xs)(hkv:∀ r∈rows,∀ e∈keys,(e.ev deedP r.xs).2.ok)(hgf:∀ r∈rows,∀ a∈aggs,a.star=false→a.e.fit deedP r.xs)(hgv:∀ r∈rows,∀ v∈askV aggs r.xs,SC.In64 v.i)(hkl:keys.length≤1000)(hal:aggs.length≤1000) :
  Calls Tryz.prog 21 #[.slice R rows.length rc,.slice K keys.length kc,.slice G aggs.length gc] w (RowsE w (groupE keys aggs (rows.map BV.R.xs)) (groupL keys aggs (rows.map BV.R.xs))):=by
 have HCN:=Hi (contains_any aggs S' G gc w hags (by omega))
 have HGR:=Hi (fun W (hb:Below w.heap.size w W)=>grouped_any rows keys aggs v0 S S' W R K G rc kc gc (rows_later hrows hb) hrl hrw (sub_later hkeys hb) (ags_later hags hb) (hE.later hb) (hE'.below hb hE'.size) hkf hkv hgf hkl hal)
 have e1:(rows.map fun r=>rowE keys aggs r.xs)=(rows.map BV.R.xs).map (rowE keys aggs):=by rw[List.map_map];rfl
 have e2:grpP aggs.length (startP keys aggs) (rows.map fun r=>pairG keys aggs r.xs)=groupsP keys aggs (rows.map BV.R.xs):=by unfold groupsP;rw[List.map_map];rfl
 rw[e1,e2]at HGR
 have HAL:Hid (AllG (fun v=>SC.In64 v.i) 1000 (groupsP keys aggs (rows.map BV.R.xs))):=Hi (by
  unfold groupsP;refine allG_grp _ _ _ ?_ fun x hx => ?_
  ·unfold startP
   split
   ·exact allG_at (l:=[]) (by intro g hg;simp at hg) (by simp) _
   ·intro g hg;simp at hg
  ·rw[List.map_map]at hx
   obtain⟨r,hr,rfl⟩:=List.mem_map.1 hx;exact⟨by simp[pairG,projV];omega,fun v hv=>hgv r hr v hv⟩)
 have HWD:Hid (Wd (groupsP keys aggs (rows.map BV.R.xs)) aggs.length 1000000 1001):=Hi (by
  have h1:=wd_grp aggs.length aggs.length ((rows.map BV.R.xs).map (pairG keys aggs)) (startP keys aggs) 0 1 (fun x hx=>by
   obtain⟨r,hr,rfl⟩:=List.mem_map.1 hx
   simp[pairG,askV]) (wd_start keys aggs)
  have h2:=mul_le hrl hal;unfold groupsP;simp only[List.length_map,Nat.zero_add]at h1;exact⟨by have:=h1.1;omega,fun g hg=>⟨(h1.2 g hg).1,fun xs hx=>Nat.le_trans ((h1.2 g hg).2 xs hx) h2⟩⟩)
 have HAG:=Hi (fun W (hb:Below w.heap.size w W)=>ags_later hags hb)
 obtain⟨xs,hxs⟩:∃ xs,rows.map BV.R.xs=xs:=⟨_,rfl⟩;rw[hxs]at HGR HAL HWD ⊢;unfold groupE groupL;generalize firstE (xs.map (rowE keys aggs))=E1 at *;generalize groupsP keys aggs xs=l at *;obtain⟨na,hna⟩:∃ na,na=aggs.length:=⟨_,rfl⟩;have HNA:=Hi hna;rw[←hna]at HCN HGR HWD hal ⊢;generalize rows.length=n at *;generalize keys.length=kl at *;clear e1 e2 hrows hrw hkeys hags hE hE' hkf hkv hgf hgv hxs hna;cases hw:aggs.any Ag.wrong
 ·rw[if_neg (by decide)]
  rw[hw]at HCN;clear hw
  by_cases h1:E1=0
  ·subst h1
   rw[if_pos rfl];obtain⟨el,hel⟩:∃ el,l.map (toldE aggs)=el:=⟨_,rfl⟩;obtain⟨pl,hpp⟩:∃ pl,(l.map fun g=>g.ks++toldV aggs g)=pl:=⟨_,rfl⟩
   rw[hel,hpp];obtain⟨PO,hPO⟩:∃ PO,RowsE w (firstE el) pl=PO:=⟨_,rfl⟩;rw[hPO];have HEL:=Hi hel;have HPP:=Hi hpp;have HPO:=Hi hPO;clear hel hpp hPO;go_enter Tryz.func21,Tryz.ntmps21;go_wp2_with fail;refine(HCN.out).mono ?_;rintro q w1 ⟨rfl,hb1⟩;have HB1:=Hi hb1;have HG1:=Hi (HGR.out w1 hb1);unfold GrpPost at HG1;clear hb1 HCN HGR
   -- @a
   go_wp2_with fail;refine(HG1.out).mono ?_;rintro q w2 ⟨lv,rfl,HL,HB2⟩;have HBw2:=Hi (bthen HB1.out HB2.out);clear HG1;obtain⟨T,gs,hgs,hpl⟩:=HL.out trivial;obtain⟨A0,c0,rfl,-⟩:=hgs.shape;have hln:gs.length=l.length:=by rw[←hpl,List.length_map]
   obtain⟨m,hm⟩:∃ m,m=l.length:=⟨_,rfl⟩;have hmm:m≤1001:=by rw[hm];exact HWD.out.1
   have hel:=HEL.out;have hpp:=HPP.out;have hPO:=HPO.out;have hle:el.length=m:=by rw[←hel,List.length_map,hm]
   have hlp:pl.length=m:=by rw[←hpp,List.length_map,hm]
   have HGS:=Hi hgs
   have HP:Hid (∀ k (h:k < m),∃ (h1:k < gs.length) (h2:k < el.length) (h3:k < pl.length),el[k]=toldE aggs gs[k].plain∧pl[k]=gs[k].ks++toldV aggs gs[k].plain∧gs[k].ks.length≤1000∧gs[k].vs.length=na∧(∀ xs∈gs[k].plain.vs,xs.length≤1000000∧∀ v∈xs,SC.In64 v.i)):=Hi fun k h=>by
    have h1:k < gs.length:=by omega
    have hg:gs[k].plain∈l:=by rw[←hpl];exact List.mem_map.2 ⟨_,List.getElem_mem h1,rfl⟩
    have hx:=HAL.out _ hg;have hy:=HWD.out.2 _ hg;exact⟨h1,by omega,by omega,by subst hel;subst hpl;simp,by subst hpp;subst hpl;simp[Gx.plain],hx.1,by have:=hy.1;simpa [Gx.plain]using this,fun xs hm=>⟨hy.2 xs hm,hx.2 xs hm⟩⟩
   have HNO:Hid (∀ k (h:k < el.length) W,(∀ x∈el.take k,x=0)→¬el[k]=0→Hid (Below w.heap.size w W)→RowsE w (firstE el) pl (.returned (.tuple #[.slice none 0 0,.int .i64 el[k]])) W):=Hi fun k h W h0 h1 hb=>by rw[firstE_at h h0 h1];exact rowsE_no h1 hb
   have HYES:Hid (∀ v W,(∀ x∈el,x=0)→Hid (OwnR W w2.heap.size v pl)→Hid (Below w.heap.size w W)→RowsE w (firstE el) pl (.returned (.tuple #[v,.int .i64 0])) W):=Hi fun v W h0 ho hb=>by
    rw[firstE_zero.2 h0];refine rowsE_yes ?_ hb;obtain⟨rs,a1,a2,a3⟩:=ho.out;have hB:=HBw2.out.size;refine⟨rs,a1,World.ownsRow.mono a2 hB,fun r hr=>⟨fun h0 => ?_,(a3 r hr).2⟩⟩
    obtain⟨b,off,c1,c2,c3⟩:=(a3 r hr).1 h0;exact⟨b,off,c1,Nat.le_trans hB c2,c3⟩
   rw[hPO]at HNO HYES;have hmk:=made_rows m (by omega) w2
   obtain⟨W1,hW1⟩:∃ W1:World,W1=w2.alloc (.cells (List.replicate m (Value.slice none 0 0)).toArray 39):=⟨_,rfl⟩;have hb1:Below w2.heap.size w2 W1:=by rw[hW1];exact(Below.refl _ _).alloc (Nat.le_refl _) _
   have HO1:Hid (OwnR W1 w2.heap.size (.slice (some ⟨w2.heap.size,0,none⟩) m m) (pl.take 0++List.replicate (m - 0) [])):=Hi (by rw[hW1];simpa using ownR_made w2 m (by omega))
   rw[←hW1]at hmk;have HBW:=Hi hb1;rw[hln.trans hm.symm]at *;have HLP:=Hi hlp;have HLQ:=Hi hle;clear hgs hpl hln hm hel hpp hle hlp hPO hW1 hb1 HL HB2 HAL HWD
   -- @b
   go_wp2_with fail
   go_loopw [32] (fun i wr=>∃ k:Nat,k≤m∧i = .int .i64 k∧Hid (∀ x∈el.take k,x=0)∧Hid (OwnR wr w2.heap.size (.slice (some ⟨w2.heap.size,0,none⟩) m m) (pl.take k++List.replicate (m - k) []))∧Hid (Below w2.heap.size w2 wr)) (fun i _=>m - (intOf i).toNat)
   case atStart=>exact⟨0,Nat.zero_le _,rfl,Hi (by simp),HO1,HBW⟩
   case round =>
    obtain⟨k,hk,rfl,HC,HO,HB⟩:=hrel
    by_cases hlt:k < m
    ·obtain⟨hkg,hke,hkp,he,hp,hks,hva,hvl⟩:=HP.out k hlt
     obtain⟨gb,cb,hgb,hBg,hgl,-,-,hc0,hc1⟩:=HGS.out.cells k hkg
     injection hgb with hgb hg2 hg3
     subst hgb;clear hg2 hg3;have i0:=(HB.out.cell (p:=⟨gb,k*2,none⟩) hgl).trans hc0;have i1:=(HB.out.cell (p:=⟨gb,k*2+1,none⟩) hgl).trans hc1;have hgp:=HGS.out.each k hkg;obtain⟨rs,hr1,hr2,hr3⟩:=hgp.rows
     have hkr:BV.RowAt w2 w2.heap.size gs[k].A gs[k].ks:=fun h0=>by
      obtain⟨b,off,hA,-,-,hl,hcc⟩:=hgp.keys h0;exact⟨b,off,hA,hl,hcc⟩
     have hvn:rs.length=na:=hr2.trans hva;have hrx:∀ r∈rs,r.xs.length≤1000000∧∀ v∈r.xs,SC.In64 v.i:=fun r hr=>hvl _ (by rw[←hr1];exact List.mem_map.2 ⟨r,hr,rfl⟩)
     obtain⟨W5,hW5⟩:∃ W5:World,W5=wr.alloc (.cells #[.slice gs[k].A gs[k].ks.length gs[k].c,.slice (some ⟨gs[k].vb,0,none⟩) na na] 90):=⟨_,rfl⟩;have b5:Below wr.heap.size wr W5:=by rw[hW5];exact(Below.refl _ _).alloc (Nat.le_refl _) _
     have hh5:W5.heap[wr.heap.size]? = some (.cells #[.slice gs[k].A gs[k].ks.length gs[k].c,.slice (some ⟨gs[k].vb,0,none⟩) na na] 90 (0,0)):=by rw[hW5];exact heap_alloc_new wr _
     have HT:=told_any aggs rs (.slice gs[k].A gs[k].ks.length gs[k].c) S' W5 (some ⟨gs[k].vb,0,none⟩) G na gc (HAG.out W5 (bthen HBw2.out (bthen HB.out b5))) (rows_later hr3 (bthen HB.out b5)) (by rw[hvn];exact HNA.out.symm) (by rw[←HNA.out];omega) hrx
     rw[zip_rows hr1 aggs,hvn,←HNA.out]at HT;have HT1:Hid (Calls Tryz.prog 52 #[.agg #[.slice gs[k].A gs[k].ks.length gs[k].c,.slice (some ⟨gs[k].vb,0,none⟩) na na],.slice G na gc] W5 (ValE W5 (toldE aggs gs[k].plain) (toldV aggs gs[k].plain))):=HT;have HJ:=Hi (fun W (hb:Below w2.heap.size w2 W) (A:Option Addr) (c:Nat) (ts:List BV.V) (h1:BV.RowAt W W.heap.size A ts) (h2:ts.length≤100000)=>joined_two ⟨gs[k].A,gs[k].c,gs[k].ks⟩ ⟨A,c,ts⟩ W (hkr.later hb) h1 (by show gs[k].ks.length≤100000;omega) h2)
     have hdl:(toldV aggs gs[k].plain).length≤100000:=by
      unfold toldV toldL;rw[List.length_map,List.length_zipWith];have h3:aggs.length=na:=HNA.out.symm
      omega
     have HTN:Hid (el.take (k+1)=el.take k ++ [el[k]]):=Hi (take_next hke);have HPN:=Hi (put_next (n:=m) hkp HLP.out.symm);have HNO1:=Hi (fun W=>HNO.out k hke W HC.out)
     rw[hva]at i1;rw[he]at HTN HNO1;rw[hp]at HPN;have HBW5:=Hi (bthen HB.out b5);have HO5:=Hi (HO.out.later b5);have HW5:=Hi hW5;have HH5:=Hi hh5;have x0:W5.cell? ⟨wr.heap.size,0,none⟩=some (.slice gs[k].A gs[k].ks.length gs[k].c):=by rw[Lib.cell_of_heap hh5];rfl
     have x1:W5.cell? ⟨wr.heap.size,1,none⟩=some (.slice (some ⟨gs[k].vb,0,none⟩) na na):=by rw[Lib.cell_of_heap hh5];rfl
     have hwl:wr.heap.size < W5.heap.size:=(Array.getElem?_eq_some_iff.1 hh5).1;dsimp only at HJ;generalize toldE aggs gs[k].plain=er at *;generalize toldV aggs gs[k].plain=tv at *;generalize gs[k].A=kA at *;generalize gs[k].c=kc' at *;generalize gs[k].vb=vb at *;obtain⟨kn,hkn⟩:∃ kn,kn=gs[k].ks.length:=⟨_,rfl⟩;rw[←hkn]at HT1 HJ i0 x0 HH5 HW5;generalize gs[k].ks=kx at *;clear hc0 hc1 hgp hr1 hr2 hr3 hkr hvn hrx hW5 b5 hh5 HT he hp hks hva hvl hkn HNO HYES HP HGS HB HO hgl hBg
     -- @c
     go_wp2_with (rw[←HW5.out])
     refine(HT1.out).mono ?_;rintro q w6 ⟨v6,rfl,HO6,HB6⟩;clear HT1
     by_cases h0:er=0
     ·subst h0
      have ho6:=HO6.out rfl;obtain⟨A6,c6,hv6,-,-,hrow6⟩:=ho6.row;subst hv6;have HBw6:=Hi (bthen HBW5.out HB6.out);have y0:=(HB6.out.cell (p:=⟨wr.heap.size,0,none⟩) hwl).trans x0;have HJ6:=Hi (HJ.out w6 HBw6.out A6 c6 tv hrow6 hdl);have HO7:=Hi (HO5.out.later HB6.out)
      have C':Hid (∀ x∈el.take (k+1),x=0):=by
       rw[HTN.out];refine Hi fun x h => ?_
       rcases List.mem_append.1 h with h | h
       ·exact HC.out x h
       ·rw[List.mem_singleton]at h
        exact h
      generalize tv.length=tl at *;clear HO6 ho6 hrow6 HB6 HJ HC HTN HNO1 HBW5 HO5 x0 x1 HH5 HW5;go_wp2_with fail;refine(HJ6.out).mono ?_;rintro q w8 ⟨v8,rfl,HO8,HB8⟩;have hq:=(HO7.out.lt w2.heap.size rfl).2;obtain⟨A8,c8,rfl,hoff⟩:=HO8.out.off (B':=w2.heap.size) (g:=some w2.heap.size) HBw6.out.size (fun k e=>by injection e with e;omega)
      have hlen:k < (pl.take k++List.replicate (m - k) ([]:List BV.V)).length:=by rw[List.length_append,List.length_take,List.length_replicate,HLP.out];omega
      obtain⟨h6,u0,h7,h8⟩:=ownR_put (HO7.out.later HB8.out) k hlen A8 c8 _ hoff;rw[HPN.out]at h6;have HO9:=Hi h6;have HB9:=Hi ((bthen HBw6.out HB8.out).setCell (p:=⟨w2.heap.size,k,none⟩) (Nat.le_refl _) (.slice A8 (kx++tv).length c8));have hkn:(k:Int) < (m:Int):=by omega
      generalize (kx++tv).length=lp at *;clear HO8 HB8 hoff h6 HJ6 HPN hlen;go_wp2_with fail
      go_roundw
      case rel=>exact⟨k+1,by omega,by go_num,C',HO9,HB9⟩
      case measure=>simp[intOf];omega
     ·have e0:(er != 0)=true:=by simpa using h0
      have HFIN:=Hi (HNO1.out w6 h0 (Hi (bthen HBw2.out (bthen HBW5.out HB6.out))));clear HO6 HJ HPN HC HNO1 HTN;go_wp2_with fail
      first | exact HFIN.out | (go_ret2;exact HFIN.out)
    ·obtain rfl:k=m:=by omega
     have h:=HO.out;rw[Nat.sub_self,List.replicate_zero,List.append_nil,List.take_of_length_le (by rw[HLP.out];exact Nat.le_refl _)]at h
     have hc:=HC.out;rw[List.take_of_length_le (by rw[HLQ.out];exact Nat.le_refl _)]at hc
     have HFIN:=Hi (HYES.out _ wr hc (Hi h) (Hi (bthen HBw2.out HB.out)));clear h hc HO HC HP HNO HYES;go_wp2_with fail
     first | exact HFIN.out | (go_ret2;exact HFIN.out)
  ·have e0:(E1 != 0)=true:=by simpa using h1
   rw[if_neg h1];obtain⟨PO,hPO⟩:∃ PO,RowsE w E1 (l.map fun g=>g.ks++toldV aggs g)=PO:=⟨_,rfl⟩
   rw[hPO]
   have HFN:Hid (∀ W,Below w.heap.size w W→PO (.returned (.tuple #[.slice none 0 0,.int .i64 E1])) W):=Hi fun W hb=>by
    rw[←hPO];exact rowsE_no h1 (Hi hb)
   clear hPO;go_enter Tryz.func21,Tryz.ntmps21;go_wp2_with fail;refine(HCN.out).mono ?_;rintro q w1 ⟨rfl,hb1⟩;have HB1:=Hi hb1;have HG1:=Hi (HGR.out w1 hb1);unfold GrpPost at HG1;clear hb1 HCN HGR
   -- @a
   go_wp2_with fail;refine(HG1.out).mono ?_;rintro q w2 ⟨lv,rfl,HL,HB2⟩;have HBw2:=Hi (bthen HB1.out HB2.out);clear HG1;have HFIN:=Hi (HFN.out w2 HBw2.out);clear HL HB2 HFN;go_wp2_with fail
   first | exact HFIN.out | (go_ret2;exact HFIN.out)
 ·rw[if_pos rfl]
  rw[hw]at HCN;clear hw HGR HAL HWD;go_enter Tryz.func21,Tryz.ntmps21;go_wp2_with fail;refine(HCN.out).mono ?_;rintro q w1 ⟨rfl,hb1⟩;have HB1:=Hi hb1;go_wp2_with fail
  go_ret2
  exact rowsE_no (by decide) HB1
end Go.Proofs.YtcicpjgnpcnnmaaGreatDoor
namespace Go.Proofs.YtcicpjgnpcnnmaaGreatDoor
open Go.RowKit
def intV(i:Int):BV.V:=⟨2,i,⟨#[]⟩⟩
def NumsAt(w:World)(A:Option Addr)(zs:List Int):Prop:=0 < zs.length→∃ b off,A=some ⟨b,off,none⟩∧b < w.heap.size∧∀ j (h:j < zs.length),w.cell? ⟨b,off+j,none⟩=some (.int .i64 zs[j])
theorem nums_of{w:World}{b:Nat}{zs:List Int}(h:w.heap[b]? = some (.cells (zs.map (Value.int .i64)).toArray 2 (0,0))):NumsAt w (some ⟨b,0,none⟩) zs:=fun _ =>
 ⟨b,0,rfl,(Array.getElem?_eq_some_iff.1 h).1,fun j hj=>by rw[Lib.cell_of_heap h];simp[hj]⟩
theorem int_more{w wr:World}{v:Value}{xs:List BV.V}(ho:OwnV wr w.heap.size v xs)(hb:Below w.heap.size w wr)(i:Int)(hl:xs.length≤1000) :
  ∃ v' w',(Builtin.append_ #[39,39] 39 #[v,.slice (some ⟨wr.heap.size,0,none⟩) 1 1]).run Tryz.prog (wr.alloc (.cells #[.int .i64 2,.int .i64 i,.string ⟨#[]⟩] 26)) = .ok v' w'∧Hid (OwnV w' w.heap.size v' (xs ++ [intV i]))∧Hid (Below w.heap.size w w'):=by
 have hs:=hb.size;have hy:=OwnV.alloc ho (.cells #[.int .i64 2,.int .i64 i,.string ⟨#[]⟩] 26);have ha:=hb.alloc hs (.cells #[.int .i64 2,.int .i64 i,.string ⟨#[]⟩] 26);obtain⟨v',w6,hrun,h,hg,-⟩:=ownV_app 39 39 Tryz.underlying39 hy [intV i] (some ⟨wr.heap.size,0,none⟩) 1 (one_at wr (intV i)) (by simp;omega) (by simp;omega)
 exact⟨v',w6,hrun,Hi h,Hi (below_grown ha hg (by simp;omega) fun k hk=>(OwnV.block hy hk).1)⟩
theorem ints_any(zs:List Int)(A:Option Addr)(c:Nat)(w:World)(ha:NumsAt w A zs)(hl:zs.length≤1000) :
  Calls Tryz.prog 23 #[.slice A zs.length c] w (Made w (zs.map intV)):=by
 obtain⟨n,hn⟩:∃ n,n=zs.length:=⟨_,rfl⟩;have HZ:Hid (∀ k,k < n→∃ h:k < zs.length,(zs.take (k+1)).map intV=(zs.take k).map intV ++ [intV zs[k]]):=Hi fun k h=>⟨by omega,by rw[take_next (by omega),List.map_append];rfl⟩
 have HALL:Hid (zs.take n=zs):=Hi (by rw[hn];exact List.take_length)
 have HL:Hid (∀ k,((zs.take k).map intV).length≤1000):=Hi fun k=>by rw[List.length_map,List.length_take];omega
 have RA:=Hi ha;have HN:=Hi hn;rw[←hn]at hl ⊢;clear ha hn;go_enter Tryz.func23,Tryz.ntmps23;go_wp2_with fail
 go_loopw [8,3] (fun i ov wr=>∃ (k:Nat) (o:Value),o=ov∧k≤n∧i = .int .i64 k∧Hid (OwnV wr w.heap.size o ((zs.take k).map intV))∧Hid (Below w.heap.size w wr)) (fun i _ _=>n - (intOf i).toNat)
 case atStart=>exact⟨0,_,rfl,Nat.zero_le _,rfl,Hi (OwnV.nil _ _),Hi (Below.refl _ _)⟩
 case round =>
  obtain⟨k,o,rfl,hk,rfl,HO,HB⟩:=hrel
  by_cases hlt:k < n
  ·obtain⟨hkx,hnx⟩:=HZ.out k hlt
   obtain⟨ba,offa,hAa,hbla,hca⟩:=RA.out (by omega)
   subst hAa;have e1:=(HB.out.cell (p:=⟨ba,_,none⟩) hbla).trans (hca k hkx);generalize zs[k]=z at *;have HNX:=Hi hnx;have HC:=Hi (rInt1 z wr);clear hca hnx;go_wp2_with fail;refine(HC.out).mono ?_;rintro q w3 ⟨rfl,b3⟩;obtain⟨v7,w7,hrun,HO7,HB7⟩:=int_more (HO.out.later b3) (bthen HB.out b3) z (HL.out k);rw[←HNX.out]at HO7;clear b3 HC HO HB e1
   go_wp2_with (at_builtin;refine Lib.wpList_append_run_sl _ rfl _ _ 39 rfl _ _ rfl rfl hrun ?_)
   go_roundw
   case rel=>exact⟨k+1,_,rfl,by omega,by go_num,HO7,HB7⟩
   case measure=>simp[intOf];omega
  ·obtain rfl:k=n:=by omega
   rw[HALL.out]at HO;go_wp2_with fail
   go_ret
   exact⟨_,rfl,HO,HB⟩
def livE:E:=op1 [61] [atE 0,atE 1]
def cntA:Ag:=⟨⟨#[99,111,117,110,116]⟩,true,.mk [] ⟨0,0,[]⟩ [] [] []⟩
theorem allOk_nu(a b:Int):BV.allOk [nuV a,nuV b]=true:=by simp[BV.allOk,chk_num]
theorem rel_eq(a b:Int):deedP [61] [] [nuV a,nuV b]=(0,tru (a == b)):=by
 rw[dp_rel [] _ (by decide)]
 have hk:LG.knB (str [61])=true:=by
  unfold LG.knB;simp only[Lib.toList_data,str_list]
  rfl
 have h1:LG.relE (str [61]) (nuV a) (nuV b)=0:=by
  unfold LG.relE;rw[allOk_nu,hk]
  simp[nuV]
 show(LG.relE (str [61]) (nuV a) (nuV b),LG.relR (str [61]) (nuV a) (nuV b))=_
 rw[h1]
 congr 1
 unfold LG.relR;rw[if_pos ⟨h1,by simp[nuV],by simp[nuV]⟩]
 have hc:BV.cmpV (nuV a).k (nuV a).i (nuV a).s (nuV b).k (nuV b).i (nuV b).s=BV.cmpI a b:=by
  have h2:BV.cmpI 2 2=0:=by decide
  simp only[BV.cmpV,nuV,h2,if_true]
  by_cases h:BV.cmpI a b=0
  ·simp only[h,if_true]
   rfl
  ·simp only[h,if_false]
 rw[hc];unfold LG.soB;simp only[Lib.toList_data,str_list];unfold LG.tV tru LG.bi
 by_cases h:a=b
 ·subst h
  simp[BV.cmpI]
 ·have h2:¬BV.cmpI a b=0:=by unfold BV.cmpI;split <;> (try split) <;> omega
  simp[h,h2]
theorem ev_at1(r:List BV.V)(i:Nat)(h:i < r.length):(atE i).ev deedP r=(0,r[i]):=by
 rw[ev_at];unfold atP;rw[if_pos ⟨by omega,by omega⟩]
 simp[h]
theorem liv_ev(a b:Int)(r:List BV.V):livE.ev deedP (nuV a::nuV b::r)=(0,tru (a == b)):=by
 have h0:=ev_at1 (nuV a::nuV b::r) 0 (by simp)
 have h1:=ev_at1 (nuV a::nuV b::r) 1 (by simp)
 rw[livE,ev_two [61] _ (atE 0) (atE 1) (nuV a) (nuV b) (by decide) (by decide) h0 h1]
 exact rel_eq a b
theorem liv_tru(a b:Int)(r:List BV.V):truP livE (nuV a::nuV b::r)=(0,a == b):=by
 unfold truP;rw[liv_ev];cases a == b <;> simp[tru,LG.isV,LG.bi,BV.sameB]
def liA:List (List BV.V):=[[nuV 1],[nuV 2]]
def liB:List (List BV.V):=[[nuV 1,nuV 5]]
def liJ:List (List BV.V):=[[nuV 1,nuV 1,nuV 5],[nuV 2,zW,zW]]
theorem liv_err:errsP (truP livE) (pairsP liA liB)=0:=by
 rw[errs_zero];intro r hr;simp only[pairsP,liA,liB,List.flatMap_cons,List.flatMap_nil,List.map_cons,List.map_nil,List.append_nil,List.cons_append,List.nil_append,List.mem_cons,List.not_mem_nil,or_false]at hr;rcases hr with rfl | rfl <;> rw[liv_tru]
theorem liv_join:JRes (truP livE) true false liA liB 1 2=liJ:=by
 unfold JRes;rw[if_pos liv_err];have h1:hitP (truP livE) [nuV 1] [nuV 1,nuV 5]=true:=by unfold hitP;rw[show [nuV 1] ++ [nuV 1,nuV 5]=nuV 1::nuV 1 :: [nuV 5] from rfl,liv_tru];rfl
 have h2:hitP (truP livE) [nuV 2] [nuV 1,nuV 5]=false:=by unfold hitP;rw[show [nuV 2] ++ [nuV 1,nuV 5]=nuV 2::nuV 1 :: [nuV 5] from rfl,liv_tru];rfl
 simp[jRows,jLeft,jOne,liA,liB,liJ,h1,h2]
def liG:List (List BV.V):=[[nuV 1],[nuV 1],[nuV 2]]
def liR:List (List BV.V):=[[nuV 1,nuV 2],[nuV 2,nuV 1]]
theorem vtx_nu(a:Int):vtx (nuV a)=BV.txt 2 a ⟨#[]⟩:=by
 unfold vtx;rw[if_pos (by simp[nuV,BV.mayB,emp_nil])]
 rfl
theorem rtx_ne:rtx [nuV 2]≠rtx [nuV 1]:=by
 intro h;unfold rtx at h;simp only[List.flatMap_cons,List.flatMap_nil,List.append_nil]at h;have h2:=List.append_cancel_right h;rw[vtx_nu,vtx_nu]at h2;have h3:=BV.txt_inj (k:=2) (i:=2) (s:=⟨#[]⟩) (k':=2) (i':=1) (s':=⟨#[]⟩) (by simp[BV.mayB,emp_nil]) (by simp[BV.mayB,emp_nil]) h2
 exact absurd h3.2.1 (by decide)
theorem proj_nu(a:Int):projV [atE 0] [nuV a] = [nuV a]∧projE [atE 0] [nuV a]=0:=by
 have h0:=ev_at1 [nuV a] 0 (by simp)
 unfold projV projE;have e:([atE 0].map fun e=>e.ev deedP [nuV a]) = [(0,nuV a)]:=by simp only[List.map_cons,List.map_nil];rw[show(0:Int)=((0:Nat):Int) from rfl,h0];rfl
 rw[e];exact⟨rfl,rfl⟩
theorem ask_cnt(r:List BV.V):askV [cntA] r = [nuV 1]∧askE [cntA] r=0:=⟨rfl,rfl⟩
theorem pair_nu(a:Int):pairG [atE 0] [cntA] [nuV a]=([nuV a],[nuV 1]):=by unfold pairG;rw[(proj_nu a).1,(ask_cnt _).1]
theorem row_nu(a:Int):rowE [atE 0] [cntA] [nuV a]=0:=by unfold rowE;rw[(proj_nu a).2,(ask_cnt _).2];rfl
theorem liv_groups:groupsP [atE 0] [cntA] liG = [⟨[nuV 1],[[nuV 1,nuV 1]]⟩,⟨[nuV 2],[[nuV 1]]⟩]:=by
 unfold groupsP liG;simp only[List.map_cons,List.map_nil,pair_nu];have hk:(nuV 1).k≠0:=by decide
 have s1:rowP 1 [] ([nuV 1],[nuV 1]) = [⟨[nuV 1],[[nuV 1]]⟩]:=by
  simp[rowP,grPl,grAt,txP,putsP,putP,hk]
 have s2:rowP 1 [⟨[nuV 1],[[nuV 1]]⟩] ([nuV 1],[nuV 1]) = [⟨[nuV 1],[[nuV 1,nuV 1]]⟩]:=by
  simp[rowP,grPl,grAt,txP,putsP,putP,hk]
 have s3:rowP 1 [⟨[nuV 1],[[nuV 1,nuV 1]]⟩] ([nuV 2],[nuV 1]) = [⟨[nuV 1],[[nuV 1,nuV 1]]⟩,⟨[nuV 2],[[nuV 1]]⟩]:=by
  have h1:¬rtx [nuV 1]=rtx [nuV 2]:=fun h=>rtx_ne h.symm
  have hb:(rtx [nuV 1] == rtx [nuV 2])=false:=by simpa using h1
  simp[rowP,grPl,grAt,txP,putsP,putP,hk,rtx_ne,hb,List.idxOf_cons]
 show grpP 1 (startP [atE 0] [cntA]) _=_
 have e0:startP [atE 0] [cntA] = []:=rfl;rw[e0];unfold grpP;simp only[List.foldl_cons,List.foldl_nil,s1,s2,s3]
theorem told_cnt(n:Int)(xs:List BV.V)(g:List BV.V)(h:(xs.length:Int)=n):toldV [cntA] ⟨g,[xs]⟩ = [nuV n]∧toldE [cntA] ⟨g,[xs]⟩=0:=by
 have e:toldL [cntA] ⟨g,[xs]⟩ = [(0,nuV n)]:=by
  unfold toldL;simp only[List.zipWith_cons_cons,List.zipWith_nil_right]
  have hc:isCount cntA.nm=true:=by
   unfold isCount cntA;simp only[Lib.toList_data]
   rfl
  rw[show aggP cntA.nm xs=(0,⟨2,(xs.length:Int),⟨#[]⟩⟩) by simp[aggP,hc],h]
  rfl
 unfold toldV toldE;rw[e];exact⟨rfl,rfl⟩
theorem liv_gl:groupL [atE 0] [cntA] liG=liR:=by
 unfold groupL;rw[liv_groups];simp only[List.map_cons,List.map_nil];rw[(told_cnt 2 [nuV 1,nuV 1] _ rfl).1,(told_cnt 1 [nuV 1] _ rfl).1]
 rfl
theorem liv_ge:groupE [atE 0] [cntA] liG=0:=by
 unfold groupE
 have hw:cntA.wrong=false:=by
  unfold Ag.wrong wrongS cntA;simp only[Lib.toList_data]
  rfl
 rw[if_neg (by simp[hw]),liv_groups]
 simp only[List.map_cons,List.map_nil];rw[(told_cnt 2 [nuV 1,nuV 1] _ rfl).2,(told_cnt 1 [nuV 1] _ rfl).2];unfold liG;simp only[List.map_cons,List.map_nil,row_nu]
 rfl
theorem twoS{S:Nat→Prop}{w:World}(e1 e2:E)(A1 A2:Option Addr)(c1 c2:Nat)(h1:Sub S w e1 A1 c1)(h2:Sub S w e2 A2 c2)(o:List UInt8)(v:Vl)(t n:List UInt8) :
  Sub (fun _=>True) (w.alloc (.cells #[.string (str e1.op),.int .i64 e1.v.k,.int .i64 e1.v.i,.string (str e1.v.s),.string (str e1.tb),.string (str e1.nm),.slice A1 e1.l.length c1,.string (str e2.op),.int .i64 e2.v.k,.int .i64 e2.v.i,.string (str e2.v.s),.string (str e2.tb),.string (str e2.nm),.slice A2 e2.l.length c2] 29)) (.mk o v t n [e1,e2]) (some ⟨w.heap.size,0,none⟩) 2:=by
 have hb:=bel_allocE (Below.refl w.heap.size w) (.cells #[.string (str e1.op),.int .i64 e1.v.k,.int .i64 e1.v.i,.string (str e1.v.s),.string (str e1.tb),.string (str e1.nm),.slice A1 e1.l.length c1,.string (str e2.op),.int .i64 e2.v.k,.int .i64 e2.v.i,.string (str e2.v.s),.string (str e2.tb),.string (str e2.nm),.slice A2 e2.l.length c2] 29);have hh:=heap_alloc_new w (.cells #[.string (str e1.op),.int .i64 e1.v.k,.int .i64 e1.v.i,.string (str e1.v.s),.string (str e1.tb),.string (str e1.nm),.slice A1 e1.l.length c1,.string (str e2.op),.int .i64 e2.v.k,.int .i64 e2.v.i,.string (str e2.v.s),.string (str e2.tb),.string (str e2.nm),.slice A2 e2.l.length c2] 29);refine⟨Nat.le_refl _,by unfold maxLen;omega,fun _=>⟨w.heap.size,0,rfl,trivial,by simp,?_⟩⟩
 have s1:=(sub_later h1 hb).keep (S':=fun _=>True) (fun _ _ _=>⟨trivial,rfl⟩) (Nat.le_refl _)
 have s2:=(sub_later h2 hb).keep (S':=fun _=>True) (fun _ _ _=>⟨trivial,rfl⟩) (Nat.le_refl _)
 generalize w.alloc _=W at *;refine⟨⟨A1,c1,?_,s1⟩,⟨A2,c2,?_,s2⟩,trivial⟩
 ·refine⟨?_,?_,?_,?_,?_,?_,?_⟩ <;> (rw[Lib.cell_of_heap hh];rfl)
 ·refine⟨?_,?_,?_,?_,?_,?_,?_⟩ <;> (rw[Lib.cell_of_heap hh];rfl)
theorem oneS{S:Nat→Prop}{w:World}(e1:E)(A1:Option Addr)(c1:Nat)(h1:Sub S w e1 A1 c1)(o:List UInt8)(v:Vl)(t n:List UInt8) :
  Sub (fun _=>True) (w.alloc (.cells #[.string (str e1.op),.int .i64 e1.v.k,.int .i64 e1.v.i,.string (str e1.v.s),.string (str e1.tb),.string (str e1.nm),.slice A1 e1.l.length c1] 29)) (.mk o v t n [e1]) (some ⟨w.heap.size,0,none⟩) 1:=by
 have hb:=bel_allocE (Below.refl w.heap.size w) (.cells #[.string (str e1.op),.int .i64 e1.v.k,.int .i64 e1.v.i,.string (str e1.v.s),.string (str e1.tb),.string (str e1.nm),.slice A1 e1.l.length c1] 29);have hh:=heap_alloc_new w (.cells #[.string (str e1.op),.int .i64 e1.v.k,.int .i64 e1.v.i,.string (str e1.v.s),.string (str e1.tb),.string (str e1.nm),.slice A1 e1.l.length c1] 29);refine⟨Nat.le_refl _,by unfold maxLen;omega,fun _=>⟨w.heap.size,0,rfl,trivial,by simp,?_⟩⟩
 have s1:=(sub_later h1 hb).keep (S':=fun _=>True) (fun _ _ _=>⟨trivial,rfl⟩) (Nat.le_refl _)
 generalize w.alloc _=W at *;refine⟨⟨A1,c1,?_,s1⟩,trivial⟩;refine⟨?_,?_,?_,?_,?_,?_,?_⟩ <;> (rw[Lib.cell_of_heap hh];rfl)
def RowR(w:World)(xs:List BV.V)(q:Ending)(w':World):Prop:=∃ A c,q = .returned (.slice A xs.length c)∧Hid (BV.RowAt w' w'.heap.size A xs∧xs.length≤c)∧Hid (Below w.heap.size w w')
theorem rowR_of{w:World}{xs:List BV.V}{q:Ending}{w':World}(h:Made w xs q w'):RowR w xs q w':=by
 obtain⟨v,rfl,ho,hb⟩:=h;obtain⟨A,c,rfl,hc,-,hr⟩:=ho.out.row;exact⟨A,c,rfl,Hi ⟨hr,hc⟩,hb⟩
theorem ints_la(zs:List Int)(w:World)(n b:Nat)(hn:n=zs.length)(hb:b=w.heap.size)(cs:Array Value)(hc:cs=(zs.map (Value.int .i64)).toArray)(hl:zs.length≤1000) :
  Calls Tryz.prog 23 #[.slice (some ⟨b,0,none⟩) n n] (w.alloc (.cells cs 2)) (RowR (w.alloc (.cells cs 2)) (zs.map intV)):=by
 subst hn hb hc;exact(ints_any zs _ _ _ (nums_of (heap_alloc_new w _)) hl).mono fun _ _ h=>rowR_of h
theorem la_lit(w:World)(rs:List BV.R)(cs:Array Value)(hcs:cs=(rs.map BV.R.val).toArray)(hrs:∀ r∈rs,BV.RowAt w w.heap.size r.A r.xs∧r.xs.length≤r.c):LA (w.alloc (.cells cs 39)) (some ⟨w.heap.size,0,none⟩) rs.length rs.length (rs.map BV.R.xs) :=
 ⟨rs,rfl,rfl,Nat.le_refl _,BV.rows_made w rs (fun r hr=>(hrs r hr).1) cs hcs 39,fun r hr=>(hrs r hr).2⟩
theorem liv_fit(x:List BV.V)(hx:∀ v∈x,(-9223372036854775808≤v.i∧v.i≤9223372036854775807)∧v.s.size≤100000):livE.fit deedP x:=fit_small x hx livE (by decide) (by decide) (by decide)
theorem livJ_call(w:World)(A B:Option Addr)(ca cb g:Nat)(ha:LA w A 2 ca liA)(hb:LA w B 1 cb liB)(hs:Sub (fun _=>True) w livE (some ⟨g,0,none⟩) 2)(hE:SC.Env w) :
  Calls Tryz.prog 17 #[.string ⟨#[108,101,102,116]⟩,.slice A 2 ca,.slice B 1 cb,.int .i64 1,.int .i64 2,.agg #[.string ⟨#[61]⟩,.int .i64 0,.int .i64 0,.string ⟨#[]⟩,.string ⟨#[]⟩,.string ⟨#[]⟩,.slice (some ⟨g,0,none⟩) 2 2]] w (ToldR w 0 liJ):=by
 have h:=join_la ⟨#[108,101,102,116]⟩ true false sidesLeft crossLeft (wa:=1) (wb:=2) ha hb (e:=livE) (x:= .agg #[.string ⟨#[61]⟩,.int .i64 0,.int .i64 0,.string ⟨#[]⟩,.string ⟨#[]⟩,.string ⟨#[]⟩,.slice (some ⟨g,0,none⟩) 2 2]) ⟨_,_,rfl,hs⟩ hE (by omega) (by omega) (by decide) (by decide) (by omega) (by omega) (fun x hx y hy=>liv_fit _ (by
  intro v hv;simp only[liA,liB,List.mem_cons,List.not_mem_nil,or_false]at hx hy;rcases hx with rfl | rfl <;> subst hy <;> simp only[List.cons_append,List.nil_append,List.mem_cons,List.not_mem_nil,or_false]at hv <;> rcases hv with rfl | rfl | rfl <;> exact⟨by decide,by decide⟩))
 rw[liv_err,liv_join]at h;exact h
theorem livG_call(w:World)(A B G:Option Addr)(ca cb cg:Nat)(ha:LA w A 3 ca liG)(hs:Sub (fun _=>True) w (.mk [] v0 [] [] [atE 0]) B cb)(hg:AgsAt (fun _=>True) w G [cntA])(hE:SC.Env w)(hE':BV.Env w) :
  Calls Tryz.prog 21 #[.slice A 3 ca,.slice B 1 cb,.slice G 1 cg] w (ToldR w 0 liR):=by
 obtain⟨rs,h1,h2,-,h3,-⟩:=ha
 have hm:∀ r∈rs,∃ a:Int,r.xs = [nuV a]∧0≤a∧a≤2:=fun r hr=>by
  have:r.xs∈liG:=by rw[←h2];exact List.mem_map.2 ⟨r,hr,rfl⟩
  simp only[liG,List.mem_cons,List.not_mem_nil,or_false]at this;rcases this with h | h | h
  ·exact⟨1,h,by omega,by omega⟩
  ·exact⟨1,h,by omega,by omega⟩
  ·exact⟨2,h,by omega,by omega⟩
 have h:=group_any rs [atE 0] [cntA] v0 (fun _=>True) (fun _=>True) w A B G ca cb cg h3 (by omega) (fun r hr=>by obtain⟨a,e,-⟩:=hm r hr;rw[e];simp) hs hg hE hE' (fun r hr e he=>by
  obtain⟨a,e2,ha,hb⟩:=hm r hr;rw[List.mem_singleton]at he;subst he;rw[e2];exact fit_small _ (fun v hv=>by rw[List.mem_singleton]at hv;subst hv;exact⟨⟨by show -9223372036854775808≤a;omega,by show a≤9223372036854775807;omega⟩,by show(0:Nat)≤100000;omega⟩) (atE 0) (by decide) (by decide) (by decide)) (fun r hr e he=>by
  obtain⟨a,e2,ha,hb⟩:=hm r hr;rw[List.mem_singleton]at he;subst he;rw[e2];have h0:=ev_at1 [nuV a] 0 (by simp)
  rw[show(atE 0).ev deedP [nuV a]=(0,nuV a) from h0]
  exact⟨by show -9223372036854775808≤a;omega,by show a≤9223372036854775807;omega,by show(0:Nat)≤1000000;omega⟩) (fun r hr a ha hs=>by
  rw[List.mem_singleton]at ha;subst ha;exact absurd hs (by decide)) (fun r hr v hv=>by
  rw[(ask_cnt r.xs).1,List.mem_singleton]at hv;subst hv;exact⟨by decide,by decide⟩) (by decide) (by decide)
 rw[h2,liv_gl,liv_ge,h1]at h;refine h.mono ?_;rintro q w' ⟨v,rfl,ho,hb⟩;obtain⟨A',c',rfl,hl⟩:=la_own (show OwnR w' w.heap.size v _ by have:=ho.out;rwa [if_pos rfl]at this)
 exact⟨A',c',rfl,Hi hl,hb⟩
theorem one_alloc(w:World)(o:Obj):Below w.heap.size w (w.alloc o):=(Below.refl _ _).alloc (Nat.le_refl _) o
theorem liveR_any(w:World)(hE:SC.Env w)(hE':BV.Env w):Calls Tryz.prog 7 #[] w fun q w'=>q = .returned (.bool true)∧Below w.heap.size w w':=by
 have HE:=Hi hE;have HE':=Hi hE';have hsz:=hE'.size;clear hE hE';go_enter Tryz.func7,Tryz.ntmps7;go_wp2_with fail;refine(ints_la [1] w 1 _ rfl rfl #[.int .i64 1] rfl (by decide)).mono ?_
 rintro q w1 ⟨A1,c1,rfl,R1,B1⟩;have B1:=Hi (bthen (one_alloc w _) B1.out);go_wp2_with fail;refine(ints_la [2] w1 1 _ rfl rfl #[.int .i64 2] rfl (by decide)).mono ?_
 rintro q w2 ⟨A2,c2,rfl,R2,B2⟩;have B2:=Hi (bthen (one_alloc w1 _) B2.out)
 have HL1:Hid (LA (w2.alloc (.cells #[.slice A1 1 c1,.slice A2 1 c2] 39)) (some ⟨w2.heap.size,0,none⟩) 2 2 liA):=Hi (la_lit w2 [⟨A1,c1,[intV 1]⟩,⟨A2,c2,[intV 2]⟩] #[.slice A1 1 c1,.slice A2 1 c2] rfl (fun r hr=>by
  simp only[List.mem_cons,List.not_mem_nil,or_false]at hr;rcases hr with rfl | rfl
  ·exact⟨R1.out.1.later B2.out,R1.out.2⟩
  ·exact R2.out))
 have BW:=Hi (bthen B1.out B2.out);clear R1 R2 B1 B2
 -- @a
 go_wp2_with fail;refine(ints_la [1,5] (w2.alloc (.cells #[.slice A1 1 c1,.slice A2 1 c2] 39)) 2 _ rfl (by simp) #[.int .i64 1,.int .i64 5] rfl (by decide)).mono ?_
 rintro q w3 ⟨A3,c3,rfl,R3,B3⟩;have B3:=Hi (bthen (one_alloc (w2.alloc _) _) B3.out);have HL1:=Hi (HL1.out.later B3.out);have BW:=Hi (bthen BW.out (bthen (one_alloc w2 _) B3.out))
 have HL2:Hid (LA (w3.alloc (.cells #[.slice A3 2 c3] 39)) (some ⟨w3.heap.size,0,none⟩) 1 1 liB):=Hi (la_lit w3 [⟨A3,c3,[intV 1,intV 5]⟩] #[.slice A3 2 c3] rfl (fun r hr=>by
  rw[List.mem_singleton]at hr;subst hr;exact R3.out))
 have HL1:=Hi (HL1.out.later (one_alloc w3 (.cells #[.slice A3 2 c3] 39)));have BW:=Hi (bthen BW.out (one_alloc w3 (.cells #[.slice A3 2 c3] 39)));clear R3 B3
 -- @b
 go_wp2_with fail;refine(at1_any 0 _).mono ?_;rintro q w4 ⟨rfl,b4⟩;have HL1:=Hi (HL1.out.later b4);have HL2:=Hi (HL2.out.later b4);have BW:=Hi (bthen BW.out b4);clear b4;go_wp2_with fail;refine(at1_any 1 _).mono ?_;rintro q w5 ⟨rfl,b5⟩;have HL1:=Hi (HL1.out.later b5);have HL2:=Hi (HL2.out.later b5);have BW:=Hi (bthen BW.out b5);clear b5
 -- @c
 go_wp2_with fail;obtain⟨W6,hW6⟩:∃ W6:World,W6=w5.alloc (.cells #[.string ⟨#[97,116]⟩,.int .i64 2,.int .i64 0,.string ⟨#[]⟩,.string ⟨#[]⟩,.string ⟨#[]⟩,.slice none 0 0,.string ⟨#[97,116]⟩,.int .i64 2,.int .i64 1,.string ⟨#[]⟩,.string ⟨#[]⟩,.string ⟨#[]⟩,.slice none 0 0] 29):=⟨_,rfl⟩;have b6:Below w5.heap.size w5 W6:=by rw[hW6];exact one_alloc _ _
 have HS6:Hid (Sub (fun _=>True) W6 livE (some ⟨w5.heap.size,0,none⟩) 2):=Hi (by
  rw[hW6];exact twoS (atE 0) (atE 1) none none 0 0 (sub_none (fun _=>True) _ _ _ _ _) (sub_none (fun _=>True) _ _ _ _ _) [61] v0 [] [])
 have HL1:=Hi (HL1.out.later b6);have HL2:=Hi (HL2.out.later b6);have BW:=Hi (bthen BW.out b6);rw[←hW6];clear hW6 b6;refine(rOp1 _ _ _ _ _).mono ?_;rintro q w7 ⟨rfl,b7⟩;have HJ:=Hi (livJ_call w7 _ _ 2 1 w5.heap.size (HL1.out.later b7) (HL2.out.later b7) (sub_later HS6.out b7) (HE.out.later (bthen BW.out b7)));have BW:=Hi (bthen BW.out b7);clear b7 HL1 HL2 HS6
 -- @d
 go_wp2_with fail;refine(HJ.out).mono ?_;rintro q w8 ⟨AJ,cJ,rfl,HLJ,B8⟩;have BW:=Hi (bthen BW.out B8.out);clear HJ B8
 -- @e
 go_wp2_with fail;refine(ints_la [1] w8 1 _ rfl rfl #[.int .i64 1] rfl (by decide)).mono ?_
 rintro q w11 ⟨A11,c11,rfl,R11,B11⟩;have B11:=Hi (bthen (one_alloc w8 _) B11.out);have HLJ:=Hi (HLJ.out.later B11.out);have BW:=Hi (bthen BW.out B11.out);clear B11;go_wp2_with fail;refine(ints_la [1] w11 1 _ rfl rfl #[.int .i64 1] rfl (by decide)).mono ?_
 rintro q w12 ⟨A12,c12,rfl,R12,B12⟩;have B12:=Hi (bthen (one_alloc w11 _) B12.out);have HLJ:=Hi (HLJ.out.later B12.out);have BW:=Hi (bthen BW.out B12.out);have R11:=Hi (show BV.RowAt w12 w12.heap.size A11 _∧_ from⟨R11.out.1.later B12.out,R11.out.2⟩)
 clear B12;go_wp2_with fail;refine(ints_la [2] w12 1 _ rfl rfl #[.int .i64 2] rfl (by decide)).mono ?_
 rintro q w13 ⟨A13,c13,rfl,R13,B13⟩;have B13:=Hi (bthen (one_alloc w12 _) B13.out)
 have HLG:Hid (LA (w13.alloc (.cells #[.slice A11 1 c11,.slice A12 1 c12,.slice A13 1 c13] 39)) (some ⟨w13.heap.size,0,none⟩) 3 3 liG):=Hi (la_lit w13 [⟨A11,c11,[intV 1]⟩,⟨A12,c12,[intV 1]⟩,⟨A13,c13,[intV 2]⟩] #[.slice A11 1 c11,.slice A12 1 c12,.slice A13 1 c13] rfl (fun r hr=>by
  simp only[List.mem_cons,List.not_mem_nil,or_false]at hr;rcases hr with rfl | rfl | rfl
  ·exact⟨R11.out.1.later B13.out,R11.out.2⟩
  ·exact⟨R12.out.1.later B13.out,R12.out.2⟩
  ·exact R13.out))
 have HLJ:=Hi (HLJ.out.later (bthen B13.out (one_alloc w13 (.cells #[.slice A11 1 c11,.slice A12 1 c12,.slice A13 1 c13] 39))));have BW:=Hi (bthen BW.out (bthen B13.out (one_alloc w13 (.cells #[.slice A11 1 c11,.slice A12 1 c12,.slice A13 1 c13] 39))));clear R11 R12 R13 B13
 -- @f
 go_wp2_with fail;refine(at1_any 0 _).mono ?_;rintro q w14 ⟨rfl,b14⟩;have HLG:=Hi (HLG.out.later b14);have HLJ:=Hi (HLJ.out.later b14);have BW:=Hi (bthen BW.out b14);clear b14;obtain⟨W15,hW15⟩:∃ W15:World,W15=w14.alloc (.cells #[.string ⟨#[97,116]⟩,.int .i64 2,.int .i64 0,.string ⟨#[]⟩,.string ⟨#[]⟩,.string ⟨#[]⟩,.slice none 0 0] 29):=⟨_,rfl⟩;have b15:Below w14.heap.size w14 W15:=by rw[hW15];exact one_alloc _ _
 have HS15:Hid (Sub (fun _=>True) W15 (.mk [] v0 [] [] [atE 0]) (some ⟨w14.heap.size,0,none⟩) 1):=Hi (by
  rw[hW15];exact oneS (atE 0) none 0 (sub_none (fun _=>True) _ _ _ _ _) [] v0 [] [])
 have z15:W15.heap.size=w14.heap.size+1:=by rw[hW15];simp
 obtain⟨W16,hW16⟩:∃ W16:World,W16=W15.alloc (.cells #[.string ⟨#[99,111,117,110,116]⟩,.bool true,.string ⟨#[]⟩,.int .i64 0,.int .i64 0,.string ⟨#[]⟩,.string ⟨#[]⟩,.string ⟨#[]⟩,.slice none 0 0] 53):=⟨_,rfl⟩;have b16:Below W15.heap.size W15 W16:=by rw[hW16];exact one_alloc _ _
 have HG16:Hid (AgsAt (fun _=>True) W16 (some ⟨W15.heap.size,0,none⟩) [cntA]):=Hi (by
  have hh:=heap_alloc_new W15 (.cells #[.string ⟨#[99,111,117,110,116]⟩,.bool true,.string ⟨#[]⟩,.int .i64 0,.int .i64 0,.string ⟨#[]⟩,.string ⟨#[]⟩,.string ⟨#[]⟩,.slice none 0 0] 53);rw[←hW16]at hh;refine fun _=>⟨W15.heap.size,0,rfl,(Array.getElem?_eq_some_iff.1 hh).1,fun j hj => ?_⟩
  have hj0:j=0:=by simpa using hj
  subst hj0;refine⟨none,0,?_,sub_none (fun _=>True) _ _ _ _ _⟩
  refine⟨?_,?_,?_,?_,?_,?_,?_,?_,?_⟩ <;> (rw[Lib.cell_of_heap hh];rfl))
 have BW:=Hi (bthen BW.out (bthen b15 b16));have HG:=Hi (livG_call W16 _ (some ⟨w14.heap.size,0,none⟩) (some ⟨W15.heap.size,0,none⟩) 3 1 1 (HLG.out.later (bthen b15 b16)) (sub_later HS15.out b16) HG16.out (HE.out.later BW.out) (HE'.out.below BW.out hsz));have HLJ:=Hi (HLJ.out.later (bthen b15 b16));rw[z15]at HG;rw[hW15]at hW16;have HW16:=Hi hW16;clear hW15 hW16 b15 b16 z15 HS15 HG16 HLG
 -- @g
 go_wp2_with fail;rw[←HW16.out];refine(HG.out).mono ?_;rintro q w17 ⟨AG,cG,rfl,HLR,B17⟩;have HLJ:=Hi (HLJ.out.later B17.out);have BW:=Hi (bthen BW.out B17.out);clear HG B17 HW16
 -- @h
 go_wp2_with fail;refine(ints_la [1,1,5] w17 3 _ rfl rfl #[.int .i64 1,.int .i64 1,.int .i64 5] rfl (by decide)).mono ?_
 rintro q w18 ⟨A18,c18,rfl,R18,B18⟩;have B18:=Hi (bthen (one_alloc w17 _) B18.out);have HLJ:=Hi (HLJ.out.later B18.out);have HLR:=Hi (HLR.out.later B18.out);have BW:=Hi (bthen BW.out B18.out);clear B18;go_wp2_with fail;refine(rInt1 2 _).mono ?_;rintro q w19 ⟨rfl,b19⟩;have HLJ:=Hi (HLJ.out.later b19);have HLR:=Hi (HLR.out.later b19);have BW:=Hi (bthen BW.out b19);have R18:=Hi (show BV.RowAt w19 w19.heap.size A18 _∧_ from⟨R18.out.1.later b19,R18.out.2⟩)
 clear b19
 -- @i
 go_wp2_with fail;obtain⟨W20,hW20⟩:∃ W20:World,W20=w19.alloc (.cells #[.int .i64 2,.int .i64 2,.string ⟨#[]⟩,.int .i64 0,.int .i64 0,.string ⟨#[]⟩,.int .i64 0,.int .i64 0,.string ⟨#[]⟩] 26):=⟨_,rfl⟩;have b20:Below w19.heap.size w19 W20:=by rw[hW20];exact one_alloc _ _
 have z20:W20.heap.size=w19.heap.size+1:=by rw[hW20];simp
 have R20:BV.RowAt W20 W20.heap.size (some ⟨w19.heap.size,0,none⟩) [nuV 2,zW,zW]:=fun _=>by
  have hh:=heap_alloc_new w19 (.cells #[.int .i64 2,.int .i64 2,.string ⟨#[]⟩,.int .i64 0,.int .i64 0,.string ⟨#[]⟩,.int .i64 0,.int .i64 0,.string ⟨#[]⟩] 26);rw[←hW20]at hh;refine⟨w19.heap.size,0,rfl,by omega,fun j hj => ?_⟩
  have hj3:j=0∨j=1∨j=2:=by have:j < 3:=hj;omega
  rcases hj3 with rfl | rfl | rfl <;> (refine⟨?_,?_,?_⟩ <;> (rw[Lib.cell_of_heap hh];rfl))
 have HL20:Hid (LA (W20.alloc (.cells #[.slice A18 3 c18,.slice (some ⟨w19.heap.size,0,none⟩) 3 3] 39)) (some ⟨W20.heap.size,0,none⟩) 2 2 liJ):=Hi (la_lit W20 [⟨A18,c18,[intV 1,intV 1,intV 5]⟩,⟨some ⟨w19.heap.size,0,none⟩,3,[nuV 2,zW,zW]⟩] #[.slice A18 3 c18,.slice (some ⟨w19.heap.size,0,none⟩) 3 3] rfl (fun r hr=>by
  simp only[List.mem_cons,List.not_mem_nil,or_false]at hr;rcases hr with rfl | rfl
  ·exact⟨R18.out.1.later b20,R18.out.2⟩
  ·exact⟨R20,Nat.le_refl _⟩))
 have bX:=bthen b20 (one_alloc W20 (.cells #[.slice A18 3 c18,.slice (some ⟨w19.heap.size,0,none⟩) 3 3] 39));rw[z20]at HL20;have HS:=Hi (same_la (HLJ.out.later bX) HL20.out rfl (by decide) (by decide))
 have HLR:=Hi (HLR.out.later bX);have BW:=Hi (bthen BW.out bX);rw[hW20]at HS HLR BW;clear hW20 b20 z20 R20 HL20 bX R18 HLJ;refine(HS.out).mono ?_;rintro q w21 ⟨rfl,b21⟩;have HLR:=Hi (HLR.out.later b21);have BW:=Hi (bthen BW.out b21);clear b21 HS
 -- @j
 go_wp2_with fail;refine(ints_la [1,2] w21 2 _ rfl rfl #[.int .i64 1,.int .i64 2] rfl (by decide)).mono ?_
 rintro q w22 ⟨A22,c22,rfl,R22,B22⟩;have B22:=Hi (bthen (one_alloc w21 _) B22.out);have HLR:=Hi (HLR.out.later B22.out);have BW:=Hi (bthen BW.out B22.out);clear B22;go_wp2_with fail;refine(ints_la [2,1] w22 2 _ rfl rfl #[.int .i64 2,.int .i64 1] rfl (by decide)).mono ?_
 rintro q w23 ⟨A23,c23,rfl,R23,B23⟩;have B23:=Hi (bthen (one_alloc w22 _) B23.out)
 have HL23:Hid (LA (w23.alloc (.cells #[.slice A22 2 c22,.slice A23 2 c23] 39)) (some ⟨w23.heap.size,0,none⟩) 2 2 liR):=Hi (la_lit w23 [⟨A22,c22,[intV 1,intV 2]⟩,⟨A23,c23,[intV 2,intV 1]⟩] #[.slice A22 2 c22,.slice A23 2 c23] rfl (fun r hr=>by
  simp only[List.mem_cons,List.not_mem_nil,or_false]at hr;rcases hr with rfl | rfl
  ·exact⟨R22.out.1.later B23.out,R22.out.2⟩
  ·exact R23.out))
 have bX:=bthen B23.out (one_alloc w23 (.cells #[.slice A22 2 c22,.slice A23 2 c23] 39));have HS:=Hi (same_la (HLR.out.later bX) HL23.out rfl (by decide) (by decide))
 have BW:=Hi (bthen BW.out bX);clear R22 R23 B23 HL23 bX HLR
 -- @k
 go_wp2_with fail;refine(HS.out).mono ?_;rintro q w24 ⟨rfl,b24⟩;have BW:=Hi (bthen BW.out b24);clear b24 HS;go_wp2_with fail
 go_ret
 exact⟨rfl,BW.out⟩
end Go.Proofs.YtcicpjgnpcnnmaaGreatDoor
